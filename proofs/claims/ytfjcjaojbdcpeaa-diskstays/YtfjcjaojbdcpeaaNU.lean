/- What a crash leaves; a zone that is cut. -/
import Derived.Test.YtfjcjaojbdcpeaaNT
namespace Go.Proofs.Ytfjcjaojbdcpeaa
open Go.ChangeShapes Go.WideShapes Go.ChangeAt Go.RowKit Go.Maps
/-- How many of r unsure bytes the i-th zone keeps. -/
def kept (ks : List Int) (i : Nat) (r : Int) : Int := if ks = [] then 0 else min (max (ks.getD (i % ks.length) 0) 0) r
/-- What a crash leaves of the zones zs, the first of which is the i-th. -/
def crB (ks : List Int) (ss : Int → Int) : List Int → Nat → (Int → List UInt8) → (Int → List UInt8)
  | [], _, bs => bs
  | z :: r, i, bs => crB ks ss r (i + 1) (upd bs z ((bs z).take (ss z + kept ks i ((bs z).length - ss z)).toNat))
def Sur (bs : Int → List UInt8) (ss : Int → Int) : Prop := ∀ k, 0 ≤ ss k ∧ ss k ≤ ((bs k).length : Int)
theorem kept_in (ks : List Int) (i : Nat) {r : Int} (h : 0 ≤ r) : 0 ≤ kept ks i r ∧ kept ks i r ≤ r := by
  unfold kept
  split
  · omega
  · omega
theorem Sur.cut {bs : Int → List UInt8} {ss : Int → Int} (h : Sur bs ss) (z : Int) {m : Nat} (hm : m ≤ (bs z).length) (hs : ss z ≤ (m : Int)) : Sur (upd bs z ((bs z).take m)) ss := fun k => by
  by_cases e : k = z
  · subst e
    rw [upd_same, List.length_take]
    have := h k
    omega
  · rw [upd_other _ _ e]
    exact h k
theorem Dz.cut {lo g b n n' : Nat} {w w' : World} {D : DataW Value} {av : Int → Option Addr} {cv : Int → Nat} {bs : Int → List UInt8} {ss : Int → Int} (h : Dz lo w g b n D av cv bs ss) (k0 : KB b w w') {z : Int} (hz : 0 ≤ z ∧ z < 40) {m : Nat} (hm : m ≤ (bs z).length) (h0 : 0 ≤ ss z) (hs : ss z ≤ (m : Int))
    (hput : m ≠ 0 → Zm w' b n' (D.put (.int .i64 z) (.held (.agg #[.slice (av z) m (cv z), .int .i64 (ss z)])))) (hdel : m = 0 → Zm w' b n' (D.del (.int .i64 z))) :
    ∃ D' av' cv', Dz lo w' g b n' D' av' cv' (upd bs z ((bs z).take m)) ss := by
  have hIM := World.ownsMap.isMap h.zm
  have hwf : WideAt.IsKeyLit (.int .i64 z) := intKeyed.key (keyI (k := z) (zone_wf hz))
  have hstay : ∀ k, Own lo w' (.slice (av k) (bs k).length (cv k)) (bs k) := fun k => (h.own k).keep (fun B hB => k0.2.2.2.2 B ((h.own k).lt hB).2 (fun e => h.nb k (by rw [← blk_own _ (bs k).length (cv k), hB, e])))
  have hlen : ((bs z).take m).length = m := by rw [List.length_take]; omega
  by_cases hm0 : m = 0
  · have hs0 : ss z = 0 := by omega
    have ht : (bs z).take m = [] := by rw [hm0]; rfl
    rw [ht]
    refine ⟨D.del (.int .i64 z), upd av z none, upd cv z 0, ⟨hdel hm0, fun k => ?_, fun k => ?_, fun k hk => ?_, fun k => ?_, fun k k' B hkk hB => ?_, fun k => ?_, fun k => ?_, h.lg, h.lb, fun k => ?_⟩⟩
    · by_cases e : k = z
      · subst e
        rw [atKey_del_same, hs0]
        simp only [upd_same]
        rfl
      · rw [atKey_del_other (fun e2 => by injection e2 with _ e2; exact e e2)]
        simp only [upd_other _ _ e]
        exact h.hv k
    · by_cases e : k = z
      · subst e; rw [has_del_same, upd_same]; simp
      · rw [has_del_other (fun e2 => by injection e2 with _ e2; exact e e2), upd_other _ _ e]
        exact h.has k
    · by_cases e : k = z
      · subst e; exact hz
      · rw [upd_other _ _ e] at hk; exact h.ints k hk
    · by_cases e : k = z
      · subst e
        simp only [upd_same]
        exact Own.nil _ _
      · simp only [upd_other _ _ e]
        exact hstay k
    · by_cases e : k = z
      · subst e; rw [upd_same] at hB; cases hB
      · rw [upd_other _ _ e] at hB
        by_cases e' : k' = z
        · subst e'; rw [upd_same]; intro e4; cases e4
        · rw [upd_other _ _ e']; exact h.apart k k' B hkk hB
    · by_cases e : k = z
      · subst e; rw [upd_same]; intro e4; cases e4
      · rw [upd_other _ _ e]; exact h.ng k
    · by_cases e : k = z
      · subst e; rw [upd_same]; intro e4; cases e4
      · rw [upd_other _ _ e]; exact h.nb k
    · by_cases e : k = z
      · subst e; rw [upd_same]; simp
      · rw [upd_other _ _ e]; exact h.sm k
  · refine ⟨D.put (.int .i64 z) (.held (.agg #[.slice (av z) m (cv z), .int .i64 (ss z)])), av, cv, ⟨hput hm0, fun k => ?_, fun k => ?_, fun k hk => ?_, fun k => ?_, h.apart, h.ng, h.nb, h.lg, h.lb, fun k => ?_⟩⟩
    · by_cases e : k = z
      · subst e
        rw [atKey_put_same hIM hwf]
        simp only [upd_same, hlen]
      · rw [atKey_put_other (fun e2 => by injection e2 with _ e2; exact e e2)]
        simp only [upd_other _ _ e]
        exact h.hv k
    · by_cases e : k = z
      · subst e
        rw [has_put_same hIM hwf, upd_same]
        refine ⟨fun _ e2 => ?_, fun _ => rfl⟩
        rw [e2] at hlen
        exact hm0 hlen.symm
      · rw [has_put_other (fun e2 => by injection e2 with _ e2; exact e e2), upd_other _ _ e]
        exact h.has k
    · by_cases e : k = z
      · subst e; exact hz
      · rw [upd_other _ _ e] at hk; exact h.ints k hk
    · by_cases e : k = z
      · subst e
        rw [upd_same, hlen]
        exact (hstay k).cut hm
      · rw [upd_other _ _ e]
        exact hstay k
    · by_cases e : k = z
      · subst e
        rw [upd_same, hlen]
        have := h.sm k
        omega
      · rw [upd_other _ _ e]; exact h.sm k
end Go.Proofs.Ytfjcjaojbdcpeaa
