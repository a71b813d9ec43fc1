/- The contracts of the reference's reader: take, Int, Bits, Flag. -/
import Derived.Test.YtimiklekajelfaaPY
namespace Go.Proofs.Ytimiklekajelfaa
open Go.ChangeShapes Go.WideShapes Go.ChangeAt Go.RowKit
theorem rtake_short (w : World) (g h : Nat) (l : List UInt8) (e : Int) (k : Nat) (hk : l.length < k) (r : RT w g h l e) :
    Calls Try.prog 48 #[.pointer (some ⟨g, 0, none⟩), .int .i64 (k : Int)] w (Rr w g h (.int .u64 0) [] (if e = 0 then 4 else e)) := by
  have FL := rfail_rt w g h l e 4 r
  have e1 : (if (e == 0 && (4 : Int) != 0) = true then ([] : List UInt8) else l) = [] := by
    rcases Classical.em (e = 0) with h0 | h0
    · subst h0; rfl
    · obtain ⟨p, c, _, _, _, _, _, _, _, he⟩ := r
      rw [he h0]; split <;> rfl
  have e2 : (if (e == 0) = true then (4 : Int) else e) = if e = 0 then 4 else e := by
    rcases Classical.em (e = 0) with h0 | h0
    · subst h0; rfl
    · rw [if_neg (by simpa using h0), if_neg h0]
  rw [e1, e2] at FL
  generalize (if e = 0 then 4 else e) = ee at FL ⊢
  have HF : Hid (Calls _ _ _ _ _) := FL
  obtain ⟨p, c, a0, a1, f0, f1, hl, hg, hb, he⟩ := r
  clear FL e1 e2 hb he
  have hkz : (l.length : Int) < (k : Int) := by omega
  go_enter Try.func48, Try.ntmps48
  go_wp2_with fail
  refine Calls.mono HF.out ?_
  rintro x w1 ⟨rfl, h1, h2⟩
  have H1 : Hid (RT _ _ _ _ _) := h1
  have H2 : Hid (KB _ _ _) := h2
  clear h1 h2 a0 a1 f0 f1
  go_wp2
  go_ret
  exact ⟨rfl, H1.out, H2.out⟩
theorem rtake_ok (w : World) (g h : Nat) (l : List UInt8) (k : Nat) (hk1 : 1 ≤ k) (hk8 : k ≤ 8) (hk : k ≤ l.length) (r : RT w g h l 0) :
    Calls Try.prog 48 #[.pointer (some ⟨g, 0, none⟩), .int .i64 (k : Int)] w (Rr w g h (.int .u64 ((valB (l.take k) : Nat) : Int)) (l.drop k) 0) := by
  obtain ⟨p, c, a0, a1, f0, f1, hl, hg, hb, he⟩ := r
  have hlne : l ≠ [] := by intro e; subst e; simp at hk; omega
  obtain ⟨o, rfl, hc⟩ := hb hlne
  have HC : Hid (∀ (i : Nat) x, l[i]? = some x → w.cell? ⟨h, o + i, none⟩ = some (.int .u8 (x.toNat : Int))) := hc
  have HR : Hid (RT (w.setCell ⟨g, 0, none⟩ (.slice (offA (some ⟨h, o, none⟩) c k) (l.length - k) (c - k))) g h (l.drop k) 0 ∧ KB g w (w.setCell ⟨g, 0, none⟩ (.slice (offA (some ⟨h, o, none⟩) c k) (l.length - k) (c - k)))) := by
    have hkb := KB.setCell g w 0 (.slice (offA (some ⟨h, o, none⟩) c k) (l.length - k) (c - k))
    refine ⟨⟨offA (some ⟨h, o, none⟩) c k, c - k, ?_, ?_, ?_, ?_, by rw [List.length_drop]; omega, hg, (hb.drop hl k).kb hkb hg, fun h => absurd rfl h⟩, hkb⟩
    · rw [World.cell?_setCell_same _ _ _ a0, List.length_drop]
    · rw [cell_other _ g 0 1 _ (by decide)]; exact a1
    · rw [World.frozen?_setCell]; exact f0
    · rw [World.frozen?_setCell]; exact f1
  have s1 := slice_from (some ⟨h, o, none⟩) l.length c k hk
  have hkz : ¬ ((l.length : Int) < (k : Int)) := by omega
  obtain ⟨L, hL⟩ : ∃ L, L = l.drop k := ⟨_, rfl⟩
  rw [← hL] at HR ⊢
  obtain ⟨V, hV⟩ : ∃ V, V = valB (l.take k) := ⟨_, rfl⟩
  have HVV : Hid (V = valB (l.take k)) := hV
  rw [← hV]
  clear hb he hc hlne hL hV
  go_enter Try.func48, Try.ntmps48
  go_wp2
  go_loop [5, 6] (fun x i => ∃ j X : Nat, j ≤ k ∧ i = .int .i64 j ∧ x = .int .u64 (X : Int) ∧ Hid (X = valB (l.take j))) (fun _ i => k - (intOf i).toNat)
  case atStart => exact ⟨0, 0, Nat.zero_le _, rfl, rfl, rfl⟩
  case round =>
    obtain ⟨j, X, hj, rfl, rfl, HXX⟩ := hrel
    by_cases hjk : j < k
    · have hjl : j < l.length := by omega
      have hx : l[j]? = some l[j] := List.getElem?_eq_getElem hjl
      generalize l[j] = b at hx
      have hcell := HC.out j b hx
      have HS : Hid (valB (l.take (j + 1)) = X * 256 + b.toNat) := by
        show _ = _
        rw [valB_take _ _ _ hx, HXX.out]
      have hXb : (X : Int) ≤ 72057594037927935 := by
        have h1 := valB_lt (l.take j)
        rw [← HXX.out, List.length_take] at h1
        have h2 : (256 : Nat) ^ min j l.length ≤ 256 ^ 7 := Nat.pow_le_pow_right (by decide) (by omega)
        have h3 : (256 : Nat) ^ 7 = 72057594037927936 := by decide +kernel
        omega
      have hbb : (b.toNat : Int) ≤ 255 := by have := b.toNat_lt; omega
      have hjz : (j : Int) < (l.length : Int) := by omega
      clear hx
      go_wp2
      go_round
      case rel => exact ⟨j + 1, X * 256 + b.toNat, by omega, by go_num, by go_num, HS.out.symm⟩
      case measure => simp [intOf]; omega
    · obtain rfl : j = k := by omega
      have hXV : X = V := by rw [HXX.out, HVV.out]
      subst hXV
      go_wp2
      go_ret
      exact ⟨rfl, HR.out⟩
/-- The error behind bytes that end too early. -/
def se (e : Int) : Int := if e = 0 then 4 else e
theorem se_ne (e : Int) : (se e != 0) = true ∧ (se e == 0) = false := by
  unfold se
  by_cases h : e = 0
  · rw [if_pos h]; exact ⟨rfl, rfl⟩
  · rw [if_neg h]; simp [h]
theorem rt_live {w : World} {g h : Nat} {l : List UInt8} {e : Int} (r : RT w g h l e) (hl : l ≠ []) : e = 0 := by
  obtain ⟨p, c, _, _, _, _, _, _, _, he⟩ := r
  rcases Classical.em (e = 0) with h0 | h0
  · exact h0
  · exact absurd (he h0) hl
theorem rtake_short' (w : World) (g h : Nat) (l : List UInt8) (e : Int) (k : Nat) (hk : l.length < k) (r : RT w g h l e) :
    Calls Try.prog 48 #[.pointer (some ⟨g, 0, none⟩), .int .i64 (k : Int)] w (Rr w g h (.int .u64 0) [] (se e)) := rtake_short w g h l e k hk r
theorem sInt_short (l : List UInt8) (e : Int) (h : l.length < 8) (hd : e ≠ 0 → l = []) : sInt l e = (0, [], se e) := by
  unfold sInt se
  rcases Classical.em (e = 0) with h0 | h0
  · rw [if_pos h0, if_pos h, if_pos h0]
  · rw [if_neg h0, if_neg h0, hd h0]
theorem sBits_short (l : List UInt8) (e : Int) (h : l.length < 8) (hd : e ≠ 0 → l = []) : sBits l e = (0, [], se e) := by
  unfold sBits se
  rcases Classical.em (e = 0) with h0 | h0
  · rw [if_pos h0, if_pos h, if_pos h0]
  · rw [if_neg h0, if_neg h0, hd h0]
theorem rt_nil {w : World} {g h : Nat} {l : List UInt8} {e : Int} (r : RT w g h l e) : e ≠ 0 → l = [] := by
  obtain ⟨p, c, _, _, _, _, _, _, _, he⟩ := r
  exact he
theorem sFlag_nil (e : Int) : sFlag [] e = (false, [], se e) := by
  unfold sFlag se
  by_cases h : e = 0
  · rw [if_pos h, if_pos h]
  · rw [if_neg h, if_neg h]
theorem rfirst (w : World) (g h : Nat) (b : UInt8) (t : List UInt8) (r : RT w g h (b :: t) 0) :
    Calls Try.prog 48 #[.pointer (some ⟨g, 0, none⟩), .int .i64 1] w (Rr w g h (.int .u64 (b.toNat : Int)) t 0) := by
  have h1 := rtake_ok w g h (b :: t) 1 (by omega) (by omega) (by simp) r
  have e : valB ((b :: t).take 1) = b.toNat := by simp [valB]
  rw [e] at h1
  simpa using h1
end Go.Proofs.Ytimiklekajelfaa
