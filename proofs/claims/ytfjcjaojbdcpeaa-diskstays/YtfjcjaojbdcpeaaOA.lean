/- What a crash leaves of a zone: a beginning of what it had, with all that was sure. -/
import Derived.Test.YtfjcjaojbdcpeaaNU
namespace Go.Proofs.Ytfjcjaojbdcpeaa
open Go.ChangeShapes Go.WideShapes Go.ChangeAt Go.RowKit Go.Maps
theorem crB_pre (ks : List Int) (ss : Int → Int) (z : Int) : ∀ (zs : List Int) (i : Nat) (bs : Int → List UInt8), Sur bs ss → (bs z).take (ss z).toNat <+: crB ks ss zs i bs z ∧ crB ks ss zs i bs z <+: bs z
  | [], _, bs, _ => ⟨List.take_prefix _ _, List.prefix_refl _⟩
  | y :: r, i, bs, h => by
    have hy := h y
    have hk := kept_in ks i (r := ((bs y).length : Int) - ss y) (by omega)
    have hc := h.cut y (m := (ss y + kept ks i ((bs y).length - ss y)).toNat) (by omega) (by omega)
    obtain ⟨p1, p2⟩ := crB_pre ks ss z r (i + 1) _ hc
    rw [crB]
    by_cases e : z = y
    · subst e
      rw [upd_same] at p1 p2
      rw [List.take_take, Nat.min_eq_left (by omega)] at p1
      exact ⟨p1, p2.trans (List.take_prefix _ _)⟩
    · rw [upd_other _ _ e] at p1 p2
      exact ⟨p1, p2⟩
theorem sumN_upd (l : List UInt8) (z : Int) (h0 : 0 ≤ z) : ∀ N : Nat, sumN (upd (fun _ => []) z l) N = if z < (N : Int) then l.length else 0
  | 0 => by rw [if_neg (by omega)]; rfl
  | N + 1 => by
    rw [sumN, sumN_upd l z h0 N]
    by_cases e : ((N : Nat) : Int) = z
    · rw [e, upd_same, if_neg (by omega), if_pos (by omega)]
      omega
    · rw [upd_other _ _ e]
      by_cases h : z < (N : Int)
      · rw [if_pos h, if_pos (by omega)]; rfl
      · rw [if_neg h, if_neg (by omega)]; rfl
theorem used_upd (l : List UInt8) (z : Int) (h : 0 ≤ z ∧ z < 40) : used (upd (fun _ => []) z l) = l.length := by
  unfold used
  rw [sumN_upd l z h.1, if_pos (by omega)]
theorem zone_mod (z : Int) : ∃ z1, wrap64 ((IntKind.u64.wrap z).tmod 40) = z1 ∧ 0 ≤ z1 ∧ z1 < 40 := by
  refine ⟨_, rfl, ?_⟩
  have h0 : 0 ≤ IntKind.u64.wrap z := by
    simp only [IntKind.wrap, IntKind.signed, IntKind.bits]
    simp
    omega
  have h1 : (IntKind.u64.wrap z).tmod 40 = (IntKind.u64.wrap z) % 40 := Int.tmod_eq_emod_of_nonneg h0
  rw [h1]
  unfold wrap64
  omega
end Go.Proofs.Ytfjcjaojbdcpeaa
