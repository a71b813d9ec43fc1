/- What a list has behind a put. -/
import Derived.Test.YtkaaddahegkmgaaRR
namespace Go.Proofs.Ytkaaddahegkmgaa
open Go.ChangeShapes Go.WideShapes Go.ChangeAt Go.RowKit
theorem pt_fst {α : Type} {key : α → ByteArray} {x : α} {xs ys : List α} (h : Pt key x xs ys) : ∃ i, Fst key ys (key x) i x := by
  rcases h with ⟨i, y, ⟨h1, h2, h3⟩, rfl⟩ | ⟨hno, i, hi, rfl⟩
  · have hl := (List.getElem?_eq_some_iff.1 h1).1
    refine ⟨i, List.getElem?_set_self hl, rfl, fun i' y' hlt hy => ?_⟩
    rw [List.getElem?_set_ne (by omega)] at hy
    exact h3 i' y' hlt hy
  · have hl : (xs.take i).length = i := by rw [List.length_take]; omega
    refine ⟨i, ?_, rfl, fun i' y' hlt hy => ?_⟩
    · rw [List.getElem?_append_right (by omega), hl, Nat.sub_self]
      rfl
    · rw [List.getElem?_append_left (by omega), List.getElem?_take_of_lt hlt] at hy
      exact hno y' (List.mem_of_getElem? hy)
theorem pt_ver {x : Rw} {xs ys : List Rw} (h : Pt (fun x : Rw => x.key) x xs ys) : VerIs ys x.key x.ver := by
  obtain ⟨i, hi⟩ := pt_fst h
  exact .inl ⟨i, x, hi, rfl⟩
/-- What stays of another key. -/
theorem pt_other {α : Type} {key : α → ByteArray} {x z : α} {xs ys : List α} {k : ByteArray} (h : Pt key x xs ys) (hk : k ≠ key x) {i : Nat} (hz : Fst key xs k i z) : ∃ j, Fst key ys k j z := by
  obtain ⟨z1, z2, z3⟩ := hz
  have hzl := (List.getElem?_eq_some_iff.1 z1).1
  rcases h with ⟨i0, y, ⟨h1, h2, h3⟩, rfl⟩ | ⟨hno, i0, hi0, rfl⟩
  · have hl := (List.getElem?_eq_some_iff.1 h1).1
    have hne : i0 ≠ i := fun e => by
      subst e
      rw [h1] at z1
      cases z1
      exact hk (z2.symm.trans h2)
    refine ⟨i, by rw [List.getElem?_set_ne hne]; exact z1, z2, fun i' y' hlt hy => ?_⟩
    by_cases he : i0 = i'
    · subst he
      rw [List.getElem?_set_self hl] at hy
      cases hy
      exact fun e => hk e.symm
    · rw [List.getElem?_set_ne he] at hy
      exact z3 i' y' hlt hy
  · have hl : (xs.take i0).length = i0 := by rw [List.length_take]; omega
    by_cases hlt : i < i0
    · refine ⟨i, by rw [List.getElem?_append_left (by omega), List.getElem?_take_of_lt hlt]; exact z1, z2, fun i' y' hlt' hy => ?_⟩
      rw [List.getElem?_append_left (by omega), List.getElem?_take_of_lt (by omega)] at hy
      exact z3 i' y' hlt' hy
    · refine ⟨i + 1, ?_, z2, fun i' y' hlt' hy => ?_⟩
      · rw [List.getElem?_append_right (by omega), hl, show i + 1 - i0 = (i - i0) + 1 by omega, List.getElem?_cons_succ, List.getElem?_drop, show i0 + (i - i0) = i by omega]
        exact z1
      · by_cases h1 : i' < i0
        · rw [List.getElem?_append_left (by omega), List.getElem?_take_of_lt h1] at hy
          exact z3 i' y' (by omega) hy
        · rw [List.getElem?_append_right (by omega), hl] at hy
          by_cases h2 : i' = i0
          · subst h2
            rw [Nat.sub_self] at hy
            cases hy
            exact fun e => hk e.symm
          · rw [show i' - i0 = (i' - i0 - 1) + 1 by omega, List.getElem?_cons_succ, List.getElem?_drop, show i0 + (i' - i0 - 1) = i' - 1 by omega] at hy
            exact z3 (i' - 1) y' (by omega) hy
end Go.Proofs.Ytkaaddahegkmgaa
