/- The contract of fits: whether a value's own fields may be. -/
import Derived.Test.YtmcbgfcpalfcjaaVE
namespace Go.Proofs.Ytmcbgfcpalfcjaa
open Go.ChangeShapes Go.WideShapes Go.ChangeAt Go.RowKit Go.BigFrame
/-- A test's answer. -/
def FP (p : Prop) (w : World) (e : Ending) (w' : World) : Prop := (∃ r : Bool, e = .returned (.bool r) ∧ (r = true ↔ p)) ∧ Below w.heap.size w w'
theorem FP.yes {p : Prop} {w w' : World} (h : p) (hb : Below w.heap.size w w') : FP p w (.returned (.bool true)) w' := ⟨⟨true, rfl, fun _ => h, fun _ => rfl⟩, hb⟩
theorem FP.no {p : Prop} {w w' : World} (h : ¬ p) (hb : Below w.heap.size w w') : FP p w (.returned (.bool false)) w' := ⟨⟨false, rfl, fun h => (by cases h), fun q => absurd q h⟩, hb⟩
section
variable {k x : Int} {b b' : Nat} {s : ByteArray} {n : Nat}
theorem fits_yes (h1 : 0 ≤ k) (h2 : k ≤ 4) (h3 : k = 1 ∨ x = 0) (h4 : k = 2 ∨ b = 0) (h5 : b' = b) (h6 : k = 3 ∨ s.toList = []) (h7 : s.size ≤ 200) (h8 : k = 4 ∨ n = 0) (h9 : n ≤ 12) : FitsB k x b b' s n := ⟨h1, h2, h3, h4, h5, h6, h7, h8, h9⟩
theorem fits_no_l (h : ¬ 0 ≤ k) : ¬ FitsB k x b b' s n := fun q => h q.1
theorem fits_no_h (h : ¬ k ≤ 4) : ¬ FitsB k x b b' s n := fun q => h q.2.1
theorem fits_no_x (hk : k ≠ 1) (h : ¬ x = 0) : ¬ FitsB k x b b' s n := fun q => q.2.2.1.elim hk h
theorem fits_no_b (hk : k ≠ 2) (h : ¬ b = 0) : ¬ FitsB k x b b' s n := fun q => q.2.2.2.1.elim hk h
theorem fits_no_c (h : ¬ b' = b) : ¬ FitsB k x b b' s n := fun q => h q.2.2.2.2.1
theorem fits_no_s (hk : k ≠ 3) (h : ¬ s.toList = []) : ¬ FitsB k x b b' s n := fun q => q.2.2.2.2.2.1.elim hk h
theorem fits_no_z (h : ¬ s.size ≤ 200) : ¬ FitsB k x b b' s n := fun q => h q.2.2.2.2.2.2.1
theorem fits_no_n (hk : k ≠ 4) (h : ¬ n = 0) : ¬ FitsB k x b b' s n := fun q => q.2.2.2.2.2.2.2.1.elim hk h
theorem fits_no_m (h : ¬ n ≤ 12) : ¬ FitsB k x b b' s n := fun q => h q.2.2.2.2.2.2.2.2
end
/-- A value's own fields may be. -/
def Fits (k x b : Int) (s : ByteArray) (n : Nat) : Prop := FitsB k x b.toNat (cn b.toNat) s n
end Go.Proofs.Ytmcbgfcpalfcjaa
