/- The contracts of the reference's Text, of its writers together, and of bytes.Clone. Condition: at most 2^46 bytes. -/
import Derived.Test.YtkaaddahegkmgaaPQ
import Derived.Lib.AppendStr
import Derived.Shelf.Bytes.SlClone
namespace Go.Proofs.Ytkaaddahegkmgaa
open Go.ChangeShapes Go.WideShapes Go.ChangeAt Go.RowKit
theorem own_holds {B : Nat} {w : World} {v : Value} {l : List UInt8} (h : Own B w v l) : Lib.HoldsBytes w v l := by
  have h0 : w.ownsRow B 5 1 v l.length (bval l) := h
  rcases h0.2 with ⟨rfl, hn⟩ | ⟨g, cap, cur, rfl, _⟩
  · have : l = [] := List.eq_nil_of_length_eq_zero hn
    subst this
    exact holds_nil w
  · refine ⟨_, _, rfl, (fun h => by cases h), ?_⟩
    intro a ha i x hx
    cases ha
    have hi : i < l.length := (List.getElem?_eq_some_iff.1 hx).1
    rw [add_plain, Nat.zero_add, h0.cellAt i (by omega)]
    simp [bval, hx]
end Go.Proofs.Ytkaaddahegkmgaa
