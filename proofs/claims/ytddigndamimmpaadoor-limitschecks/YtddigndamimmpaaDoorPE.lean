/- The contract of bytes.Equal, and that of awake. -/
import Derived.Test.YtddigndamimmpaaDoorPU
import Derived.Shelf.Bytes.SlEqualAll
namespace Go.Proofs.YtddigndamimmpaaDoor
open Go.ChangeShapes Go.WideShapes Go.ChangeAt Go.RowKit
theorem conv_string (w : World) (p : Option Addr) (c : Nat) (l : List UInt8) (h : Lib.HoldsBytes w (.slice p l.length c) l) : (convert 61 9 (.slice p l.length c)).run Tryd.prog w = .ok (.string (strOfNums (Lib.numsL l))) w := by
  obtain ⟨p', c', e, h1, h2⟩ := h
  cases e
  have hb : Lib.BytesIn w p l.length (Lib.numsL l) := by
    cases p with
    | none =>
      have : l = [] := h1 rfl
      subst this
      exact Lib.BytesIn.nil w none _
    | some a =>
      refine Lib.BytesIn.of_cells (fun i hi => ?_)
      have := h2 a rfl i l[i] (List.getElem?_eq_getElem hi)
      rw [this]
      simp [Lib.numsL, List.getD, List.getElem?_eq_getElem hi]
  exact hb.convert (P := Tryd.prog) (Lib.numsL_length l) c 61 5 9 Tryd.underlying61 Tryd.underlying5 Tryd.underlying9
theorem holds_nil (w : World) : Lib.HoldsBytes w (.slice none 0 0) [] := ⟨none, 0, rfl, fun _ => rfl, fun a ha => by cases ha⟩
end Go.Proofs.YtddigndamimmpaaDoor
