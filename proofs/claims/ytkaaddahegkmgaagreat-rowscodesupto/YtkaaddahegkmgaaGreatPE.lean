/- The contract of bytes.Equal, and that of awake. -/
import Derived.Test.YtkaaddahegkmgaaGreatPU
import Derived.Shelf.Bytes.SlEqualAll
namespace Go.Proofs.YtkaaddahegkmgaaGreat
open Go.ChangeShapes Go.WideShapes Go.ChangeAt Go.RowKit
theorem conv_string (w : World) (p : Option Addr) (c : Nat) (l : List UInt8) (h : Lib.HoldsBytes w (.slice p l.length c) l) : (convert 26 9 (.slice p l.length c)).run Tryz.prog w = .ok (.string (strOfNums (Lib.numsL l))) w := by
  obtain ⟨p', c', e, h1, h2⟩ := h
  cases e
  have hb : Lib.BytesIn w p l.length (Lib.numsL l) := by
    cases p with
    | none =>
      have : l = [] := h1 rfl
      subst this
      exact Lib.BytesIn.nil w none _
    | some a =>
      refine Lib.BytesIn.of_cells (fun i hi => ?_)
      have := h2 a rfl i l[i] (List.getElem?_eq_getElem hi)
      rw [this]
      simp [Lib.numsL, List.getD, List.getElem?_eq_getElem hi]
  exact hb.convert (P := Tryz.prog) (Lib.numsL_length l) c 26 5 9 Tryz.underlying26 Tryz.underlying5 Tryz.underlying9
theorem equal_calls (v1 v2 : Value) (l1 l2 : List UInt8) (w : World) (h1 : Lib.HoldsBytes w v1 l1) (h2 : Lib.HoldsBytes w v2 l2) :
    Calls Tryz.prog 8 #[v1, v2] w fun e w' => e = .returned (.bool (l1 == l2)) ∧ w' = w := by
  obtain ⟨p1, c1, rfl, a1, b1⟩ := h1
  obtain ⟨p2, c2, rfl, a2, b2⟩ := h2
  have e1 := conv_string w p1 c1 l1 ⟨p1, c1, rfl, a1, b1⟩
  have e2 := conv_string w p2 c2 l2 ⟨p2, c2, rfl, a2, b2⟩
  clear a1 b1 a2 b2
  have t1 : (strOfNums (Lib.numsL l1)).toList = l1 := by rw [Lib.strOfNums_toList, Lib.bytesOf_numsL]
  have t2 : (strOfNums (Lib.numsL l2)).toList = l2 := by rw [Lib.strOfNums_toList, Lib.bytesOf_numsL]
  go_enter Tryz.func8, Tryz.ntmps8
  go_wp2
  go_ret
  exact ⟨rfl, rfl⟩
theorem holds_nil (w : World) : Lib.HoldsBytes w (.slice none 0 0) [] := ⟨none, 0, rfl, fun _ => rfl, fun a ha => by cases ha⟩
end Go.Proofs.YtkaaddahegkmgaaGreat
