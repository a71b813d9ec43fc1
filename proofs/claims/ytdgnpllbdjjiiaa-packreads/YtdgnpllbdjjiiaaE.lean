/- The contract of bytes.Equal, and that of awake. -/
import Derived.Test.YtdgnpllbdjjiiaaU
import Derived.Shelf.Bytes.SlEqualAll
namespace Go.Proofs.Ytdgnpllbdjjiiaa
open Go.ChangeShapes Go.WideShapes Go.ChangeAt Go.RowKit
theorem conv_string (w : World) (p : Option Addr) (c : Nat) (l : List UInt8) (h : Lib.HoldsBytes w (.slice p l.length c) l) : (convert 22 9 (.slice p l.length c)).run Try.prog w = .ok (.string (strOfNums (Lib.numsL l))) w := by
  obtain ⟨p', c', e, h1, h2⟩ := h
  cases e
  have hb : Lib.BytesIn w p l.length (Lib.numsL l) := by
    cases p with
    | none =>
      have : l = [] := h1 rfl
      subst this
      exact Lib.BytesIn.nil w none _
    | some a =>
      refine Lib.BytesIn.of_cells (fun i hi => ?_)
      have := h2 a rfl i l[i] (List.getElem?_eq_getElem hi)
      rw [this]
      simp [Lib.numsL, List.getD, List.getElem?_eq_getElem hi]
  exact hb.convert (P := Try.prog) (Lib.numsL_length l) c 22 5 9 Try.underlying22 Try.underlying5 Try.underlying9
theorem equal_calls (v1 v2 : Value) (l1 l2 : List UInt8) (w : World) (h1 : Lib.HoldsBytes w v1 l1) (h2 : Lib.HoldsBytes w v2 l2) :
    Calls Try.prog 9 #[v1, v2] w fun e w' => e = .returned (.bool (l1 == l2)) ∧ w' = w := by
  obtain ⟨p1, c1, rfl, a1, b1⟩ := h1
  obtain ⟨p2, c2, rfl, a2, b2⟩ := h2
  have e1 := conv_string w p1 c1 l1 ⟨p1, c1, rfl, a1, b1⟩
  have e2 := conv_string w p2 c2 l2 ⟨p2, c2, rfl, a2, b2⟩
  clear a1 b1 a2 b2
  have t1 : (strOfNums (Lib.numsL l1)).toList = l1 := by rw [Lib.strOfNums_toList, Lib.bytesOf_numsL]
  have t2 : (strOfNums (Lib.numsL l2)).toList = l2 := by rw [Lib.strOfNums_toList, Lib.bytesOf_numsL]
  go_enter Try.func9, Try.ntmps9
  go_wp2
  go_ret
  exact ⟨rfl, rfl⟩
theorem holds_nil (w : World) : Lib.HoldsBytes w (.slice none 0 0) [] := ⟨none, 0, rfl, fun _ => rfl, fun a ha => by cases ha⟩
theorem enc_256 : enc 256 = [241, 1, 0] := by decide +kernel
theorem awake_calls (w : World) : Calls Try.prog 20 #[] w fun e w' => e = .returned (.bool true) ∧ Below w.heap.size w w' := by
  have NC := num_calls (.slice none 0 0) [] 256 (by omega) w (holds_nil w) (by simp)
  have e0 : ([] : List UInt8) ++ enc (256 : Int).toNat = [241, 1, 0] := enc_256
  rw [e0] at NC
  have HC : Hid (Calls Try.prog 10 #[.slice none 0 0, .int .i64 256] w (NB w [241, 1, 0])) := NC
  clear NC e0
  go_enter Try.func20, Try.ntmps20
  go_wp2_with fail
  refine HC.out.mono ?_
  intro e w1 hN
  obtain ⟨g, g1, rfl, g3, g4⟩ := hN
  have G1 : Hid (w.heap.size ≤ g) := g1
  have G3 : Hid (Lib.HoldsBytes w1 (.slice (some ⟨g, 0, none⟩) 3 3) [241, 1, 0]) := g3
  have G4 : Hid (Below w.heap.size w w1) := g4
  have P1 : Hid (Lib.HoldsBytes (w1.alloc (.cells #[.int .u8 241, .int .u8 1, .int .u8 0] 5)) (.slice (some ⟨w1.heap.size, 0, none⟩) 3 3) [241, 1, 0]) := holds_bval w1 [241, 1, 0]
  clear g1 g3 g4
  go_wp2_with fail
  refine (equal_calls _ _ _ _ _ (holds_below G3.out (below_alloc w1 _)) P1.out).mono ?_
  rintro e w2 ⟨rfl, rfl⟩
  go_wp2
  go_ret
  exact ⟨rfl, G4.out.alloc G4.out.size _⟩
end Go.Proofs.Ytdgnpllbdjjiiaa
