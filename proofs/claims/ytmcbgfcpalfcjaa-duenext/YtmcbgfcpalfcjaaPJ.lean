/- The contract of join: the bytes of its parts, one behind the other, in new memory. Condition: together they fit 2^48 bytes. -/
import Derived.Test.YtmcbgfcpalfcjaaPA
import Derived.Lib.Join
namespace Go.Proofs.Ytmcbgfcpalfcjaa
open Go.ChangeShapes Go.WideShapes Go.ChangeAt Go.RowKit
theorem add_plain (b o i : Nat) : (⟨b, o, none⟩ : Addr).add i = ⟨b, o + i, none⟩ := by unfold Addr.add; split <;> simp_all
theorem size5 : (Try.prog.info? 5).map (·.size) = some 1 := by kernel_rfl
theorem flat_take (ls : List (List UInt8)) (i : Nat) (l : List UInt8) (h : ls[i]? = some l) : (ls.take (i + 1)).flatten = (ls.take i).flatten ++ l := by
  rw [List.take_add_one, h]; simp
theorem flat_len (ls : List (List UInt8)) : ls.flatten.length = Lib.lens ls := by
  unfold Lib.lens; rw [List.length_flatten]
theorem buf_start (w : World) (N : Nat) : Lib.Buf w (w.alloc (.cells (zeros N).toArray 5)) w.heap.size N [] := by
  have h := Lib.Buf.start w (zeros N).toArray 5 N 0 (by simp [zeros])
  exact h
end Go.Proofs.Ytmcbgfcpalfcjaa
