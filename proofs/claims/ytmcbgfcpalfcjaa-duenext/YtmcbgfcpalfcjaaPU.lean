/- The contract of pack's Text: how many bytes, and these. Condition: together at most 2^48 bytes. And join of one part. -/
import Derived.Test.YtmcbgfcpalfcjaaPV
namespace Go.Proofs.Ytmcbgfcpalfcjaa
open Go.ChangeShapes Go.WideShapes Go.ChangeAt Go.RowKit
theorem parts_three (w : World) (v0 v1 v2 : Value) (l0 l1 l2 : List UInt8) (h0 : Lib.HoldsBytes w v0 l0) (h1 : Lib.HoldsBytes w v1 l1) (h2 : Lib.HoldsBytes w v2 l2) :
    Lib.PartsAt (w.alloc (.cells #[v0, v1, v2] 59)) ⟨w.heap.size, 0, none⟩ [v0, v1, v2] [l0, l1, l2] := by
  refine ⟨rfl, ?_, ?_⟩
  · intro i v hv
    rw [add_plain, Nat.zero_add]
    match i, hv with
    | 0, hv => simp at hv; subst hv; simp
    | 1, hv => simp at hv; subst hv; simp
    | 2, hv => simp at hv; subst hv; simp
    | i + 3, hv => simp at hv
  · intro i v l hv hl
    match i, hv, hl with
    | 0, hv, hl => simp at hv hl; subst hv hl; exact holds_below h0 (below_alloc w _)
    | 1, hv, hl => simp at hv hl; subst hv hl; exact holds_below h1 (below_alloc w _)
    | 2, hv, hl => simp at hv hl; subst hv hl; exact holds_below h2 (below_alloc w _)
    | i + 3, hv, hl => simp at hv
theorem parts_one (w : World) (v0 : Value) (l0 : List UInt8) (h0 : Lib.HoldsBytes w v0 l0) :
    Lib.PartsAt (w.alloc (.cells #[v0] 59)) ⟨w.heap.size, 0, none⟩ [v0] [l0] := by
  refine ⟨rfl, ?_, ?_⟩
  · intro i v hv
    rw [add_plain, Nat.zero_add]
    match i, hv with
    | 0, hv => simp at hv; subst hv; simp
    | i + 1, hv => simp at hv
  · intro i v l hv hl
    match i, hv, hl with
    | 0, hv, hl => simp at hv hl; subst hv hl; exact holds_below h0 (below_alloc w _)
    | i + 1, hv, hl => simp at hv
theorem str_len (s : ByteArray) : s.data.toList.length = s.size := Array.length_toList
theorem conv_bytes (s : ByteArray) (w : World) : ∃ cap w', (convert 9 59 (.string s)).run Try.prog w = .ok (.slice (some ⟨w.heap.size, 0, none⟩) s.size cap) w' ∧
    Lib.HoldsBytes w' (.slice (some ⟨w.heap.size, 0, none⟩) s.size cap) s.data.toList ∧ Below w.heap.size w w' := by
  refine ⟨_, _, run_bytes_of_string (P := Try.prog) w 9 59 5 s Try.underlying9 Try.underlying59 Try.underlying5, ?_, ?_⟩
  · refine ⟨some ⟨w.heap.size, 0, none⟩, _, by rw [str_len], (fun h => by cases h), ?_⟩
    intro a ha i x hx
    cases ha
    rw [add_plain, Nat.zero_add]
    have := World.cell?_alloc_mark w.drew (bytesRow s (grownCap w s.size 0 5)) 5 ((bytesRow s (grownCap w s.size 0 5)).size, (bytesRow s (grownCap w s.size 0 5)).size + 1) i
    rw [show w.drew.heap.size = w.heap.size from rfl] at this
    rw [this]
    have hi : i < s.data.size := by
      have := (List.getElem?_eq_some_iff.1 hx).1
      simpa using this
    unfold bytesRow
    rw [Array.getElem?_append_left (by simpa using hi)]
    simp at hx
    simp [hx]
  · exact ((Below.refl _ w).drew).alloc (Nat.le_refl _) _
end Go.Proofs.Ytmcbgfcpalfcjaa
