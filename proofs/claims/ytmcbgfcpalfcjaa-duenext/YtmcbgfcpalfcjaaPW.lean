/- The contracts of the writers of pack: number, Num, Int, Bits, Text, Flag: the bytes, in new memory. -/
import Derived.Test.YtmcbgfcpalfcjaaPL
import Derived.Test.YtmcbgfcpalfcjaaPJ
namespace Go.Proofs.Ytmcbgfcpalfcjaa
open Go.ChangeShapes Go.WideShapes Go.ChangeAt Go.RowKit
/-- What a call that makes bytes leaves: they lie in new memory, with no room behind them; all that was there is as it was. -/
def NB (w : World) (l : List UInt8) (e : Ending) (w' : World) : Prop :=
  ∃ g, w.heap.size ≤ g ∧ e = .returned (.slice (some ⟨g, 0, none⟩) l.length l.length) ∧ Lib.HoldsBytes w' (.slice (some ⟨g, 0, none⟩) l.length l.length) l ∧ Below w.heap.size w w'
theorem holds_below {w w' : World} {v : Value} {l : List UInt8} (h : Lib.HoldsBytes w v l) (hb : Below w.heap.size w w') : Lib.HoldsBytes w' v l := by
  obtain ⟨p, cap, rfl, h1, h2⟩ := h
  exact ⟨p, cap, rfl, h1, fun a ha i x hx => Lib.Below.cellOf hb (h2 a ha i x hx) (Nat.le_refl _)⟩
theorem holds_buf {w w' : World} {g : Nat} {l : List UInt8} {T : Nat} (h : Lib.Buf w w' g T l) : Lib.HoldsBytes w' (.slice (some ⟨g, 0, none⟩) l.length l.length) l :=
  ⟨some ⟨g, 0, none⟩, l.length, rfl, (fun h => by cases h), fun a ha i x hx => by cases ha; rw [add_plain, Nat.zero_add]; exact h.holds i x hx⟩
theorem nb_buf {w w' : World} {l : List UInt8} {T : Nat} (hT : l.length = T) (h : Lib.Buf w w' w.heap.size T l) : NB w l (.returned (.slice (some ⟨w.heap.size, 0, none⟩) T T)) w' := by
  subst hT
  exact ⟨_, Nat.le_refl _, rfl, holds_buf h, h.below⟩
theorem nb_step {w w0 w' : World} {l : List UInt8} {e : Ending} (h0 : Below w.heap.size w w0) (h : NB w0 l e w') : NB w l e w' := by
  obtain ⟨g, h1, h2, h3, h4⟩ := h
  exact ⟨g, Nat.le_trans h0.size h1, h2, h3, h0.trans (h4.mono h0.size)⟩
theorem holds_bval (w : World) (l : List UInt8) : Lib.HoldsBytes (w.alloc (.cells (bval l).toArray 5)) (.slice (some ⟨w.heap.size, 0, none⟩) l.length l.length) l := by
  refine ⟨_, _, rfl, (fun h => by cases h), ?_⟩
  intro a ha i x hx
  cases ha
  rw [add_plain, Nat.zero_add]
  simp [bval, hx]
theorem holds_at {w : World} {h g n c : Nat} {l : List UInt8} (hg : h = g) (hh : Lib.HoldsBytes w (.slice (some ⟨h, 0, none⟩) n c) l) : Lib.HoldsBytes w (.slice (some ⟨g, 0, none⟩) n c) l := by subst hg; exact hh
theorem below_alloc (w : World) (o : Obj) : Below w.heap.size w (w.alloc o) := (Below.refl _ _).alloc (Nat.le_refl _) o
theorem nb_bval (w : World) (l : List UInt8) : NB w l (.returned (.slice (some ⟨w.heap.size, 0, none⟩) l.length l.length)) (w.alloc (.cells (bval l).toArray 5)) :=
  ⟨_, Nat.le_refl _, rfl, holds_bval w l, below_alloc w _⟩
theorem parts_two (w : World) (v0 v1 : Value) (l0 l1 : List UInt8) (h0 : Lib.HoldsBytes w v0 l0) (h1 : Lib.HoldsBytes w v1 l1) :
    Lib.PartsAt (w.alloc (.cells #[v0, v1] 59)) ⟨w.heap.size, 0, none⟩ [v0, v1] [l0, l1] := by
  refine ⟨rfl, ?_, ?_⟩
  · intro i v hv
    rw [add_plain, Nat.zero_add]
    match i, hv with
    | 0, hv => simp at hv; subst hv; simp
    | 1, hv => simp at hv; subst hv; simp
    | i + 2, hv => simp at hv
  · intro i v l hv hl
    match i, hv, hl with
    | 0, hv, hl => simp at hv hl; subst hv hl; exact holds_below h0 (below_alloc w _)
    | 1, hv, hl => simp at hv hl; subst hv hl; exact holds_below h1 (below_alloc w _)
    | i + 2, hv, hl => simp at hv
/-- A number's one form. -/
def nb (n : Nat) : Nat := (bl n + 7) / 8
def enc (n : Nat) : List UInt8 := if n < 240 then [UInt8.ofNat n] else UInt8.ofNat (239 + nb n) :: be n (nb n)
theorem bl_le (n : Nat) (h : n < 9223372036854775808) : bl n ≤ 63 := by
  unfold bl
  split
  · omega
  · have := (Nat.log2_lt (by omega)).2 (show n < 2 ^ 63 by simpa using h)
    omega
theorem nb_bounds (m : Nat) (h0 : 240 ≤ m) (h1 : m < 9223372036854775808) : 1 ≤ nb m ∧ nb m ≤ 8 := by
  have := bl_le m h1
  unfold nb
  have h2 : 1 ≤ bl m := by unfold bl; rw [if_neg (by omega)]; omega
  omega
end Go.Proofs.Ytmcbgfcpalfcjaa
