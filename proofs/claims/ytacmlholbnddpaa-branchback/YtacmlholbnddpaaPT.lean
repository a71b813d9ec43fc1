/- The reference's writers -/
import Derived.Test.YtacmlholbnddpaaPX
import Derived.Lib.AppendStr
import Derived.Shelf.Bytes.SlClone
namespace Go.Proofs.Ytacmlholbnddpaa
open Go.ChangeShapes Go.WideShapes Go.ChangeAt Go.RowKit
/-- The bytes l lie in memory from block B on, which the holder may append to. -/
def Own (B : Nat) (w : World) (v : Value) (l : List UInt8) : Prop := w.ownsRow B 5 1 v l.length (bval l)
theorem div_step (x i : Nat) : x / 256 ^ (i + 1) = x / 256 ^ i / 256 := by rw [Nat.pow_succ, Nat.div_div_eq_div_mul]
theorem pow_256 (j : Nat) : (256 : Nat) ^ j = 2 ^ (8 * j) := by rw [show (256 : Nat) = 2 ^ 8 from rfl, ← Nat.pow_mul]
theorem byte_lit (y : Nat) : Value.int .u8 ((y : Int) % 256) = .int .u8 ((UInt8.ofNat y).toNat : Int) := by
  have e : ((UInt8.ofNat y).toNat : Int) = (y : Int) % 256 := by rw [UInt8.toNat_ofNat']; omega
  rw [e]
end Go.Proofs.Ytacmlholbnddpaa
namespace Go.Proofs.Ytacmlholbnddpaa
open Go.ChangeShapes Go.WideShapes Go.ChangeAt Go.RowKit
theorem bl_lt (n : Nat) : n < 2 ^ bl n := by
  unfold bl
  split
  · subst_vars; simp
  · exact Nat.lt_log2_self
theorem bl_ge (n : Nat) (h : n ≠ 0) : 2 ^ (bl n - 1) ≤ n := by
  unfold bl
  rw [if_neg h]
  exact Nat.log2_self_le h
theorem nb_lt (n : Nat) : n < 2 ^ (8 * nb n) := by
  have h := bl_lt n
  have h2 : bl n ≤ 8 * nb n := by unfold nb; omega
  exact Nat.lt_of_lt_of_le h (Nat.pow_le_pow_right (by decide) h2)
theorem nb_ge (n : Nat) (h : n ≠ 0) : 2 ^ (8 * (nb n - 1)) ≤ n := by
  have h1 := bl_ge n h
  have h2 : 8 * (nb n - 1) ≤ bl n - 1 := by unfold nb; omega
  exact Nat.le_trans (Nat.pow_le_pow_right (by decide) h2) h1
theorem nb_less (n m : Nat) (hm : m ≠ 0) (h : nb n < nb m) : n < m := by
  have h1 := nb_lt n
  have h2 := nb_ge m hm
  have h3 : (2 : Nat) ^ (8 * nb n) ≤ 2 ^ (8 * (nb m - 1)) := Nat.pow_le_pow_right (by decide) (by omega)
  omega
theorem nb_of (x j : Nat) (h1 : x / 256 ^ j = 0) (h2 : j = 0 ∨ 0 < x / 256 ^ (j - 1)) : j = nb x := by
  have hp : 0 < 256 ^ j := Nat.pow_pos (by decide)
  have hx : x < 256 ^ j := by
    rcases Nat.lt_or_ge x (256 ^ j) with h | h
    · exact h
    · have := Nat.div_pos h hp; omega
  have a1 := nb_lt x
  rw [← pow_256] at a1
  by_cases h0 : x = 0
  · subst h0
    rcases h2 with h2 | h2
    · subst h2; decide
    · rw [Nat.zero_div] at h2; omega
  · have a2 := nb_ge x h0
    rw [← pow_256] at a2
    rcases Nat.lt_trichotomy j (nb x) with h | h | h
    · have : (256 : Nat) ^ j ≤ 256 ^ (nb x - 1) := Nat.pow_le_pow_right (by decide) (by omega)
      omega
    · exact h
    · rcases h2 with h2 | h2
      · omega
      · have h3 : (256 : Nat) ^ nb x ≤ 256 ^ (j - 1) := Nat.pow_le_pow_right (by decide) (by omega)
        have := Nat.div_eq_of_lt (Nat.lt_of_lt_of_le a1 h3)
        omega
theorem own_snoc {B : Nat} {w : World} {v : Value} {l : List UInt8} {b : UInt8} (h : w.ownsRow B 5 1 v (l.length + 1) (bval l ++ bval [b])) : Own B w v (l ++ [b]) := by
  show w.ownsRow B 5 1 v _ _
  have e1 : (l ++ [b]).length = l.length + 1 := by simp
  have e2 : bval (l ++ [b]) = bval l ++ bval [b] := by simp [bval]
  rw [e1, e2]
  exact h
/-- What the reference's writers leave: the bytes l, in memory of their own. -/
def RB (w : World) (l : List UInt8) (e : Ending) (w' : World) : Prop := ∃ v', e = .returned v' ∧ Own w.heap.size w' v' l ∧ Below w.heap.size w w'
end Go.Proofs.Ytacmlholbnddpaa
namespace Go.Proofs.Ytacmlholbnddpaa
open Go.ChangeShapes Go.WideShapes Go.ChangeAt Go.RowKit
theorem tn_lt (n : Int) (h : (Lit.int .i64 n).wf = true) : tn n < 18446744073709551616 := by
  simp only [Lit.wf, IntKind.min, IntKind.max, IntKind.signed, IntKind.bits, Bool.and_eq_true, decide_eq_true_eq, if_true] at h
  unfold tn; omega
end Go.Proofs.Ytacmlholbnddpaa
namespace Go.Proofs.Ytacmlholbnddpaa
open Go.ChangeShapes Go.WideShapes Go.ChangeAt Go.RowKit
theorem own_holds {B : Nat} {w : World} {v : Value} {l : List UInt8} (h : Own B w v l) : Lib.HoldsBytes w v l := by
  have h0 : w.ownsRow B 5 1 v l.length (bval l) := h
  rcases h0.2 with ⟨rfl, hn⟩ | ⟨g, cap, cur, rfl, _⟩
  · have : l = [] := List.eq_nil_of_length_eq_zero hn
    subst this
    exact holds_nil w
  · refine ⟨_, _, rfl, (fun h => by cases h), ?_⟩
    intro a ha i x hx
    cases ha
    have hi : i < l.length := (List.getElem?_eq_some_iff.1 hx).1
    rw [add_plain, Nat.zero_add, h0.cellAt i (by omega)]
    simp [bval, hx]
end Go.Proofs.Ytacmlholbnddpaa
