/- What a value in memory is, as a tree, and that it stays while memory grows; the contracts of the statements' own shallow and fine: they return. -/
import Derived.Test.YtjmonkhkcmcfiaaRows
import Derived.WalkKit
import Derived.WalkLawsBesides
import Derived.WalkSpells
import Derived.ProofKit
import Derived.OpenShut
import Derived.Below
import Derived.Lib.SlBuf
import Derived.Deep.LoopGhost
namespace Go.Proofs.Ytjmonkhkcmcfiaa
open Go.ChangeShapes Go.WideShapes Go.ChangeAt Go.RowKit
/-- A value: its kind, its whole number, its bits, its text, its list. -/
inductive Tv where
  | mk (k x b : Int) (s : ByteArray) (l : List Tv)
/-- The five cells at p of block B. -/
def At5 (w : World) (B p : Nat) (c0 c1 c2 c3 c4 : Value) : Prop :=
  w.cell? ⟨B, p, none⟩ = some c0 ∧ w.cell? ⟨B, p + 1, none⟩ = some c1 ∧ w.cell? ⟨B, p + 2, none⟩ = some c2 ∧ w.cell? ⟨B, p + 3, none⟩ = some c3 ∧ w.cell? ⟨B, p + 4, none⟩ = some c4
/-- The numbers of a value fit their kinds. -/
structure Fit (k x b : Int) (s : ByteArray) (n c : Nat) : Prop where
  k0 : -9223372036854775808 ≤ k
  k1 : k ≤ 9223372036854775807
  x0 : -9223372036854775808 ≤ x
  x1 : x ≤ 9223372036854775807
  b0 : 0 ≤ b
  b1 : b ≤ 18446744073709551615
  s1 : s.size ≤ 9223372036854775807
  n1 : n ≤ c
  c1 : c ≤ 9223372036854775807
/-- The values of a list lie in memory, one behind the other. -/
def Row (R : Value → Tv → Prop) (w : World) (a : Option Addr) (l : List Tv) : Prop :=
  ∀ i t, l[i]? = some t → ∃ B o c0 c1 c2 c3 c4, a = some ⟨B, o, none⟩ ∧ At5 w B (o + i * 5) c0 c1 c2 c3 c4 ∧ R (.agg #[c0, c1, c2, c3, c4]) t
/-- v is the value t in w, at most n lists deep. -/
def Is (w : World) : Nat → Value → Tv → Prop
  | 0, _, _ => False
  | n + 1, v, .mk k x b s l => ∃ a c, v = .agg #[.int .i64 k, .int .i64 x, .int .u64 b, .string s, .slice a l.length c] ∧ Fit k x b s l.length c ∧ Row (Is w n) w a l
theorem bel1 (w : World) (o : Obj) : Below w.heap.size w (w.alloc o) := (Below.refl _ w).alloc (Nat.le_refl _) o
theorem bel2 {w w1 w2 : World} (h : Below w.heap.size w w1) (k : Below w1.heap.size w1 w2) : Below w.heap.size w w2 := h.trans (k.mono h.size)
theorem wr1 {j N : Nat} (h : j < N) (hN : N ≤ 9223372036854775807) : wrap64 ((j : Int) + 1) = ((j + 1 : Nat) : Int) := by unfold wrap64; omega
theorem meas {j N : Nat} {z : Int} (h : j < N) (hw : z = ((j + 1 : Nat) : Int)) : N - (intOf (.int .i64 z)).toNat < N - (intOf (.int .i64 (j : Int))).toNat := by
  subst hw
  simp only [intOf]
  omega
theorem At5.below {w w' : World} {B p : Nat} {c0 c1 c2 c3 c4 : Value} (h : At5 w B p c0 c1 c2 c3 c4) (hb : Below w.heap.size w w') : At5 w' B p c0 c1 c2 c3 c4 := by
  have f : ∀ {q : Nat} {c : Value}, w.cell? ⟨B, q, none⟩ = some c → w'.cell? ⟨B, q, none⟩ = some c := fun hc => (hb.cell (World.block_lt_of_cell? w _ hc)).trans hc
  exact ⟨f h.1, f h.2.1, f h.2.2.1, f h.2.2.2.1, f h.2.2.2.2⟩
theorem Is.below {w w' : World} (hb : Below w.heap.size w w') : ∀ {n : Nat} {v : Value} {t : Tv}, Is w n v t → Is w' n v t
  | 0, _, _, h => h
  | n + 1, v, .mk k x b s l, ⟨a, c, hv, hf, hr⟩ => ⟨a, c, hv, hf, fun i t ht => by
      obtain ⟨B, o, c0, c1, c2, c3, c4, ha, h5, hi⟩ := hr i t ht
      exact ⟨B, o, c0, c1, c2, c3, c4, ha, h5.below hb, Is.below hb hi⟩⟩
theorem Row.below {w w' : World} (hb : Below w.heap.size w w') {n : Nat} {a : Option Addr} {l : List Tv} (h : Row (Is w n) w a l) : Row (Is w' n) w' a l := fun i t ht => by
  obtain ⟨B, o, c0, c1, c2, c3, c4, ha, h5, hi⟩ := h i t ht
  exact ⟨B, o, c0, c1, c2, c3, c4, ha, h5.below hb, Is.below hb hi⟩
theorem Is.up {w : World} : ∀ {n m : Nat} {v : Value} {t : Tv}, n ≤ m → Is w n v t → Is w m v t
  | 0, _, _, _, _, h => h.elim
  | n + 1, 0, _, _, hm, _ => by omega
  | n + 1, m + 1, v, .mk k x b s l, hm, ⟨a, c, hv, hf, hr⟩ => ⟨a, c, hv, hf, fun i t ht => by
      obtain ⟨B, o, c0, c1, c2, c3, c4, ha, h5, hi⟩ := hr i t ht
      exact ⟨B, o, c0, c1, c2, c3, c4, ha, h5, Is.up (by omega) hi⟩⟩
theorem Is.shape {w : World} : ∀ {n : Nat} {c0 c1 c2 c3 c4 : Value} {t : Tv}, Is w n (.agg #[c0, c1, c2, c3, c4]) t → ∃ k x b s a m c, c0 = .int .i64 k ∧ c1 = .int .i64 x ∧ c2 = .int .u64 b ∧ c3 = .string s ∧ c4 = .slice a m c
  | 0, _, _, _, _, _, _, h => h.elim
  | n + 1, _, _, _, _, _, .mk k x b s l, ⟨a, c, hv, _, _⟩ => by
    simp only [Value.agg.injEq, Array.mk.injEq, List.cons.injEq, and_true] at hv
    exact ⟨k, x, b, s, a, l.length, c, hv.1, hv.2.1, hv.2.2.1, hv.2.2.2.1, hv.2.2.2.2⟩
end Go.Proofs.Ytjmonkhkcmcfiaa
