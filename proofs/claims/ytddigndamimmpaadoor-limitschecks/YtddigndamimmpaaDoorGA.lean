/- Which events may be: parts, numLimits, within, isKind, numbersFit, nameFits, valueFits, policyFits, Check. -/
import Derived.Test.YtddigndamimmpaaDoorLA
import Derived.Test.YtddigndamimmpaaDoorMB
import Derived.Test.YtddigndamimmpaaDoorVK
namespace Go.Proofs.YtddigndamimmpaaDoor
open Go.ChangeShapes Go.WideShapes Go.ChangeAt Go.RowKit
/-- The bits of what a kind has. -/
def pt (k : Int) : Int := if k = 1 then 54 else if k = 7 ∨ k = 12 ∨ k = 13 then 20 else if k = 14 ∨ k = 15 then 16 else if k = 2 then 3 else if k = 3 then 2 else if k = 9 then 6 else if k = 10 ∨ k = 11 then 4 else if k = 5 then 9 else if k = 16 ∨ k = 18 then 8 else 0
theorem pt_set (k : Int) : pt k = 54 ∨ pt k = 20 ∨ pt k = 16 ∨ pt k = 3 ∨ pt k = 2 ∨ pt k = 6 ∨ pt k = 4 ∨ pt k = 9 ∨ pt k = 8 ∨ pt k = 0 := by
  unfold pt
  (repeat' split) <;> simp
def bt (p b : Int) : Bool := decide ((p / b) % 2 = 1)
def hN (k : Int) : Bool := bt (pt k) 1
theorem andN (k : Int) : bits BinOp.and IntKind.i64 (pt k) 1 = if hN k then 1 else 0 := by
  unfold hN
  rcases pt_set k with h | h | h | h | h | h | h | h | h | h <;> rw [h] <;> decide +kernel
def hD (k : Int) : Bool := bt (pt k) 2
theorem andD (k : Int) : bits BinOp.and IntKind.i64 (pt k) 2 = if hD k then 2 else 0 := by
  unfold hD
  rcases pt_set k with h | h | h | h | h | h | h | h | h | h <;> rw [h] <;> decide +kernel
def hM (k : Int) : Bool := bt (pt k) 4
theorem andM (k : Int) : bits BinOp.and IntKind.i64 (pt k) 4 = if hM k then 4 else 0 := by
  unfold hM
  rcases pt_set k with h | h | h | h | h | h | h | h | h | h <;> rw [h] <;> decide +kernel
def hT (k : Int) : Bool := bt (pt k) 8
theorem andT (k : Int) : bits BinOp.and IntKind.i64 (pt k) 8 = if hT k then 8 else 0 := by
  unfold hT
  rcases pt_set k with h | h | h | h | h | h | h | h | h | h <;> rw [h] <;> decide +kernel
def hV (k : Int) : Bool := bt (pt k) 16
theorem andV (k : Int) : bits BinOp.and IntKind.i64 (pt k) 16 = if hV k then 16 else 0 := by
  unfold hV
  rcases pt_set k with h | h | h | h | h | h | h | h | h | h <;> rw [h] <;> decide +kernel
def hP (k : Int) : Bool := bt (pt k) 32
theorem andP (k : Int) : bits BinOp.and IntKind.i64 (pt k) 32 = if hP k then 32 else 0 := by
  unfold hP
  rcases pt_set k with h | h | h | h | h | h | h | h | h | h <;> rw [h] <;> decide +kernel
theorem andMT (k : Int) : bits BinOp.and IntKind.i64 (pt k) 12 = (if hM k then 4 else 0) + (if hT k then 8 else 0) := by
  unfold hM hT
  rcases pt_set k with h | h | h | h | h | h | h | h | h | h <;> rw [h] <;> decide +kernel
/-- The least and the greatest Num of a kind. -/
def nl (k : Int) : Int := if k = 2 then 1 else 0
def nm (k : Int) : Int := if k = 2 then 2147483648 else if k = 5 then 10 else 0
def wi (n a b : Int) : Bool := decide (a ≤ n) && decide (n ≤ b)
end Go.Proofs.YtddigndamimmpaaDoor
namespace Go.Proofs.YtddigndamimmpaaDoor
open Go.ChangeShapes Go.WideShapes Go.ChangeAt Go.RowKit
theorem cellB {w w' : World} {a : Addr} {v : Value} (h : w.cell? a = some v) (hb : Below w.heap.size w w') : w'.cell? a = some v := (hb.cell (World.block_lt_of_cell? w _ h)).trans h
def nf (k t n d : Int) : Bool := wi t 0 1099511627776 && wi n (nl k) (nm k) && wi d 0 (if hD k then 2199023255552 else 0)
theorem text40_calls (s : ByteArray) (w : World) : Calls Tryd.prog 29 #[.string s] w fun e w' => e = .returned (.bool (decide (s.size ≤ 200))) ∧ w' = w := by
  by_cases h : s.size ≤ 200
  · have h1 : (s.size : Int) ≤ 200 := by omega
    go_enter Tryd.func29, Tryd.ntmps29
    go_wp2
    go_ret
    simp [h]
  · have h1 : ¬ (s.size : Int) ≤ 200 := by omega
    go_enter Tryd.func29, Tryd.ntmps29
    go_wp2
    go_ret
    simp
def nmf (k : Int) (s : ByteArray) : Bool := if hM k then nmB s else if hT k then decide (s.size ≤ 200) else s.toList.isEmpty
/-- A yes or no, of which it is known when it is yes. -/
def FitP (P : Prop) (w : World) (e : Ending) (w' : World) : Prop := (∃ b : Bool, e = .returned (.bool b) ∧ (b = true ↔ P)) ∧ Below w.heap.size w w'
def zE : Tv := .mk 0 0 0 ⟨#[]⟩ []
theorem zE_is (w : World) (n : Nat) : Is w (n + 1) (.agg #[.int .i64 0, .int .i64 0, .int .u64 0, .string ⟨#[]⟩, .slice none 0 0]) zE :=
  ⟨none, 0, rfl, ⟨by decide, by decide, by decide, by decide, by decide, by decide, by decide, by decide, by decide⟩, fun i t h => by simp at h⟩
/-- A value that an event of that kind may have. -/
def VF (nn : Nat) (k : Int) (tv : Tv) : Prop := (hV k = true ∧ May nn tv) ∨ (hV k = false ∧ tv = zE)
def pf (k f : Int) (c : Nat) (m : Int) : Bool := if hP k then may f c m else (decide (f = 0) && decide (c = 0) && decide (m = 0))
end Go.Proofs.YtddigndamimmpaaDoor
namespace Go.Proofs.YtddigndamimmpaaDoor
open Go.ChangeShapes Go.WideShapes Go.ChangeAt Go.RowKit
/-- The thirteen cells of block B. -/
def At13 (w : World) (B : Nat) (c0 c1 c2 c3 c4 c5 c6 c7 c8 c9 c10 c11 c12 : Value) : Prop := w.cell? ⟨B, 0, none⟩ = some (c0) ∧ w.cell? ⟨B, 1, none⟩ = some (c1) ∧ w.cell? ⟨B, 2, none⟩ = some (c2) ∧ w.cell? ⟨B, 3, none⟩ = some (c3) ∧ w.cell? ⟨B, 4, none⟩ = some (c4) ∧ w.cell? ⟨B, 5, none⟩ = some (c5) ∧ w.cell? ⟨B, 6, none⟩ = some (c6) ∧ w.cell? ⟨B, 7, none⟩ = some (c7) ∧ w.cell? ⟨B, 8, none⟩ = some (c8) ∧ w.cell? ⟨B, 9, none⟩ = some (c9) ∧ w.cell? ⟨B, 10, none⟩ = some (c10) ∧ w.cell? ⟨B, 11, none⟩ = some (c11) ∧ w.cell? ⟨B, 12, none⟩ = some (c12)
theorem At13.below {w w' : World} {B : Nat} {c0 c1 c2 c3 c4 c5 c6 c7 c8 c9 c10 c11 c12 : Value} (h : At13 w B c0 c1 c2 c3 c4 c5 c6 c7 c8 c9 c10 c11 c12) (hb : Below w.heap.size w w') : At13 w' B c0 c1 c2 c3 c4 c5 c6 c7 c8 c9 c10 c11 c12 := by
  obtain ⟨h0, h1, h2, h3, h4, h5, h6, h7, h8, h9, h10, h11, h12⟩ := h
  exact ⟨cellB h0 hb, cellB h1 hb, cellB h2 hb, cellB h3 hb, cellB h4 hb, cellB h5 hb, cellB h6 hb, cellB h7 hb, cellB h8 hb, cellB h9 hb, cellB h10 hb, cellB h11 hb, cellB h12 hb⟩
theorem At13.box (w : World) (c0 c1 c2 c3 c4 c5 c6 c7 c8 c9 c10 c11 c12 : Value) : At13 (w.alloc (.cells #[c0, c1, c2, c3, c4, c5, c6, c7, c8, c9, c10, c11, c12] 54)) w.heap.size c0 c1 c2 c3 c4 c5 c6 c7 c8 c9 c10 c11 c12 := by
  refine ⟨?_, ?_, ?_, ?_, ?_, ?_, ?_, ?_, ?_, ?_, ?_, ?_, ?_⟩ <;> simp
/-- An event: its kind, time, number, due time, name, value, policy. -/
structure Ev where
  k : Int
  t : Int
  n : Int
  d : Int
  s : ByteArray
  v : Tv
  f : Int
  c : Nat
  m : Int
/-- An event that may be. -/
def MayE (N : Nat) (x : Ev) : Prop := wi x.k 1 19 = true ∧ nf x.k x.t x.n x.d = true ∧ nmf x.k x.s = true ∧ VF N x.k x.v ∧ pf x.k x.f x.c x.m = true
def CkP (P : Prop) (w : World) (e : Ending) (w' : World) : Prop := ∃ r : Int, e = .returned (.int .i64 r) ∧ (P → r = 0) ∧ (¬ P → r = 1) ∧ Below w.heap.size w w'
end Go.Proofs.YtddigndamimmpaaDoor
