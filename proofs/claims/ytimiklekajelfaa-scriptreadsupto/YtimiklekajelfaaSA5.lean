/- A struct of five cells in memory: its cells, its box, its result. -/
import Derived.Test.YtimiklekajelfaaPH
import Derived.Lib.AppendZeros
import Derived.Deep.DeepCutAuto
import Derived.Deep.MidRow
import Derived.RangeFuncBox
import Derived.Laws.Rows
import Derived.Laws.Tables
import Derived.Laws.OwnMore
import Derived.Deep.RegionHeld3
import Derived.BigQuiet
import Derived.Deep.WholeRow
import Derived.WalkKit
import Derived.WalkLawsBesides
import Derived.WalkSpells
import Derived.ProofKit
import Derived.OpenShut
import Derived.Below
import Derived.Lib.SlBuf
import Derived.Deep.LoopGhost
namespace Go.Proofs.Ytimiklekajelfaa
open Go.ChangeShapes Go.WideShapes Go.ChangeAt Go.RowKit
/-- The five cells at p of block B. -/
def At5 (w : World) (B p : Nat) (c0 c1 c2 c3 c4 : Value) : Prop :=
  w.cell? ⟨B, p, none⟩ = some c0 ∧ w.cell? ⟨B, p + 1, none⟩ = some c1 ∧ w.cell? ⟨B, p + 2, none⟩ = some c2 ∧ w.cell? ⟨B, p + 3, none⟩ = some c3 ∧ w.cell? ⟨B, p + 4, none⟩ = some c4
theorem bel1 (w : World) (o : Obj) : Below w.heap.size w (w.alloc o) := (Below.refl _ w).alloc (Nat.le_refl _) o
theorem bel2 {w w1 w2 : World} (h : Below w.heap.size w w1) (k : Below w1.heap.size w1 w2) : Below w.heap.size w w2 := h.trans (k.mono h.size)
theorem wr1 {j N : Nat} (h : j < N) (hN : N ≤ 9223372036854775807) : wrap64 ((j : Int) + 1) = ((j + 1 : Nat) : Int) := by unfold wrap64; omega
theorem meas {j N : Nat} {z : Int} (h : j < N) (hw : z = ((j + 1 : Nat) : Int)) : N - (intOf (.int .i64 z)).toNat < N - (intOf (.int .i64 (j : Int))).toNat := by
  subst hw
  simp only [intOf]
  omega
theorem At5.below {w w' : World} {B p : Nat} {c0 c1 c2 c3 c4 : Value} (h : At5 w B p c0 c1 c2 c3 c4) (hb : Below w.heap.size w w') : At5 w' B p c0 c1 c2 c3 c4 := by
  have f : ∀ {q : Nat} {c : Value}, w.cell? ⟨B, q, none⟩ = some c → w'.cell? ⟨B, q, none⟩ = some c := fun hc => (hb.cell (World.block_lt_of_cell? w _ hc)).trans hc
  exact ⟨f h.1, f h.2.1, f h.2.2.1, f h.2.2.2.1, f h.2.2.2.2⟩
theorem At5.kb {g : Nat} {w w' : World} {B p : Nat} {c0 c1 c2 c3 c4 : Value} (h : At5 w B p c0 c1 c2 c3 c4) (hb : KB g w w') (hg : B ≠ g) : At5 w' B p c0 c1 c2 c3 c4 :=
  ⟨hb.cell h.1 hg, hb.cell h.2.1 hg, hb.cell h.2.2.1 hg, hb.cell h.2.2.2.1 hg, hb.cell h.2.2.2.2 hg⟩
/-- Five cells of block g are written, from p on. -/
def set5 (w : World) (g p : Nat) (c0 c1 c2 c3 c4 : Value) : World :=
  ((((w.setCell ⟨g, p, none⟩ c0).setCell ⟨g, p + 1, none⟩ c1).setCell ⟨g, p + 2, none⟩ c2).setCell ⟨g, p + 3, none⟩ c3).setCell ⟨g, p + 4, none⟩ c4
theorem set5_kb (w : World) (g p : Nat) (c0 c1 c2 c3 c4 : Value) : KB g w (set5 w g p c0 c1 c2 c3 c4) :=
  ((((KB.setCell g w p c0).trans (KB.setCell g _ _ c1)).trans (KB.setCell g _ _ c2)).trans (KB.setCell g _ _ c3)).trans (KB.setCell g _ _ c4)
theorem set5_other (w : World) (g p q : Nat) (c0 c1 c2 c3 c4 : Value) (h : q < p ∨ p + 5 ≤ q) : (set5 w g p c0 c1 c2 c3 c4).cell? ⟨g, q, none⟩ = w.cell? ⟨g, q, none⟩ := by
  unfold set5
  have e : ∀ (W : World) (a : Nat) (u : Value), a ≠ q → (W.setCell ⟨g, a, none⟩ u).cell? ⟨g, q, none⟩ = W.cell? ⟨g, q, none⟩ := fun W a u hn => World.cell?_setCell_other W _ _ u (fun e => hn (by injection e))
  rw [e _ _ _ (by omega), e _ _ _ (by omega), e _ _ _ (by omega), e _ _ _ (by omega), e _ _ _ (by omega)]
theorem set5_at {w : World} {g p : Nat} {z0 z1 z2 z3 z4 : Value} (h : At5 w g p z0 z1 z2 z3 z4) (c0 c1 c2 c3 c4 : Value) : At5 (set5 w g p c0 c1 c2 c3 c4) g p c0 c1 c2 c3 c4 := by
  obtain ⟨h0, h1, h2, h3, h4⟩ := h
  have e : ∀ (W : World) (a b : Nat) (u : Value), a ≠ b → (W.setCell ⟨g, a, none⟩ u).cell? ⟨g, b, none⟩ = W.cell? ⟨g, b, none⟩ := fun W a b u hn => World.cell?_setCell_other W _ _ u (fun e => hn (by injection e))
  refine ⟨?_, ?_, ?_, ?_, ?_⟩
  · unfold set5
    rw [e _ _ _ _ (by omega), e _ _ _ _ (by omega), e _ _ _ _ (by omega), e _ _ _ _ (by omega)]
    exact World.cell?_setCell_same _ _ _ h0
  · unfold set5
    rw [e _ _ _ _ (by omega), e _ _ _ _ (by omega), e _ _ _ _ (by omega)]
    exact World.cell?_setCell_same _ _ _ ((e _ _ _ _ (by omega)).trans h1)
  · unfold set5
    rw [e _ _ _ _ (by omega), e _ _ _ _ (by omega)]
    exact World.cell?_setCell_same _ _ _ ((e _ _ _ _ (by omega)).trans ((e _ _ _ _ (by omega)).trans h2))
  · unfold set5
    rw [e _ _ _ _ (by omega)]
    exact World.cell?_setCell_same _ _ _ ((e _ _ _ _ (by omega)).trans ((e _ _ _ _ (by omega)).trans ((e _ _ _ _ (by omega)).trans h3)))
  · unfold set5
    exact World.cell?_setCell_same _ _ _ ((e _ _ _ _ (by omega)).trans ((e _ _ _ _ (by omega)).trans ((e _ _ _ _ (by omega)).trans ((e _ _ _ _ (by omega)).trans h4))))
theorem set5_beside {w : World} {g p q : Nat} {d0 d1 d2 d3 d4 : Value} (h : At5 w g q d0 d1 d2 d3 d4) (c0 c1 c2 c3 c4 : Value) (hq : q + 5 ≤ p ∨ p + 5 ≤ q) : At5 (set5 w g p c0 c1 c2 c3 c4) g q d0 d1 d2 d3 d4 :=
  ⟨(set5_other _ _ _ _ _ _ _ _ _ (by omega)).trans h.1, (set5_other _ _ _ _ _ _ _ _ _ (by omega)).trans h.2.1, (set5_other _ _ _ _ _ _ _ _ _ (by omega)).trans h.2.2.1, (set5_other _ _ _ _ _ _ _ _ _ (by omega)).trans h.2.2.2.1, (set5_other _ _ _ _ _ _ _ _ _ (by omega)).trans h.2.2.2.2⟩
theorem set5_frozen (w : World) (g p : Nat) (c0 c1 c2 c3 c4 : Value) (a : Addr) : (set5 w g p c0 c1 c2 c3 c4).frozen? a = w.frozen? a := by
  unfold set5
  rw [World.frozen?_setCell, World.frozen?_setCell, World.frozen?_setCell, World.frozen?_setCell, World.frozen?_setCell]
theorem info28 : (Try.prog.info? 28).map (fun i => (i.zero, i.size, i.bytes)) = some (some (.agg #[.int .i64 0, .int .i64 0, .int .i64 0, .slice none 0 0, .slice none 0 0]), 5, 72) := by kernel_rfl
theorem fresh (w : World) (M : Array Value) (o : Nat) : (w.alloc (.cells M 28)).frozen? ⟨w.heap.size, o, none⟩ = false := by
  unfold World.frozen?
  rw [heap_alloc_last]
  simp
theorem box_at' (w : World) (g : Nat) (hg : w.heap.size = g) (c0 c1 c2 c3 c4 : Value) : At5 (w.alloc (.cells #[c0, c1, c2, c3, c4] 28)) g 0 c0 c1 c2 c3 c4 := by
  subst hg
  have f : ∀ r, (w.alloc (.cells #[c0, c1, c2, c3, c4] 28)).cell? ⟨w.heap.size, r, none⟩ = #[c0, c1, c2, c3, c4][r]? := fun r => cell_of_row _ w.heap.size r _ 28 (0, 0) (heap_alloc_last w _)
  exact ⟨f 0, f 1, f 2, f 3, f 4⟩
theorem box_at (w : World) (c0 c1 c2 c3 c4 : Value) : At5 (w.alloc (.cells #[c0, c1, c2, c3, c4] 28)) w.heap.size 0 c0 c1 c2 c3 c4 := box_at' w _ rfl _ _ _ _ _
theorem fresh' (w : World) (g : Nat) (hg : w.heap.size = g) (M : Array Value) (o : Nat) : (w.alloc (.cells M 28)).frozen? ⟨g, o, none⟩ = false := by
  subst hg
  exact fresh w M o
theorem load5 {w : World} {g p : Nat} {c0 c1 c2 c3 c4 : Value} (h : At5 w g p c0 c1 c2 c3 c4) : (loadVar 28 ⟨g, p, none⟩).run Try.prog w = .ok (.agg #[c0, c1, c2, c3, c4]) w := by
  have hl : (loadCells ⟨g, p, none⟩ 5).run Try.prog w = .ok #[c0, c1, c2, c3, c4] w :=
    run_loadCells_list (P := Try.prog) w ⟨g, p, none⟩ [c0, c1, c2, c3, c4] (fun j v hv => by
      rw [add_plain]
      obtain ⟨h0, h1, h2, h3, h4⟩ := h
      match j, hv with
      | 0, hv => cases hv; exact h0
      | 1, hv => cases hv; exact h1
      | 2, hv => cases hv; exact h2
      | 3, hv => cases hv; exact h3
      | 4, hv => cases hv; exact h4)
  obtain ⟨i0, hi, _, hz1, _⟩ := info_parts info28
  have hagg : (isAgg 28).run Try.prog w = .ok true w := by
    unfold isAgg
    rw [Sem.run_bind, run_underlying Try.underlying28 w]
    rfl
  simp [loadVar, Sem.run_bind, hagg, sizeOf, typeInfo, hi, hz1, hl]
theorem ret5 {fn : Func} {p : Tmp} (h : fn.results = #[.cell p 28]) (tmps : Array Value) {w : World} {g : Nat} {c0 c1 c2 c3 c4 : Value} (hp : tmps.getD p undef = .pointer (some ⟨g, 0, none⟩)) (h5 : At5 w g 0 c0 c1 c2 c3 c4) :
    (results fn tmps).run Try.prog w = .ok (.agg #[c0, c1, c2, c3, c4]) w := by
  have hp' : tmps[p]?.getD undef = .pointer (some ⟨g, 0, none⟩) := by simpa using hp
  simp [results, h, hp', asAddr, load5 h5]
theorem belN (w : World) (n : Nat) : Below w.heap.size w (w.drewN n) := ⟨rfl, rfl, rfl, Nat.le_refl _, fun _ _ => rfl⟩
theorem At5.keepB {w w' : World} {B p : Nat} {c0 c1 c2 c3 c4 : Value} (h : At5 w B p c0 c1 c2 c3 c4) (hk : w'.heap[B]? = w.heap[B]?) : At5 w' B p c0 c1 c2 c3 c4 := by
  have f : ∀ q, w'.cell? ⟨B, q, none⟩ = w.cell? ⟨B, q, none⟩ := fun q => World.cell?_of_block hk
  exact ⟨(f _).trans h.1, (f _).trans h.2.1, (f _).trans h.2.2.1, (f _).trans h.2.2.2.1, (f _).trans h.2.2.2.2⟩
/-- What a failure leaves of what was to be read. -/
def flL (l : List UInt8) (e : Int) : List UInt8 := if e = 0 then [] else l
def flE (e f : Int) : Int := if e = 0 then f else e
theorem kb_below {g : Nat} {w a b : World} (h : KB g w a) (k : Below w.heap.size a b) : KB g w b :=
  ⟨k.os.trans h.1, k.tape.trans h.2.1, k.output.trans h.2.2.1, Nat.le_trans h.2.2.2.1 k.size, fun i hi hg => (k.block i hi).trans (h.2.2.2.2 i hi hg)⟩
/-- A reader stays, while its two blocks do. -/
theorem St.keep {w w' : World} {g h : Nat} {l : List UInt8} {e : Int} (r : St w g h l e) (_hs : w.heap.size ≤ w'.heap.size) (h1 : w'.heap[g]? = w.heap[g]?) (h2 : w'.heap[h]? = w.heap[h]?) : St w' g h l e := by
  have fg : ∀ o, w'.cell? ⟨g, o, none⟩ = w.cell? ⟨g, o, none⟩ := fun o => World.cell?_of_block h1
  have fh : ∀ o, w'.cell? ⟨h, o, none⟩ = w.cell? ⟨h, o, none⟩ := fun o => World.cell?_of_block h2
  have zg : ∀ o, w'.frozen? ⟨g, o, none⟩ = w.frozen? ⟨g, o, none⟩ := fun o => World.frozen?_of_block h1
  rcases r with ⟨h0, p, c, a0, a1, a2, f1, f2, hl, hg, hb⟩ | ⟨h0, hl, a0, a2⟩
  · refine .inl ⟨h0, p, c, (fg 0).trans a0, (fg 1).trans a1, (fg 2).trans a2, (zg 1).trans f1, (zg 2).trans f2, hl, hg, fun hne => ?_⟩
    obtain ⟨o, hp, hcell⟩ := hb hne
    exact ⟨o, hp, fun i x hx => (fh _).trans (hcell i x hx)⟩
  · exact .inr ⟨h0, hl, (fg 0).trans a0, (fg 2).trans a2⟩
theorem St.lt {w : World} {g h : Nat} {l : List UInt8} {e : Int} (r : St w g h l e) : g < w.heap.size := by
  rcases r with ⟨_, p, c, a0, _⟩ | ⟨_, _, a0, _⟩
  · exact World.block_lt_of_cell? w ⟨g, 0, none⟩ a0
  · exact World.block_lt_of_cell? w ⟨g, 0, none⟩ a0
theorem fl_l (l : List UInt8) (e f : Int) (hf : (f != 0) = true) : (if e == 0 && f != 0 then [] else l) = flL l e := by
  unfold flL
  rw [hf]
  by_cases h : e = 0 <;> simp [h]
theorem fl_e (e f : Int) : (if e == 0 then f else e) = flE e f := by
  unfold flE
  by_cases h : e = 0 <;> simp [h]
theorem flE_ne {e f : Int} (h : f ≠ 0) : flE e f ≠ 0 := by
  unfold flE
  split
  · exact h
  · assumption
theorem cs5 (w : World) (B o o' : Nat) (u : Value) (h : o ≠ o') : (w.setCell ⟨B, o', none⟩ u).cell? ⟨B, o, none⟩ = w.cell? ⟨B, o, none⟩ :=
  World.cell?_setCell_other w _ _ u (fun e => h (by injection e with _ e2; exact e2.symm))
theorem At5.set1 {W : World} {q : Nat} {c0 c1 c2 c3 c4 : Value} (h : At5 W q 0 c0 c1 c2 c3 c4) (u : Value) : At5 (W.setCell ⟨q, 1, none⟩ u) q 0 c0 u c2 c3 c4 :=
  ⟨(cs5 _ _ _ _ _ (by decide)).trans h.1, World.cell?_setCell_same _ _ _ h.2.1, (cs5 _ _ _ _ _ (by decide)).trans h.2.2.1, (cs5 _ _ _ _ _ (by decide)).trans h.2.2.2.1, (cs5 _ _ _ _ _ (by decide)).trans h.2.2.2.2⟩
theorem At5.set2 {W : World} {q : Nat} {c0 c1 c2 c3 c4 : Value} (h : At5 W q 0 c0 c1 c2 c3 c4) (u : Value) : At5 (W.setCell ⟨q, 2, none⟩ u) q 0 c0 c1 u c3 c4 :=
  ⟨(cs5 _ _ _ _ _ (by decide)).trans h.1, (cs5 _ _ _ _ _ (by decide)).trans h.2.1, World.cell?_setCell_same _ _ _ h.2.2.1, (cs5 _ _ _ _ _ (by decide)).trans h.2.2.2.1, (cs5 _ _ _ _ _ (by decide)).trans h.2.2.2.2⟩
theorem At5.set3 {W : World} {q : Nat} {c0 c1 c2 c3 c4 : Value} (h : At5 W q 0 c0 c1 c2 c3 c4) (u : Value) : At5 (W.setCell ⟨q, 3, none⟩ u) q 0 c0 c1 c2 u c4 :=
  ⟨(cs5 _ _ _ _ _ (by decide)).trans h.1, (cs5 _ _ _ _ _ (by decide)).trans h.2.1, (cs5 _ _ _ _ _ (by decide)).trans h.2.2.1, World.cell?_setCell_same _ _ _ h.2.2.2.1, (cs5 _ _ _ _ _ (by decide)).trans h.2.2.2.2⟩
theorem At5.set4 {W : World} {q : Nat} {c0 c1 c2 c3 c4 : Value} (h : At5 W q 0 c0 c1 c2 c3 c4) (u : Value) : At5 (W.setCell ⟨q, 4, none⟩ u) q 0 c0 c1 c2 c3 u :=
  ⟨(cs5 _ _ _ _ _ (by decide)).trans h.1, (cs5 _ _ _ _ _ (by decide)).trans h.2.1, (cs5 _ _ _ _ _ (by decide)).trans h.2.2.1, (cs5 _ _ _ _ _ (by decide)).trans h.2.2.2.1, World.cell?_setCell_same _ _ _ h.2.2.2.2⟩
end Go.Proofs.Ytimiklekajelfaa
