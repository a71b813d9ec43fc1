/- The contracts of cloneAll and Clone; a value that came in (from the event seat). -/
import Derived.ChangeArms
import Derived.ChangeSame
import Derived.Deep.Slices
import Derived.Deep.WholeRow
import Derived.SizedLaws
import Derived.Test.YtocjgcjechhehaaA
namespace Go.Proofs.Ytocjgcjechhehaa
open Go.ChangeAt Go.ChangeShapes Go.Deep Go.RowKit Go.WideShapes
/-- Of what was there, block g alone may have turned. -/
def KB (g : Nat) (w w' : World) : Prop := w'.os = w.os ∧ w'.tape = w.tape ∧ w'.output = w.output ∧ w.heap.size ≤ w'.heap.size ∧ ∀ k, k < w.heap.size → k ≠ g → w'.heap[k]? = w.heap[k]?
theorem KB.refl (g : Nat) (w : World) : KB g w w := ⟨rfl, rfl, rfl, Nat.le_refl _, fun _ _ _ => rfl⟩
theorem KB.trans {g : Nat} {a b c : World} (h : KB g a b) (k : KB g b c) : KB g a c :=
  ⟨k.1.trans h.1, k.2.1.trans h.2.1, k.2.2.1.trans h.2.2.1, Nat.le_trans h.2.2.2.1 k.2.2.2.1, fun i hi hg => (k.2.2.2.2 i (Nat.lt_of_lt_of_le hi h.2.2.2.1) hg).trans (h.2.2.2.2 i hi hg)⟩
theorem KB.setCell (g : Nat) (w : World) (o : Nat) (v : Value) : KB g w (w.setCell ⟨g, o, none⟩ v) :=
  ⟨rfl, rfl, rfl, by simp [World.setCell], fun k _ hg => Below.heap_setCell _ _ _ _ hg⟩
theorem KB.of_below {g : Nat} {w w' : World} (h : Below w.heap.size w w') : KB g w w' := ⟨h.os, h.tape, h.output, h.size, fun k hk _ => h.block k hk⟩
theorem KB.below {g B : Nat} {w w' : World} (h : KB g w w') (hg : B ≤ g) (hB : B ≤ w.heap.size) : Below B w w' :=
  ⟨h.1, h.2.1, h.2.2.1, h.2.2.2.1, fun k hk => h.2.2.2.2 k (by omega) (by omega)⟩
theorem KB.cell {g : Nat} {w w' : World} (h : KB g w w') {a : Addr} {v : Value} (hc : w.cell? a = some v) (ha : a.block ≠ g) : w'.cell? a = some v := by
  have hlt := World.block_lt_of_cell? w a hc
  rw [World.cell?_of_block (w := w) (h.2.2.2.2 a.block hlt ha)]
  exact hc
theorem KB.frozen {g : Nat} {w w' : World} (h : KB g w w') {a : Addr} (hlt : a.block < w.heap.size) (ha : a.block ≠ g) : w'.frozen? a = w.frozen? a :=
  World.frozen?_of_block (w := w) (h.2.2.2.2 a.block hlt ha)
theorem At5.kb {g : Nat} {w w' : World} {B p : Nat} {c0 c1 c2 c3 c4 : Value} (h : At5 w B p c0 c1 c2 c3 c4) (hb : KB g w w') (hg : B ≠ g) : At5 w' B p c0 c1 c2 c3 c4 :=
  ⟨hb.cell h.1 hg, hb.cell h.2.1 hg, hb.cell h.2.2.1 hg, hb.cell h.2.2.2.1 hg, hb.cell h.2.2.2.2 hg⟩
/-- As Row, in blocks from lo on. -/
def RowN (lo : Nat) (R : Value → Tv → Prop) (w : World) (a : Option Addr) (l : List Tv) : Prop :=
  ∀ i t, l[i]? = some t → ∃ B o c0 c1 c2 c3 c4, a = some ⟨B, o, none⟩ ∧ (lo ≤ B ∧ ∀ p, w.frozen? ⟨B, p, none⟩ = false) ∧ At5 w B (o + i * 5) c0 c1 c2 c3 c4 ∧ R (.agg #[c0, c1, c2, c3, c4]) t
/-- As Is, all lists in blocks from lo on. -/
def IsN (lo : Nat) (w : World) : Nat → Value → Tv → Prop
  | 0, _, _ => False
  | n + 1, v, .mk k x b s l => ∃ a c, v = .agg #[.int .i64 k, .int .i64 x, .int .u64 b, .string s, .slice a l.length c] ∧ Fit k x b s l.length c ∧ RowN lo (IsN lo w n) w a l
theorem IsN.is {lo : Nat} {w : World} : ∀ {n : Nat} {v : Value} {t : Tv}, IsN lo w n v t → Is w n v t
  | 0, _, _, h => h
  | n + 1, v, .mk k x b s l, ⟨a, c, hv, hf, hr⟩ => ⟨a, c, hv, hf, fun i t ht => by
      obtain ⟨B, o, c0, c1, c2, c3, c4, ha, _, h5, hi⟩ := hr i t ht
      exact ⟨B, o, c0, c1, c2, c3, c4, ha, h5, hi.is⟩⟩
theorem IsN.kb {g lo : Nat} {w w' : World} (hb : KB g w w') (hg : g < lo) : ∀ {n : Nat} {v : Value} {t : Tv}, IsN lo w n v t → IsN lo w' n v t
  | 0, _, _, h => h
  | n + 1, v, .mk k x b s l, ⟨a, c, hv, hf, hr⟩ => ⟨a, c, hv, hf, fun i t ht => by
      obtain ⟨B, o, c0, c1, c2, c3, c4, ha, hB, h5, hi⟩ := hr i t ht
      exact ⟨B, o, c0, c1, c2, c3, c4, ha, ⟨hB.1, fun p => (hb.frozen (a := ⟨B, p, none⟩) (show B < w.heap.size from World.block_lt_of_cell? w ⟨B, o + i * 5, none⟩ h5.1) (show B ≠ g by have := hB.1; omega)).trans (hB.2 p)⟩, h5.kb hb (by have := hB.1; omega), hi.kb hb hg⟩⟩
theorem IsN.lower {lo lo' : Nat} {w : World} (hl : lo' ≤ lo) : ∀ {n : Nat} {v : Value} {t : Tv}, IsN lo w n v t → IsN lo' w n v t
  | 0, _, _, h => h
  | n + 1, v, .mk k x b s l, ⟨a, c, hv, hf, hr⟩ => ⟨a, c, hv, hf, fun i t ht => by
      obtain ⟨B, o, c0, c1, c2, c3, c4, ha, hB, h5, hi⟩ := hr i t ht
      exact ⟨B, o, c0, c1, c2, c3, c4, ha, ⟨by have := hB.1; omega, hB.2⟩, h5, hi.lower hl⟩⟩
theorem RowN.kb {g lo n : Nat} {w w' : World} {a : Option Addr} {l : List Tv} (hb : KB g w w') (hg : g < lo) (h : RowN lo (IsN lo w n) w a l) : RowN lo (IsN lo w' n) w' a l := fun i t ht => by
  obtain ⟨B, o, c0, c1, c2, c3, c4, ha, hB, h5, hi⟩ := h i t ht
  exact ⟨B, o, c0, c1, c2, c3, c4, ha, ⟨hB.1, fun p => (hb.frozen (a := ⟨B, p, none⟩) (show B < w.heap.size from World.block_lt_of_cell? w ⟨B, o + i * 5, none⟩ h5.1) (show B ≠ g by have := hB.1; omega)).trans (hB.2 p)⟩, h5.kb hb (by have := hB.1; omega), hi.kb hb hg⟩
/-- Five cells of block g are written, from p on. -/
def set5 (w : World) (g p : Nat) (c0 c1 c2 c3 c4 : Value) : World :=
  ((((w.setCell ⟨g, p, none⟩ c0).setCell ⟨g, p + 1, none⟩ c1).setCell ⟨g, p + 2, none⟩ c2).setCell ⟨g, p + 3, none⟩ c3).setCell ⟨g, p + 4, none⟩ c4
theorem set5_kb (w : World) (g p : Nat) (c0 c1 c2 c3 c4 : Value) : KB g w (set5 w g p c0 c1 c2 c3 c4) :=
  ((((KB.setCell g w p c0).trans (KB.setCell g _ _ c1)).trans (KB.setCell g _ _ c2)).trans (KB.setCell g _ _ c3)).trans (KB.setCell g _ _ c4)
theorem set5_other (w : World) (g p q : Nat) (c0 c1 c2 c3 c4 : Value) (h : q < p ∨ p + 5 ≤ q) : (set5 w g p c0 c1 c2 c3 c4).cell? ⟨g, q, none⟩ = w.cell? ⟨g, q, none⟩ := by
  unfold set5
  have e : ∀ (W : World) (a : Nat) (u : Value), a ≠ q → (W.setCell ⟨g, a, none⟩ u).cell? ⟨g, q, none⟩ = W.cell? ⟨g, q, none⟩ := fun W a u hn => World.cell?_setCell_other W _ _ u (fun e => hn (by injection e))
  rw [e _ _ _ (by omega), e _ _ _ (by omega), e _ _ _ (by omega), e _ _ _ (by omega), e _ _ _ (by omega)]
theorem set5_at {w : World} {g p : Nat} {z0 z1 z2 z3 z4 : Value} (h : At5 w g p z0 z1 z2 z3 z4) (c0 c1 c2 c3 c4 : Value) : At5 (set5 w g p c0 c1 c2 c3 c4) g p c0 c1 c2 c3 c4 := by
  obtain ⟨h0, h1, h2, h3, h4⟩ := h
  have e : ∀ (W : World) (a b : Nat) (u : Value), a ≠ b → (W.setCell ⟨g, a, none⟩ u).cell? ⟨g, b, none⟩ = W.cell? ⟨g, b, none⟩ := fun W a b u hn => World.cell?_setCell_other W _ _ u (fun e => hn (by injection e))
  refine ⟨?_, ?_, ?_, ?_, ?_⟩
  · unfold set5
    rw [e _ _ _ _ (by omega), e _ _ _ _ (by omega), e _ _ _ _ (by omega), e _ _ _ _ (by omega)]
    exact World.cell?_setCell_same _ _ _ h0
  · unfold set5
    rw [e _ _ _ _ (by omega), e _ _ _ _ (by omega), e _ _ _ _ (by omega)]
    exact World.cell?_setCell_same _ _ _ ((e _ _ _ _ (by omega)).trans h1)
  · unfold set5
    rw [e _ _ _ _ (by omega), e _ _ _ _ (by omega)]
    exact World.cell?_setCell_same _ _ _ ((e _ _ _ _ (by omega)).trans ((e _ _ _ _ (by omega)).trans h2))
  · unfold set5
    rw [e _ _ _ _ (by omega)]
    exact World.cell?_setCell_same _ _ _ ((e _ _ _ _ (by omega)).trans ((e _ _ _ _ (by omega)).trans ((e _ _ _ _ (by omega)).trans h3)))
  · unfold set5
    exact World.cell?_setCell_same _ _ _ ((e _ _ _ _ (by omega)).trans ((e _ _ _ _ (by omega)).trans ((e _ _ _ _ (by omega)).trans ((e _ _ _ _ (by omega)).trans h4))))
theorem set5_beside {w : World} {g p q : Nat} {d0 d1 d2 d3 d4 : Value} (h : At5 w g q d0 d1 d2 d3 d4) (c0 c1 c2 c3 c4 : Value) (hq : q + 5 ≤ p ∨ p + 5 ≤ q) : At5 (set5 w g p c0 c1 c2 c3 c4) g q d0 d1 d2 d3 d4 :=
  ⟨(set5_other _ _ _ _ _ _ _ _ _ (by omega)).trans h.1, (set5_other _ _ _ _ _ _ _ _ _ (by omega)).trans h.2.1, (set5_other _ _ _ _ _ _ _ _ _ (by omega)).trans h.2.2.1, (set5_other _ _ _ _ _ _ _ _ _ (by omega)).trans h.2.2.2.1, (set5_other _ _ _ _ _ _ _ _ _ (by omega)).trans h.2.2.2.2⟩
theorem set5_frozen (w : World) (g p : Nat) (c0 c1 c2 c3 c4 : Value) (a : Addr) : (set5 w g p c0 c1 c2 c3 c4).frozen? a = w.frozen? a := by
  unfold set5
  rw [World.frozen?_setCell, World.frozen?_setCell, World.frozen?_setCell, World.frozen?_setCell, World.frozen?_setCell]
theorem info25 : (Try.prog.info? 27).map (fun i => (i.zero, i.size, i.bytes)) = some (some (.agg #[.int .i64 0, .int .i64 0, .int .u64 0, .string ⟨#[]⟩, .slice none 0 0]), 5, 64) := by kernel_rfl
theorem IsN.shape {lo : Nat} {w : World} : ∀ {n : Nat} {v : Value} {t : Tv}, IsN lo w n v t → ∃ k x b s a m c, v = .agg #[.int .i64 k, .int .i64 x, .int .u64 b, .string s, .slice a m c]
  | 0, _, _, h => h.elim
  | _ + 1, _, .mk k x b s l, ⟨a, c, hv, _, _⟩ => ⟨k, x, b, s, a, l.length, c, hv⟩
/-- The zero value. -/
def zV : Value := .agg #[.int .i64 0, .int .i64 0, .int .u64 0, .string ⟨#[]⟩, .slice none 0 0]
theorem made_at (w : World) (k i : Nat) (h : i < k) : At5 (w.alloc (.cells (madeCells zV.cells (k * 5)) 27)) w.heap.size (i * 5) (.int .i64 0) (.int .i64 0) (.int .u64 0) (.string ⟨#[]⟩) (.slice none 0 0) := by
  have f : ∀ r, r < 5 → (w.alloc (.cells (madeCells zV.cells (k * 5)) 27)).cell? ⟨w.heap.size, i * 5 + r, none⟩ = zV.cells[r]? := by
    intro r hr
    rw [cell_of_row _ w.heap.size (i * 5 + r) _ 27 (0, 0) (heap_alloc_last w _)]
    have hz : zV.cells.size = 5 := rfl
    have hm : (i * 5 + r) % 5 = r := by omega
    simp only [madeCells]
    rw [Array.getElem?_map, Array.getElem?_range, if_pos (by omega)]
    simp only [Option.map_some, hz, hm]
    rw [getElem!_pos _ _ (by omega)]
    exact (Array.getElem?_eq_getElem (by omega)).symm
  exact ⟨f 0 (by omega), f 1 (by omega), f 2 (by omega), f 3 (by omega), f 4 (by omega)⟩
theorem fresh (w : World) (M : Array Value) (o : Nat) : (w.alloc (.cells M 27)).frozen? ⟨w.heap.size, o, none⟩ = false := by
  unfold World.frozen?
  rw [heap_alloc_last]
  simp
theorem box_at' (w : World) (g : Nat) (hg : w.heap.size = g) (c0 c1 c2 c3 c4 : Value) : At5 (w.alloc (.cells #[c0, c1, c2, c3, c4] 27)) g 0 c0 c1 c2 c3 c4 := by
  subst hg
  have f : ∀ r, (w.alloc (.cells #[c0, c1, c2, c3, c4] 27)).cell? ⟨w.heap.size, r, none⟩ = #[c0, c1, c2, c3, c4][r]? := fun r => cell_of_row _ w.heap.size r _ 27 (0, 0) (heap_alloc_last w _)
  exact ⟨f 0, f 1, f 2, f 3, f 4⟩
theorem box_at (w : World) (c0 c1 c2 c3 c4 : Value) : At5 (w.alloc (.cells #[c0, c1, c2, c3, c4] 27)) w.heap.size 0 c0 c1 c2 c3 c4 := box_at' w _ rfl _ _ _ _ _
theorem fresh' (w : World) (g : Nat) (hg : w.heap.size = g) (M : Array Value) (o : Nat) : (w.alloc (.cells M 27)).frozen? ⟨g, o, none⟩ = false := by
  subst hg
  exact fresh w M o
theorem load5 {w : World} {g p : Nat} {c0 c1 c2 c3 c4 : Value} (h : At5 w g p c0 c1 c2 c3 c4) : (loadVar 27 ⟨g, p, none⟩).run Try.prog w = .ok (.agg #[c0, c1, c2, c3, c4]) w := by
  have hl : (loadCells ⟨g, p, none⟩ 5).run Try.prog w = .ok #[c0, c1, c2, c3, c4] w :=
    run_loadCells_list (P := Try.prog) w ⟨g, p, none⟩ [c0, c1, c2, c3, c4] (fun j v hv => by
      rw [add_plain]
      obtain ⟨h0, h1, h2, h3, h4⟩ := h
      match j, hv with
      | 0, hv => cases hv; exact h0
      | 1, hv => cases hv; exact h1
      | 2, hv => cases hv; exact h2
      | 3, hv => cases hv; exact h3
      | 4, hv => cases hv; exact h4)
  obtain ⟨i0, hi, _, hz1, _⟩ := info_parts info25
  have hagg : (isAgg 27).run Try.prog w = .ok true w := by
    unfold isAgg
    rw [Sem.run_bind, run_underlying Try.underlying27 w]
    rfl
  simp [loadVar, Sem.run_bind, hagg, sizeOf, typeInfo, hi, hz1, hl]
theorem ret5 {fn : Func} {p : Tmp} (h : fn.results = #[.cell p 27]) (tmps : Array Value) {w : World} {g : Nat} {c0 c1 c2 c3 c4 : Value} (hp : tmps.getD p undef = .pointer (some ⟨g, 0, none⟩)) (h5 : At5 w g 0 c0 c1 c2 c3 c4) :
    (results fn tmps).run Try.prog w = .ok (.agg #[c0, c1, c2, c3, c4]) w := by
  have hp' : tmps[p]?.getD undef = .pointer (some ⟨g, 0, none⟩) := by simpa using hp
  simp [results, h, hp', asAddr, load5 h5]
theorem cells25 : Try.prog.cellsOf 27 = 5 := by kernel_rfl
/-- An address whose cell is read has no spot. -/
theorem plain_addr {w : World} {a : Addr} {v : Value} (h : w.cell? a = some v) : a.spot = none := by
  obtain ⟨b, o, s⟩ := a
  unfold World.cell? at h
  cases s with
  | none => rfl
  | some k => split at h <;> simp at h
theorem addp (b o i : Nat) : (⟨b, o, none⟩ : Addr).add i = ⟨b, o + i, none⟩ := by unfold Addr.add; split <;> simp_all
theorem list5 {α : Type} : ∀ {l : List α}, l.length = 5 → ∃ a b c d e, l = [a, b, c, d, e]
  | [a, b, c, d, e], _ => ⟨a, b, c, d, e, rfl⟩
theorem lo64 {x : Int} (h : (Lit.int .i64 x).wf = true) : -9223372036854775808 ≤ x ∧ x ≤ 9223372036854775807 := by
  have e : IntKind.i64.min = -9223372036854775808 := by decide +kernel
  simp only [Lit.wf, decide_eq_true_eq, Bool.and_eq_true] at h
  exact ⟨by rw [← e]; exact h.1, h.2⟩
theorem lou64 {x : Int} (h : (Lit.int .u64 x).wf = true) : 0 ≤ x ∧ x ≤ 18446744073709551615 := by
  have e : IntKind.u64.min = 0 := by decide +kernel
  simp only [Lit.wf, decide_eq_true_eq, Bool.and_eq_true] at h
  exact ⟨by rw [← e]; exact h.1, h.2⟩
/-- No list has more values than an argument may have. -/
def SmallW : Nat → Tv → Prop
  | 0, _ => False
  | n + 1, .mk _ _ _ _ l => l.length ≤ 2199023255488 ∧ ∀ (i : Nat) t, l[i]? = some t → SmallW n t
theorem make_valsW (k : Nat) (h : k ≤ 2199023255488) (w : World) : (Instr.makeSlice 25 (.int .i64 (k : Int)) (.int .i64 (k : Int))).run Try.prog w = .ok (.slice (some ⟨w.heap.size, 0, none⟩) k k) (w.alloc (.cells (madeCells zV.cells (k * 5)) 27)) := by
  obtain ⟨i0, hi, hz0, hz1, hz2⟩ := info_parts info25
  rw [run_make (P := Try.prog) w 25 27 i0 zV Try.underlying25 hi hz0 .i64 .i64 k k (by omega) (by omega) (by rw [hz2]; omega) (by omega)]
  rw [Int.toNat_natCast, hz1]
theorem SmallW.up : ∀ {n m : Nat} {t : Tv}, SmallW n t → n ≤ m → SmallW m t
  | 0, _, _, h, _ => h.elim
  | n + 1, 0, _, _, hm => by omega
  | n + 1, m + 1, .mk _ _ _ _ l, ⟨h1, h2⟩, hm => ⟨h1, fun i t ht => (h2 i t ht).up (by omega)⟩
theorem mem_all {H : Type} {P : Program} {e : TypeId} : ∀ {ds : List (DataW H)} {d : DataW H}, d ∈ ds → ∀ y ∈ d.weights P e, y ∈ DataW.weightsAll P e ds
  | x :: r, d, h, y, hy => by
    simp only [DataW.weightsAll, List.mem_append]
    rcases List.mem_cons.1 h with rfl | h
    · exact .inl hy
    · exact .inr (mem_all h y hy)
set_option maxRecDepth 100000 in
theorem open_valW {H : Type} {enc : TypeId × Value → H} {W : World} {base : Nat} {spare : Nat → Bool} {held : Bool} : ∀ (fuel : Nat) (cs : List Value) (x : DataW H × List MemPlace),
    DataW.trod enc Try.prog W base spare held fuel 27 cs = some x → (∀ y ∈ x.1.weights Try.prog 27, y ≤ reachBytes) → ∃ c0 c1 c2 c3 c4 t n, cs = [c0, c1, c2, c3, c4] ∧ Is W n (.agg #[c0, c1, c2, c3, c4]) t ∧ SmallW n t := by
  intro fuel
  induction fuel using Nat.strongRecOn with
  | _ fuel ih =>
    intro cs x h hwt
    obtain ⟨xs, k, hk, hxy, hlen, hxl, hf⟩ := DataW.trod_struct Try.underlying27 h
    rw [cells25] at hlen
    obtain ⟨c0, c1, c2, c3, c4, rfl⟩ := list5 hlen
    obtain ⟨y0, y1, y2, y3, y4, rfl⟩ := list5 (l := xs) hxl
    have hw4 : ∀ y ∈ y4.1.weights Try.prog 25, y ≤ reachBytes := fun y hy => by
      apply hwt
      rw [hxy]
      simp only [DataW.weights, Try.underlying27]
      exact DataW.weights_mem_each (j := 4) rfl rfl y hy
    clear hwt
    have g0 := hf 0 _ rfl
    have g1 := hf 1 _ rfl
    have g2 := hf 2 _ rfl
    have g3 := hf 3 _ rfl
    have g4 := hf 4 _ rfl
    clear hf hxl hlen hxy h
    simp only [List.getElem?_cons_zero, List.getElem?_cons_succ] at g0 g1 g2 g3 g4
    obtain ⟨n0, e0, _, w0⟩ := DataW.trod_int Try.underlying3 g0
    obtain ⟨n1, e1, _, w1⟩ := DataW.trod_int Try.underlying3 g1
    obtain ⟨n2, e2, _, w2⟩ := DataW.trod_int Try.underlying24 g2
    obtain ⟨s3, e3, _, w3⟩ := DataW.trod_string Try.underlying9 g3
    cases e0; cases e1; cases e2; cases e3
    unfold maxLen at w3
    rcases DataW.trod_slice Try.underlying25 g4 with ⟨h4, _⟩ | ⟨a, len, cap, elems, rest, q, hq, h4, h4x, _, hl, hm, he, hx, _, _⟩
    · cases h4
      exact ⟨_, _, _, _, _, .mk n0 n1 n2 s3 [], 1, rfl, ⟨none, 0, rfl, ⟨(lo64 w0).1, (lo64 w0).2, (lo64 w1).1, (lo64 w1).2, (lou64 w2).1, (lou64 w2).2, by omega, Nat.le_refl _, by omega⟩, fun i t ht => by simp at ht⟩, ⟨by decide, fun i t ht => by simp at ht⟩⟩
    · cases h4
      unfold maxLen at hm
      have hlen64 : len ≤ 2199023255488 := by
        have hb : Try.prog.bytesOf 27 = 64 := by kernel_rfl
        have := hw4 ((elems.length + rest.length) * Try.prog.bytesOf 27) (by rw [h4x]; simp [DataW.weights, Try.underlying25])
        rw [hb, he] at this
        unfold reachBytes at this
        omega
      have helem : ∀ i (hi : i < elems.length), ∀ y ∈ (elems[i]).1.weights Try.prog 27, y ≤ reachBytes := fun i hi y hy => by
        apply hw4
        rw [h4x]
        simp only [DataW.weights, Try.underlying25, List.mem_cons, List.mem_append]
        exact .inr (.inl (mem_all (List.mem_map.2 ⟨_, List.getElem_mem hi, rfl⟩) y hy))
      clear h4x hw4
      have each : ∀ i, i < len → ∃ r : (Value × Value × Value × Value × Value) × Tv × Nat, ∃ B o, a = ⟨B, o, none⟩ ∧ At5 W B (o + i * 5) r.1.1 r.1.2.1 r.1.2.2.1 r.1.2.2.2.1 r.1.2.2.2.2 ∧ Is W r.2.2 (.agg #[r.1.1, r.1.2.1, r.1.2.2.1, r.1.2.2.2.1, r.1.2.2.2.2]) r.2.1 ∧ SmallW r.2.2 r.2.1 := by
        intro i hi
        have key := hx i hi
        rw [List.getElem?_eq_getElem (by omega)] at key
        obtain ⟨cs', k1, k2⟩ := Option.bind_eq_some_iff.1 key
        obtain ⟨d0, d1, d2, d3, d4, t, n, rfl, hi', hsm⟩ := ih q (by omega) cs' _ k2 (helem i (by omega))
        rw [cells25] at k1
        obtain ⟨_, _, hcell⟩ := World.cells?_some k1
        have p0 := hcell 0 (by simp)
        have hsp : a.spot = none := by
          have key0 := hx 0 (by omega)
          rw [List.getElem?_eq_getElem (by omega)] at key0
          obtain ⟨cs0, k10, k20⟩ := Option.bind_eq_some_iff.1 key0
          obtain ⟨f0, f1, f2, f3, f4, _, _, rfl, _, _⟩ := ih q (by omega) cs0 _ k20 (helem 0 (by omega))
          rw [cells25] at k10
          obtain ⟨_, _, hcell0⟩ := World.cells?_some k10
          have q0 := hcell0 0 (by simp)
          rw [add_add] at q0
          have := plain_addr q0
          simpa [Addr.add] using this
        obtain ⟨B, o, sp⟩ := a
        cases hsp
        have ad : ∀ r, ((⟨B, o, none⟩ : Addr).add (i * 5)).add r = ⟨B, o + i * 5 + r, none⟩ := by
          intro r
          rw [addp, addp]
        have p1 := hcell 1 (by simp)
        have p2 := hcell 2 (by simp)
        have p3 := hcell 3 (by simp)
        have p4 := hcell 4 (by simp)
        rw [ad] at p0 p1 p2 p3 p4
        exact ⟨((d0, d1, d2, d3, d4), t, n), B, o, rfl, ⟨by simpa using p0, by simpa using p1, by simpa using p2, by simpa using p3, by simpa using p4⟩, hi', hsm⟩
      have inh : Inhabited ((Value × Value × Value × Value × Value) × Tv × Nat) := ⟨(undef, undef, undef, undef, undef), .mk 0 0 0 ⟨#[]⟩ [], 0⟩
      obtain ⟨F, hF⟩ := choose_lt each
      obtain ⟨N, hN⟩ := fuel_lt (n := len) (q := fun i N => (F i).2.2 ≤ N) (fun _ _ _ h h' => Nat.le_trans h' h) (fun i _ => ⟨_, Nat.le_refl _⟩)
      refine ⟨_, _, _, _, _, .mk n0 n1 n2 s3 ((List.range len).map fun i => (F i).2.1), N + 1, rfl, ⟨some a, cap, ?_, ?_, ?_⟩, ⟨by simpa using hlen64, ?_⟩⟩
      · simp
      · exact ⟨(lo64 w0).1, (lo64 w0).2, (lo64 w1).1, (lo64 w1).2, (lou64 w2).1, (lou64 w2).2, by omega, by simpa using hl, by omega⟩
      · intro i t ht
        have hi : i < len := by have := (List.getElem?_eq_some_iff.1 ht).1; simpa using this
        rw [List.getElem?_map, List.getElem?_range hi] at ht
        cases ht
        obtain ⟨B, o, ha, h5, hI, _⟩ := hF i hi
        exact ⟨B, o, _, _, _, _, _, by rw [ha], h5, hI.up (hN i hi)⟩
      · intro i t ht
        have hi : i < len := by have := (List.getElem?_eq_some_iff.1 ht).1; simpa using this
        rw [List.getElem?_map, List.getElem?_range hi] at ht
        cases ht
        obtain ⟨B, o, ha, h5, _, hS⟩ := hF i hi
        exact hS.up (hN i hi)
end Go.Proofs.Ytocjgcjechhehaa
