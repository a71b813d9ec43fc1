/- The contract of changeTimers where a timer is taken away. -/
import Derived.Test.YtakaglfeeipeiaaGreatUH
namespace Go.Proofs.YtakaglfeeipeiaaGreat
open Go.ChangeShapes Go.WideShapes Go.ChangeAt Go.RowKit
/-- A list without the one at j. -/
def delL {α : Type} (l : List α) (j : Nat) : List α := l.take j ++ l.drop (j + 1)
theorem delL_length {α : Type} (l : List α) (j : Nat) (h : j < l.length) : (delL l j).length = l.length - 1 := by
  simp [delL]
  omega
theorem row_range {w : World} {B t : Nat} {cs : Array Value} {fr : Nat × Nat} (h : w.heap[B]? = some (.cells cs t fr)) : w.rangeAt B 0 cs.toList := lies_range (Lies.row h)
theorem info33l (cs : Array Value) (h : cs.size = 31) : (Tryz.prog.info? 37).map (·.size) = some cs.toList.length := by rw [Array.length_toList]; exact info33s cs h
theorem dl_lw {lo B j : Nat} {u : Value} {l : List Tm} {w w1 w2 : World} {e : Ending} {cs es : Array Value} (hj : j < l.length) (hub : ∀ B', u.ownBlock = some B' → B' < w.heap.size) (hne : u.ownBlock ≠ some B) (hlo : lo ≤ w.heap.size) (hb : Below w.heap.size w w1) (hB : w1.heap[B]? = some (.cells cs 37 (0, 0))) (hG : w1.heap[w.heap.size]? = some (.cells es 44 (0, 0)))
    (h : DlP lo u l.length j ((l.map Tm.cells).flatMap Array.toList) w1 e w2) : ∃ v, e = .returned v ∧ Lw lo B 64 2 u ((delL l j).map Tm.cells) w v w2 ∧ w2.heap[B]? = some (.cells cs 37 (0, 0)) ∧ w2.heap[w.heap.size]? = some (.cells es 44 (0, 0)) := by
  obtain ⟨v, h0, h1, h2, h3, h4⟩ := h
  have hsz := hb.size
  have hk : ∀ (i : Nat) r, (l.map Tm.cells)[i]? = some r → r.size = 2 := fun i r hr => (tmc l i r hr).1
  refine ⟨v, h0, ⟨?_, (hb.mono hlo).trans h2, fun B' b1 _ b3 => (h3 B' (by omega) b3).trans (hb.block B' b1), .inl h4⟩, ?_, ?_⟩
  · rw [List.length_map, delL_length l j hj]
    rw [← rows_take (l.map Tm.cells) j hk, ← rows_drop (l.map Tm.cells) (j + 1) hk, ← List.flatMap_append, ← List.map_take, ← List.map_drop, ← List.map_append] at h1
    exact h1
  · rw [h3 B (Array.getElem?_eq_some_iff.1 hB).1 hne]
    exact hB
  · rw [h3 w.heap.size (Array.getElem?_eq_some_iff.1 hG).1 (fun e => by have := hub _ e; omega)]
    exact hG
set_option maxHeartbeats 4000000 in
set_option maxRecDepth 100000 in
theorem timers10 (lo B : Nat) (cs es : Array Value) (l : List Tm) (a : Option Addr) (c : Nat) (q : ByteArray) (j : Nat) (fb : Bool) (w : World) (hg : w.heap[B]? = some (.cells cs 37 (0, 0))) (hs : cs.size = 31) (c21 : cs[21]? = some (.bool fb)) (c23 : cs[23]? = some (.slice a l.length c)) (hO : w.ownsRow lo 64 2 (.slice a l.length c) l.length ((l.map Tm.cells).flatMap Array.toList)) (hn : l.length ≤ 500) (hlo : lo ≤ B) (hj : j < l.length)
    (KT : Hid (∀ W, Below w.heap.size w W → Calls Tryz.prog 70 #[.agg cs, .string q] W (IxP (j : Int) W))) (e0 : es[0]? = some (.int .i64 10)) (e4 : es[4]? = some (.string q)) :
    Calls Tryz.prog 61 #[.pointer (some ⟨B, 0, none⟩), .agg es] w (LsP lo B cs 23 64 2 (.slice a l.length c) ((delL l j).map Tm.cells) [(21, .bool true)] w) := by
  have hBl : B < w.heap.size := (Array.getElem?_eq_some_iff.1 hg).1
  have hlw : lo ≤ w.heap.size := by omega
  have hne : (Value.slice a l.length c).ownBlock ≠ some B := box_ne hO (by decide) hg
  have hub : ∀ B', (Value.slice a l.length c).ownBlock = some B' → B' < w.heap.size := fun B' h => (hO.lt B' h).2
  have KD : Hid (∀ w1, Below w.heap.size w w1 → w1.heap[B]? = some (.cells cs 37 (0, 0)) → w1.heap[w.heap.size]? = some (.cells es 44 (0, 0)) → Calls Tryz.prog 76 #[.slice a l.length c, .int .i64 (j : Int), .int .i64 ((j : Int) + 1)] w1 (fun e w2 => ∃ v, e = .returned v ∧ Lw lo B 64 2 (.slice a l.length c) ((delL l j).map Tm.cells) w v w2 ∧ w2.heap[B]? = some (.cells cs 37 (0, 0)) ∧ w2.heap[w.heap.size]? = some (.cells es 44 (0, 0)))) := fun w1 hb h1 h2 =>
    (delete_calls lo _ l.length j _ w1 (owns_blk hO (Nat.le_refl _) fun B' h => hb.block B' (hub B' h)) hj (by omega) (flat_one (tmc l)) (Nat.le_trans hlw hb.size)).mono fun e w2 h => dl_lw hj hub hne hlw hb h1 h2 h
  have HQ : Hid (∀ v W, W.heap[B]? = some (.cells (puts (cs.setIfInBounds 23 v) [(21, .bool true)]) 37 (0, 0)) → Lw lo B 64 2 (.slice a l.length c) ((delL l j).map Tm.cells) w v W → LsP lo B cs 23 64 2 (.slice a l.length c) ((delL l j).map Tm.cells) [(21, .bool true)] w (.returned (.tuple #[])) W) := fun v W h1 h2 => ⟨rfl, v, h1, h2⟩
  generalize LsP lo B cs 23 64 2 (.slice a l.length c) ((delL l j).map Tm.cells) [(21, .bool true)] w = Q at HQ ⊢
  generalize (delL l j).map Tm.cells = rows at KD HQ
  have hi33 := info33l cs hs
  have HLo : Hid (lo ≤ B) := hlo
  have HB0 : Hid ((w.alloc (.cells es 44)).heap[B]? = some (.cells cs 37 (0, 0))) := row_below (bel1 _ _) hg
  have HG0 : Hid ((w.alloc (.cells es 44)).heap[w.heap.size]? = some (.cells es 44 (0, 0))) := heap_alloc_last w _
  have HBw : Hid (Below w.heap.size w (w.alloc (.cells es 44))) := bel1 _ _
  have x4 : (w.alloc (.cells es 44)).cell? ⟨w.heap.size, 4, none⟩ = some (.string q) := row_cell HG0.out e4
  have hw1 : wrap64 ((j : Int) + 1) = (j : Int) + 1 := by
    have := wr1 hj (by omega)
    rw [this]
    omega
  have hNe : B ≠ w.heap.size := by omega
  clear hO hlw hne hub hg hlo hs hBl hj hn
  generalize l.length = m at KD HQ c23 ⊢
  clear l
  go_enter Tryz.func61, Tryz.ntmps61
  go_wp2_with fail
  generalize w.alloc (.cells es 44) = W0 at HB0 HG0 HBw x4 ⊢
  refine wp_region_held_drew (S := (fun w' => w'.cell? ⟨w.heap.size, 4, none⟩ = some (.string q) ∧ w'.rangeAt B 0 cs.toList)) (by kernel_rfl) ⟨x4, row_range HB0.out⟩ (fun hHeld => ?_)
  change wpAnyH _ _ _ _ _ _ _ _ (World.drew _)
  refine wpAnyH_take (i := 0) (oi := { dst := some 22, op := Go.Op.move (Go.Operand.tmp 0), type := 87, pos := "step.go:139", after := #[], guard := none }) (v := ?_) rfl (by kernel_rfl) (by kernel_rfl) (by kernel_rfl) (fun _ _ _ h => h) (Or.inl ⟨by rfl, ?_⟩) hHeld ?_
  rotate_left 1
  · (intro w hSw; (try dsimp only at hSw); go_simp <;> with_reducible rfl)
  simp only [Act.put, List.setIfInBounds_toArray, List.set_cons_zero, List.set_cons_succ]
  refine wpAnyH_take (i := 1) (oi := { dst := some 23, op := Go.Op.nilCheck (Go.Operand.tmp 22), type := 0, pos := "step.go:139", after := #[{ on := 0, ground := Go.Ground.data }], guard := none }) (v := ?_) rfl (by kernel_rfl) (by kernel_rfl) (by kernel_rfl) (fun _ _ _ h => h) (Or.inl ⟨by rfl, ?_⟩) hHeld ?_
  rotate_left 1
  · (intro w hSw; (try dsimp only at hSw); go_simp <;> with_reducible rfl)
  simp only [Act.put, List.setIfInBounds_toArray, List.set_cons_zero, List.set_cons_succ]
  refine wpAnyH_take (i := 2) (oi := { dst := some 24, op := Go.Op.load 37 (Go.Operand.tmp 23), type := 37, pos := "step.go:139", after := #[{ on := 1, ground := Go.Ground.data }], guard := none }) (v := _) rfl (by kernel_rfl) (by kernel_rfl) (by kernel_rfl) (fun _ _ _ h => h) (yieldsIf_load_mid rfl 37 _ rfl B 0 rfl cs.toList _ (fun w h => h.2) Tryz.underlying37 rfl hi33) hHeld ?_
  simp only [Act.put, List.setIfInBounds_toArray, List.set_cons_zero, List.set_cons_succ]
  refine wpAnyH_take (i := 3) (oi := { dst := some 25, op := Go.Op.fieldAddr 44 (Go.Operand.tmp 3) 4, type := 0, pos := "step.go:139", after := #[], guard := none }) (v := ?_) rfl (by kernel_rfl) (by kernel_rfl) (by kernel_rfl) (fun _ _ _ h => h) (Or.inl ⟨by rfl, ?_⟩) hHeld ?_
  rotate_left 1
  · (intro w hSw; (try dsimp only at hSw); go_simp <;> with_reducible rfl)
  simp only [Act.put, List.setIfInBounds_toArray, List.set_cons_zero, List.set_cons_succ]
  refine wpAnyH_take (i := 4) (oi := { dst := some 26, op := Go.Op.load 9 (Go.Operand.tmp 25), type := 9, pos := "step.go:139", after := #[{ on := 3, ground := Go.Ground.data }], guard := none }) (v := ?_) rfl (by kernel_rfl) (by kernel_rfl) (by kernel_rfl) (fun _ _ _ h => h) (Or.inl ⟨by rfl, ?_⟩) hHeld ?_
  rotate_left 1
  · (intro w hSw; (try dsimp only at hSw); go_simp <;> with_reducible rfl)
  simp only [Act.put, List.setIfInBounds_toArray, List.set_cons_zero, List.set_cons_succ]
  refine wpAnyH_ready (rs := [5]) (by kernel_rfl) (by simp) ?_
  refine AllReadyH.cons (o := { dst := some 27, op := Go.Op.call { callee := Go.Callee.value (Go.Operand.func 70), args := #[Go.Operand.tmp 24, Go.Operand.tmp 26], argTypes := #[37, 9] }, type := 3, pos := "step.go:139", after := #[{ on := 2, ground := Go.Ground.data }, { on := 4, ground := Go.Ground.data }], guard := none }) rfl (fun K hK => ?_) AllReadyH.nil
  go_simp
  refine (KT.out _ HBw.out.drew).mono ?_
  rintro e w1 ⟨rfl, hb⟩
  have HB1 : Hid (w1.heap[B]? = some (.cells cs 37 (0, 0))) := row_below hb HB0.out
  have HG1 : Hid (w1.heap[w.heap.size]? = some (.cells es 44 (0, 0))) := row_below hb HG0.out
  have HBw1 : Hid (Below w.heap.size w w1) := bel2 HBw.out.drew hb
  clear hb
  refine hK.out _ _ ⟨row_cell HG1.out e4, row_range HB1.out⟩ (fun hHeld => ?_)
  clear hK K
  refine wpAnyH_take (i := 6) (oi := { dst := some 4, op := Go.Op.assign (Go.Operand.tmp 27), type := 3, pos := "step.go:139", after := #[{ on := 5, ground := Go.Ground.data }, { on := 5, ground := Go.Ground.chain }, { on := 0, ground := Go.Ground.phase }, { on := 1, ground := Go.Ground.phase }, { on := 2, ground := Go.Ground.phase }, { on := 3, ground := Go.Ground.phase }, { on := 4, ground := Go.Ground.phase }, { on := 5, ground := Go.Ground.phase }], guard := none }) (v := ?_) rfl (by kernel_rfl) (by kernel_rfl) (by kernel_rfl) (fun _ _ _ h => h) (Or.inl ⟨by rfl, ?_⟩) hHeld ?_
  rotate_left 1
  · (intro w hSw; (try dsimp only at hSw); go_simp <;> with_reducible rfl)
  simp only [Act.put, List.setIfInBounds_toArray, List.set_cons_zero, List.set_cons_succ]
  refine wpAnyH_done (by kernel_rfl) ?_ _
  have s23 : w1.cell? ⟨B, 23, none⟩ = some (.slice a m c) := row_cell HB1.out c23
  go_wp2_with fail
  refine (KD.out _ HBw1.out HB1.out HG1.out).mono ?_
  rintro e w2 ⟨v, rfl, hl, hb2, hg2⟩
  obtain ⟨a1, c1, rfl⟩ := owns_shape hl.own
  have t23 : w2.cell? ⟨B, 23, none⟩ = some (.slice a m c) := row_cell hb2 c23
  have t21 : w2.cell? ⟨B, 21, none⟩ = some (.bool fb) := row_cell hb2 c21
  have tf : ∀ o, w2.frozen? ⟨B, o, none⟩ = false := fun o => frozen_of_row w2 B o _ 37 hb2
  have t0 : w2.cell? ⟨w.heap.size, 0, none⟩ = some (.int .i64 10) := row_cell hg2 e0
  have f0 : Hid (WrS B w2 w2 cs) := ⟨hb2, KB.refl _ _⟩
  have HL : Hid (Lw lo B 64 2 (.slice a m c) rows w (.slice a1 rows.length c1) w2) := hl
  have HB2 : Hid (w2.heap[B]? = some (.cells cs 37 (0, 0))) := hb2
  clear hl hb2 hg2 s23 KD
  go_wp2_with fail
  go_end0
  have f1 := f0.out.set 23 (.slice a1 rows.length c1)
  have f2 := f1.set 21 (.bool true)
  exact HQ.out _ _ f2.row (HL.out.kb HB2.out (by decide) HLo.out f2.kb)
set_option maxHeartbeats 4000000 in
set_option maxRecDepth 100000 in
theorem timers11 (lo B : Nat) (cs es : Array Value) (l : List Tm) (a : Option Addr) (c : Nat) (q : ByteArray) (j : Nat) (fb : Bool) (w : World) (hg : w.heap[B]? = some (.cells cs 37 (0, 0))) (hs : cs.size = 31) (c21 : cs[21]? = some (.bool fb)) (c23 : cs[23]? = some (.slice a l.length c)) (hO : w.ownsRow lo 64 2 (.slice a l.length c) l.length ((l.map Tm.cells).flatMap Array.toList)) (hn : l.length ≤ 500) (hlo : lo ≤ B) (hj : j < l.length)
    (KT : Hid (∀ W, Below w.heap.size w W → Calls Tryz.prog 70 #[.agg cs, .string q] W (IxP (j : Int) W))) (e0 : es[0]? = some (.int .i64 11)) (e4 : es[4]? = some (.string q)) :
    Calls Tryz.prog 61 #[.pointer (some ⟨B, 0, none⟩), .agg es] w (LsP lo B cs 23 64 2 (.slice a l.length c) ((delL l j).map Tm.cells) [] w) := by
  have hBl : B < w.heap.size := (Array.getElem?_eq_some_iff.1 hg).1
  have hlw : lo ≤ w.heap.size := by omega
  have hne : (Value.slice a l.length c).ownBlock ≠ some B := box_ne hO (by decide) hg
  have hub : ∀ B', (Value.slice a l.length c).ownBlock = some B' → B' < w.heap.size := fun B' h => (hO.lt B' h).2
  have KD : Hid (∀ w1, Below w.heap.size w w1 → w1.heap[B]? = some (.cells cs 37 (0, 0)) → w1.heap[w.heap.size]? = some (.cells es 44 (0, 0)) → Calls Tryz.prog 76 #[.slice a l.length c, .int .i64 (j : Int), .int .i64 ((j : Int) + 1)] w1 (fun e w2 => ∃ v, e = .returned v ∧ Lw lo B 64 2 (.slice a l.length c) ((delL l j).map Tm.cells) w v w2 ∧ w2.heap[B]? = some (.cells cs 37 (0, 0)) ∧ w2.heap[w.heap.size]? = some (.cells es 44 (0, 0)))) := fun w1 hb h1 h2 =>
    (delete_calls lo _ l.length j _ w1 (owns_blk hO (Nat.le_refl _) fun B' h => hb.block B' (hub B' h)) hj (by omega) (flat_one (tmc l)) (Nat.le_trans hlw hb.size)).mono fun e w2 h => dl_lw hj hub hne hlw hb h1 h2 h
  have HQ : Hid (∀ v W, W.heap[B]? = some (.cells (puts (cs.setIfInBounds 23 v) []) 37 (0, 0)) → Lw lo B 64 2 (.slice a l.length c) ((delL l j).map Tm.cells) w v W → LsP lo B cs 23 64 2 (.slice a l.length c) ((delL l j).map Tm.cells) [] w (.returned (.tuple #[])) W) := fun v W h1 h2 => ⟨rfl, v, h1, h2⟩
  generalize LsP lo B cs 23 64 2 (.slice a l.length c) ((delL l j).map Tm.cells) [] w = Q at HQ ⊢
  generalize (delL l j).map Tm.cells = rows at KD HQ
  have hi33 := info33l cs hs
  have HLo : Hid (lo ≤ B) := hlo
  have HB0 : Hid ((w.alloc (.cells es 44)).heap[B]? = some (.cells cs 37 (0, 0))) := row_below (bel1 _ _) hg
  have HG0 : Hid ((w.alloc (.cells es 44)).heap[w.heap.size]? = some (.cells es 44 (0, 0))) := heap_alloc_last w _
  have HBw : Hid (Below w.heap.size w (w.alloc (.cells es 44))) := bel1 _ _
  have x4 : (w.alloc (.cells es 44)).cell? ⟨w.heap.size, 4, none⟩ = some (.string q) := row_cell HG0.out e4
  have hw1 : wrap64 ((j : Int) + 1) = (j : Int) + 1 := by
    have := wr1 hj (by omega)
    rw [this]
    omega
  have hNe : B ≠ w.heap.size := by omega
  clear hO hlw hne hub hg hlo hs hBl hj hn
  generalize l.length = m at KD HQ c23 ⊢
  clear l
  go_enter Tryz.func61, Tryz.ntmps61
  go_wp2_with fail
  generalize w.alloc (.cells es 44) = W0 at HB0 HG0 HBw x4 ⊢
  refine wp_region_held_drew (S := (fun w' => w'.cell? ⟨w.heap.size, 4, none⟩ = some (.string q) ∧ w'.rangeAt B 0 cs.toList)) (by kernel_rfl) ⟨x4, row_range HB0.out⟩ (fun hHeld => ?_)
  change wpAnyH _ _ _ _ _ _ _ _ (World.drew _)
  refine wpAnyH_take (i := 0) (oi := { dst := some 22, op := Go.Op.move (Go.Operand.tmp 0), type := 87, pos := "step.go:139", after := #[], guard := none }) (v := ?_) rfl (by kernel_rfl) (by kernel_rfl) (by kernel_rfl) (fun _ _ _ h => h) (Or.inl ⟨by rfl, ?_⟩) hHeld ?_
  rotate_left 1
  · (intro w hSw; (try dsimp only at hSw); go_simp <;> with_reducible rfl)
  simp only [Act.put, List.setIfInBounds_toArray, List.set_cons_zero, List.set_cons_succ]
  refine wpAnyH_take (i := 1) (oi := { dst := some 23, op := Go.Op.nilCheck (Go.Operand.tmp 22), type := 0, pos := "step.go:139", after := #[{ on := 0, ground := Go.Ground.data }], guard := none }) (v := ?_) rfl (by kernel_rfl) (by kernel_rfl) (by kernel_rfl) (fun _ _ _ h => h) (Or.inl ⟨by rfl, ?_⟩) hHeld ?_
  rotate_left 1
  · (intro w hSw; (try dsimp only at hSw); go_simp <;> with_reducible rfl)
  simp only [Act.put, List.setIfInBounds_toArray, List.set_cons_zero, List.set_cons_succ]
  refine wpAnyH_take (i := 2) (oi := { dst := some 24, op := Go.Op.load 37 (Go.Operand.tmp 23), type := 37, pos := "step.go:139", after := #[{ on := 1, ground := Go.Ground.data }], guard := none }) (v := _) rfl (by kernel_rfl) (by kernel_rfl) (by kernel_rfl) (fun _ _ _ h => h) (yieldsIf_load_mid rfl 37 _ rfl B 0 rfl cs.toList _ (fun w h => h.2) Tryz.underlying37 rfl hi33) hHeld ?_
  simp only [Act.put, List.setIfInBounds_toArray, List.set_cons_zero, List.set_cons_succ]
  refine wpAnyH_take (i := 3) (oi := { dst := some 25, op := Go.Op.fieldAddr 44 (Go.Operand.tmp 3) 4, type := 0, pos := "step.go:139", after := #[], guard := none }) (v := ?_) rfl (by kernel_rfl) (by kernel_rfl) (by kernel_rfl) (fun _ _ _ h => h) (Or.inl ⟨by rfl, ?_⟩) hHeld ?_
  rotate_left 1
  · (intro w hSw; (try dsimp only at hSw); go_simp <;> with_reducible rfl)
  simp only [Act.put, List.setIfInBounds_toArray, List.set_cons_zero, List.set_cons_succ]
  refine wpAnyH_take (i := 4) (oi := { dst := some 26, op := Go.Op.load 9 (Go.Operand.tmp 25), type := 9, pos := "step.go:139", after := #[{ on := 3, ground := Go.Ground.data }], guard := none }) (v := ?_) rfl (by kernel_rfl) (by kernel_rfl) (by kernel_rfl) (fun _ _ _ h => h) (Or.inl ⟨by rfl, ?_⟩) hHeld ?_
  rotate_left 1
  · (intro w hSw; (try dsimp only at hSw); go_simp <;> with_reducible rfl)
  simp only [Act.put, List.setIfInBounds_toArray, List.set_cons_zero, List.set_cons_succ]
  refine wpAnyH_ready (rs := [5]) (by kernel_rfl) (by simp) ?_
  refine AllReadyH.cons (o := { dst := some 27, op := Go.Op.call { callee := Go.Callee.value (Go.Operand.func 70), args := #[Go.Operand.tmp 24, Go.Operand.tmp 26], argTypes := #[37, 9] }, type := 3, pos := "step.go:139", after := #[{ on := 2, ground := Go.Ground.data }, { on := 4, ground := Go.Ground.data }], guard := none }) rfl (fun K hK => ?_) AllReadyH.nil
  go_simp
  refine (KT.out _ HBw.out.drew).mono ?_
  rintro e w1 ⟨rfl, hb⟩
  have HB1 : Hid (w1.heap[B]? = some (.cells cs 37 (0, 0))) := row_below hb HB0.out
  have HG1 : Hid (w1.heap[w.heap.size]? = some (.cells es 44 (0, 0))) := row_below hb HG0.out
  have HBw1 : Hid (Below w.heap.size w w1) := bel2 HBw.out.drew hb
  clear hb
  refine hK.out _ _ ⟨row_cell HG1.out e4, row_range HB1.out⟩ (fun hHeld => ?_)
  clear hK K
  refine wpAnyH_take (i := 6) (oi := { dst := some 4, op := Go.Op.assign (Go.Operand.tmp 27), type := 3, pos := "step.go:139", after := #[{ on := 5, ground := Go.Ground.data }, { on := 5, ground := Go.Ground.chain }, { on := 0, ground := Go.Ground.phase }, { on := 1, ground := Go.Ground.phase }, { on := 2, ground := Go.Ground.phase }, { on := 3, ground := Go.Ground.phase }, { on := 4, ground := Go.Ground.phase }, { on := 5, ground := Go.Ground.phase }], guard := none }) (v := ?_) rfl (by kernel_rfl) (by kernel_rfl) (by kernel_rfl) (fun _ _ _ h => h) (Or.inl ⟨by rfl, ?_⟩) hHeld ?_
  rotate_left 1
  · (intro w hSw; (try dsimp only at hSw); go_simp <;> with_reducible rfl)
  simp only [Act.put, List.setIfInBounds_toArray, List.set_cons_zero, List.set_cons_succ]
  refine wpAnyH_done (by kernel_rfl) ?_ _
  have s23 : w1.cell? ⟨B, 23, none⟩ = some (.slice a m c) := row_cell HB1.out c23
  go_wp2_with fail
  refine (KD.out _ HBw1.out HB1.out HG1.out).mono ?_
  rintro e w2 ⟨v, rfl, hl, hb2, hg2⟩
  obtain ⟨a1, c1, rfl⟩ := owns_shape hl.own
  have t23 : w2.cell? ⟨B, 23, none⟩ = some (.slice a m c) := row_cell hb2 c23
  have t21 : w2.cell? ⟨B, 21, none⟩ = some (.bool fb) := row_cell hb2 c21
  have tf : ∀ o, w2.frozen? ⟨B, o, none⟩ = false := fun o => frozen_of_row w2 B o _ 37 hb2
  have t0 : w2.cell? ⟨w.heap.size, 0, none⟩ = some (.int .i64 11) := row_cell hg2 e0
  have f0 : Hid (WrS B w2 w2 cs) := ⟨hb2, KB.refl _ _⟩
  have HL : Hid (Lw lo B 64 2 (.slice a m c) rows w (.slice a1 rows.length c1) w2) := hl
  have HB2 : Hid (w2.heap[B]? = some (.cells cs 37 (0, 0))) := hb2
  clear hl hb2 hg2 s23 KD
  go_wp2_with fail
  go_end0
  have f1 := f0.out.set 23 (.slice a1 rows.length c1)
  exact HQ.out _ _ f1.row (HL.out.kb HB2.out (by decide) HLo.out f1.kb)
end Go.Proofs.YtakaglfeeipeiaaGreat
