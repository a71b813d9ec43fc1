/- Step, whatever the state and the event: the contracts of changeTimers, changeUpdates, change, Step. -/
import Derived.Test.YtcdhlklmnnmpoaaGreatUH
namespace Go.Proofs.YtcdhlklmnnmpoaaGreat
open Go.ChangeShapes Go.WideShapes Go.ChangeAt Go.RowKit
/-- A list without the one at j. -/
def delL {α : Type} (l : List α) (j : Nat) : List α := l.take j ++ l.drop (j + 1)
theorem delL_length {α : Type} (l : List α) (j : Nat) (h : j < l.length) : (delL l j).length = l.length - 1 := by
  simp [delL]
  omega
theorem row_range {w : World} {B t : Nat} {cs : Array Value} {fr : Nat × Nat} (h : w.heap[B]? = some (.cells cs t fr)) : w.rangeAt B 0 cs.toList := lies_range (Lies.row h)
theorem info33l (cs : Array Value) (h : cs.size = 31) : (Tryz.prog.info? 41).map (·.size) = some cs.toList.length := by rw [Array.length_toList]; exact info33s cs h
theorem dl_lw {lo B j : Nat} {u : Value} {l : List Tm} {w w1 w2 : World} {e : Ending} {cs es : Array Value} (hj : j < l.length) (hub : ∀ B', u.ownBlock = some B' → B' < w.heap.size) (hne : u.ownBlock ≠ some B) (hlo : lo ≤ w.heap.size) (hb : Below w.heap.size w w1) (hB : w1.heap[B]? = some (.cells cs 41 (0, 0))) (hG : w1.heap[w.heap.size]? = some (.cells es 54 (0, 0)))
    (h : DlP lo u l.length j ((l.map Tm.cells).flatMap Array.toList) w1 e w2) : ∃ v, e = .returned v ∧ Lw lo B 120 2 u ((delL l j).map Tm.cells) w v w2 ∧ w2.heap[B]? = some (.cells cs 41 (0, 0)) ∧ w2.heap[w.heap.size]? = some (.cells es 54 (0, 0)) := by
  obtain ⟨v, h0, h1, h2, h3, h4⟩ := h
  have hsz := hb.size
  have hk : ∀ (i : Nat) r, (l.map Tm.cells)[i]? = some r → r.size = 2 := fun i r hr => (tmc l i r hr).1
  refine ⟨v, h0, ⟨?_, (hb.mono hlo).trans h2, fun B' b1 _ b3 => (h3 B' (by omega) b3).trans (hb.block B' b1), .inl h4⟩, ?_, ?_⟩
  · rw [List.length_map, delL_length l j hj]
    rw [← rows_take (l.map Tm.cells) j hk, ← rows_drop (l.map Tm.cells) (j + 1) hk, ← List.flatMap_append, ← List.map_take, ← List.map_drop, ← List.map_append] at h1
    exact h1
  · rw [h3 B (Array.getElem?_eq_some_iff.1 hB).1 hne]
    exact hB
  · rw [h3 w.heap.size (Array.getElem?_eq_some_iff.1 hG).1 (fun e => by have := hub _ e; omega)]
    exact hG
set_option maxHeartbeats 4000000 in
set_option maxRecDepth 100000 in
theorem timers10 (lo B : Nat) (cs es : Array Value) (l : List Tm) (a : Option Addr) (c : Nat) (q : ByteArray) (j : Nat) (fb : Bool) (w : World) (hg : w.heap[B]? = some (.cells cs 41 (0, 0))) (hs : cs.size = 31) (c21 : cs[21]? = some (.bool fb)) (c23 : cs[23]? = some (.slice a l.length c)) (hO : w.ownsRow lo 120 2 (.slice a l.length c) l.length ((l.map Tm.cells).flatMap Array.toList)) (hn : l.length ≤ 500) (hlo : lo ≤ B) (hj : j < l.length)
    (KT : Hid (∀ W, Below w.heap.size w W → Calls Tryz.prog 95 #[.agg cs, .string q] W (IxP (j : Int) W))) (e0 : es[0]? = some (.int .i64 10)) (e4 : es[4]? = some (.string q)) :
    Calls Tryz.prog 84 #[.pointer (some ⟨B, 0, none⟩), .agg es] w (LsP lo B cs 23 120 2 (.slice a l.length c) ((delL l j).map Tm.cells) [(21, .bool true)] w) := by
  have hBl : B < w.heap.size := (Array.getElem?_eq_some_iff.1 hg).1
  have hlw : lo ≤ w.heap.size := by omega
  have hne : (Value.slice a l.length c).ownBlock ≠ some B := box_ne hO (by decide) hg
  have hub : ∀ B', (Value.slice a l.length c).ownBlock = some B' → B' < w.heap.size := fun B' h => (hO.lt B' h).2
  have KD : Hid (∀ w1, Below w.heap.size w w1 → w1.heap[B]? = some (.cells cs 41 (0, 0)) → w1.heap[w.heap.size]? = some (.cells es 54 (0, 0)) → Calls Tryz.prog 101 #[.slice a l.length c, .int .i64 (j : Int), .int .i64 ((j : Int) + 1)] w1 (fun e w2 => ∃ v, e = .returned v ∧ Lw lo B 120 2 (.slice a l.length c) ((delL l j).map Tm.cells) w v w2 ∧ w2.heap[B]? = some (.cells cs 41 (0, 0)) ∧ w2.heap[w.heap.size]? = some (.cells es 54 (0, 0)))) := fun w1 hb h1 h2 =>
    (delete_calls lo _ l.length j _ w1 (owns_blk hO (Nat.le_refl _) fun B' h => hb.block B' (hub B' h)) hj (by omega) (flat_one (tmc l)) (Nat.le_trans hlw hb.size)).mono fun e w2 h => dl_lw hj hub hne hlw hb h1 h2 h
  have HQ : Hid (∀ v W, W.heap[B]? = some (.cells (puts (cs.setIfInBounds 23 v) [(21, .bool true)]) 41 (0, 0)) → Lw lo B 120 2 (.slice a l.length c) ((delL l j).map Tm.cells) w v W → LsP lo B cs 23 120 2 (.slice a l.length c) ((delL l j).map Tm.cells) [(21, .bool true)] w (.returned (.tuple #[])) W) := fun v W h1 h2 => ⟨rfl, v, h1, h2⟩
  generalize LsP lo B cs 23 120 2 (.slice a l.length c) ((delL l j).map Tm.cells) [(21, .bool true)] w = Q at HQ ⊢
  generalize (delL l j).map Tm.cells = rows at KD HQ
  have hi33 := info33l cs hs
  have HLo : Hid (lo ≤ B) := hlo
  have HB0 : Hid ((w.alloc (.cells es 54)).heap[B]? = some (.cells cs 41 (0, 0))) := row_below (bel1 _ _) hg
  have HG0 : Hid ((w.alloc (.cells es 54)).heap[w.heap.size]? = some (.cells es 54 (0, 0))) := heap_alloc_last w _
  have HBw : Hid (Below w.heap.size w (w.alloc (.cells es 54))) := bel1 _ _
  have x4 : (w.alloc (.cells es 54)).cell? ⟨w.heap.size, 4, none⟩ = some (.string q) := row_cell HG0.out e4
  have hw1 : wrap64 ((j : Int) + 1) = (j : Int) + 1 := by
    have := wr1 hj (by omega)
    rw [this]
    omega
  have hNe : B ≠ w.heap.size := by omega
  clear hO hlw hne hub hg hlo hs hBl hj hn
  generalize l.length = m at KD HQ c23 ⊢
  clear l
  go_enter Tryz.func84, Tryz.ntmps84
  go_wp2_with fail
  generalize w.alloc (.cells es 54) = W0 at HB0 HG0 HBw x4 ⊢
  refine wp_region_held_drew (S := (fun w' => w'.cell? ⟨w.heap.size, 4, none⟩ = some (.string q) ∧ w'.rangeAt B 0 cs.toList)) (by kernel_rfl) ⟨x4, row_range HB0.out⟩ (fun hHeld => ?_)
  change wpAnyH _ _ _ _ _ _ _ _ (World.drew _)
  refine wpAnyH_take (i := 0) (oi := { dst := some 22, op := Go.Op.move (Go.Operand.tmp 0), type := 113, pos := "step.go:139", after := #[], guard := none }) (v := ?_) rfl (by kernel_rfl) (by kernel_rfl) (by kernel_rfl) (fun _ _ _ h => h) (Or.inl ⟨by rfl, ?_⟩) hHeld ?_
  rotate_left 1
  · (intro w hSw; (try dsimp only at hSw); go_simp <;> with_reducible rfl)
  simp only [Act.put, List.setIfInBounds_toArray, List.set_cons_zero, List.set_cons_succ]
  refine wpAnyH_take (i := 1) (oi := { dst := some 23, op := Go.Op.nilCheck (Go.Operand.tmp 22), type := 0, pos := "step.go:139", after := #[{ on := 0, ground := Go.Ground.data }], guard := none }) (v := ?_) rfl (by kernel_rfl) (by kernel_rfl) (by kernel_rfl) (fun _ _ _ h => h) (Or.inl ⟨by rfl, ?_⟩) hHeld ?_
  rotate_left 1
  · (intro w hSw; (try dsimp only at hSw); go_simp <;> with_reducible rfl)
  simp only [Act.put, List.setIfInBounds_toArray, List.set_cons_zero, List.set_cons_succ]
  refine wpAnyH_take (i := 2) (oi := { dst := some 24, op := Go.Op.load 41 (Go.Operand.tmp 23), type := 41, pos := "step.go:139", after := #[{ on := 1, ground := Go.Ground.data }], guard := none }) (v := _) rfl (by kernel_rfl) (by kernel_rfl) (by kernel_rfl) (fun _ _ _ h => h) (yieldsIf_load_mid rfl 41 _ rfl B 0 rfl cs.toList _ (fun w h => h.2) Tryz.underlying41 rfl hi33) hHeld ?_
  simp only [Act.put, List.setIfInBounds_toArray, List.set_cons_zero, List.set_cons_succ]
  refine wpAnyH_take (i := 3) (oi := { dst := some 25, op := Go.Op.fieldAddr 54 (Go.Operand.tmp 3) 4, type := 0, pos := "step.go:139", after := #[], guard := none }) (v := ?_) rfl (by kernel_rfl) (by kernel_rfl) (by kernel_rfl) (fun _ _ _ h => h) (Or.inl ⟨by rfl, ?_⟩) hHeld ?_
  rotate_left 1
  · (intro w hSw; (try dsimp only at hSw); go_simp <;> with_reducible rfl)
  simp only [Act.put, List.setIfInBounds_toArray, List.set_cons_zero, List.set_cons_succ]
  refine wpAnyH_take (i := 4) (oi := { dst := some 26, op := Go.Op.load 9 (Go.Operand.tmp 25), type := 9, pos := "step.go:139", after := #[{ on := 3, ground := Go.Ground.data }], guard := none }) (v := ?_) rfl (by kernel_rfl) (by kernel_rfl) (by kernel_rfl) (fun _ _ _ h => h) (Or.inl ⟨by rfl, ?_⟩) hHeld ?_
  rotate_left 1
  · (intro w hSw; (try dsimp only at hSw); go_simp <;> with_reducible rfl)
  simp only [Act.put, List.setIfInBounds_toArray, List.set_cons_zero, List.set_cons_succ]
  refine wpAnyH_ready (rs := [5]) (by kernel_rfl) (by simp) ?_
  refine AllReadyH.cons (o := { dst := some 27, op := Go.Op.call { callee := Go.Callee.value (Go.Operand.func 95), args := #[Go.Operand.tmp 24, Go.Operand.tmp 26], argTypes := #[41, 9] }, type := 3, pos := "step.go:139", after := #[{ on := 2, ground := Go.Ground.data }, { on := 4, ground := Go.Ground.data }], guard := none }) rfl (fun K hK => ?_) AllReadyH.nil
  go_simp
  refine (KT.out _ HBw.out.drew).mono ?_
  rintro e w1 ⟨rfl, hb⟩
  have HB1 : Hid (w1.heap[B]? = some (.cells cs 41 (0, 0))) := row_below hb HB0.out
  have HG1 : Hid (w1.heap[w.heap.size]? = some (.cells es 54 (0, 0))) := row_below hb HG0.out
  have HBw1 : Hid (Below w.heap.size w w1) := bel2 HBw.out.drew hb
  clear hb
  refine hK.out _ _ ⟨row_cell HG1.out e4, row_range HB1.out⟩ (fun hHeld => ?_)
  clear hK K
  refine wpAnyH_take (i := 6) (oi := { dst := some 4, op := Go.Op.assign (Go.Operand.tmp 27), type := 3, pos := "step.go:139", after := #[{ on := 5, ground := Go.Ground.data }, { on := 5, ground := Go.Ground.chain }, { on := 0, ground := Go.Ground.phase }, { on := 1, ground := Go.Ground.phase }, { on := 2, ground := Go.Ground.phase }, { on := 3, ground := Go.Ground.phase }, { on := 4, ground := Go.Ground.phase }, { on := 5, ground := Go.Ground.phase }], guard := none }) (v := ?_) rfl (by kernel_rfl) (by kernel_rfl) (by kernel_rfl) (fun _ _ _ h => h) (Or.inl ⟨by rfl, ?_⟩) hHeld ?_
  rotate_left 1
  · (intro w hSw; (try dsimp only at hSw); go_simp <;> with_reducible rfl)
  simp only [Act.put, List.setIfInBounds_toArray, List.set_cons_zero, List.set_cons_succ]
  refine wpAnyH_done (by kernel_rfl) ?_ _
  have s23 : w1.cell? ⟨B, 23, none⟩ = some (.slice a m c) := row_cell HB1.out c23
  go_wp2_with fail
  refine (KD.out _ HBw1.out HB1.out HG1.out).mono ?_
  rintro e w2 ⟨v, rfl, hl, hb2, hg2⟩
  obtain ⟨a1, c1, rfl⟩ := owns_shape hl.own
  have t23 : w2.cell? ⟨B, 23, none⟩ = some (.slice a m c) := row_cell hb2 c23
  have t21 : w2.cell? ⟨B, 21, none⟩ = some (.bool fb) := row_cell hb2 c21
  have tf : ∀ o, w2.frozen? ⟨B, o, none⟩ = false := fun o => frozen_of_row w2 B o _ 41 hb2
  have t0 : w2.cell? ⟨w.heap.size, 0, none⟩ = some (.int .i64 10) := row_cell hg2 e0
  have f0 : Hid (WrS B w2 w2 cs) := ⟨hb2, KB.refl _ _⟩
  have HL : Hid (Lw lo B 120 2 (.slice a m c) rows w (.slice a1 rows.length c1) w2) := hl
  have HB2 : Hid (w2.heap[B]? = some (.cells cs 41 (0, 0))) := hb2
  clear hl hb2 hg2 s23 KD
  go_wp2_with fail
  go_end0
  have f1 := f0.out.set 23 (.slice a1 rows.length c1)
  have f2 := f1.set 21 (.bool true)
  exact HQ.out _ _ f2.row (HL.out.kb HB2.out (by decide) HLo.out f2.kb)
set_option maxHeartbeats 4000000 in
set_option maxRecDepth 100000 in
theorem timers11 (lo B : Nat) (cs es : Array Value) (l : List Tm) (a : Option Addr) (c : Nat) (q : ByteArray) (j : Nat) (fb : Bool) (w : World) (hg : w.heap[B]? = some (.cells cs 41 (0, 0))) (hs : cs.size = 31) (c21 : cs[21]? = some (.bool fb)) (c23 : cs[23]? = some (.slice a l.length c)) (hO : w.ownsRow lo 120 2 (.slice a l.length c) l.length ((l.map Tm.cells).flatMap Array.toList)) (hn : l.length ≤ 500) (hlo : lo ≤ B) (hj : j < l.length)
    (KT : Hid (∀ W, Below w.heap.size w W → Calls Tryz.prog 95 #[.agg cs, .string q] W (IxP (j : Int) W))) (e0 : es[0]? = some (.int .i64 11)) (e4 : es[4]? = some (.string q)) :
    Calls Tryz.prog 84 #[.pointer (some ⟨B, 0, none⟩), .agg es] w (LsP lo B cs 23 120 2 (.slice a l.length c) ((delL l j).map Tm.cells) [] w) := by
  have hBl : B < w.heap.size := (Array.getElem?_eq_some_iff.1 hg).1
  have hlw : lo ≤ w.heap.size := by omega
  have hne : (Value.slice a l.length c).ownBlock ≠ some B := box_ne hO (by decide) hg
  have hub : ∀ B', (Value.slice a l.length c).ownBlock = some B' → B' < w.heap.size := fun B' h => (hO.lt B' h).2
  have KD : Hid (∀ w1, Below w.heap.size w w1 → w1.heap[B]? = some (.cells cs 41 (0, 0)) → w1.heap[w.heap.size]? = some (.cells es 54 (0, 0)) → Calls Tryz.prog 101 #[.slice a l.length c, .int .i64 (j : Int), .int .i64 ((j : Int) + 1)] w1 (fun e w2 => ∃ v, e = .returned v ∧ Lw lo B 120 2 (.slice a l.length c) ((delL l j).map Tm.cells) w v w2 ∧ w2.heap[B]? = some (.cells cs 41 (0, 0)) ∧ w2.heap[w.heap.size]? = some (.cells es 54 (0, 0)))) := fun w1 hb h1 h2 =>
    (delete_calls lo _ l.length j _ w1 (owns_blk hO (Nat.le_refl _) fun B' h => hb.block B' (hub B' h)) hj (by omega) (flat_one (tmc l)) (Nat.le_trans hlw hb.size)).mono fun e w2 h => dl_lw hj hub hne hlw hb h1 h2 h
  have HQ : Hid (∀ v W, W.heap[B]? = some (.cells (puts (cs.setIfInBounds 23 v) []) 41 (0, 0)) → Lw lo B 120 2 (.slice a l.length c) ((delL l j).map Tm.cells) w v W → LsP lo B cs 23 120 2 (.slice a l.length c) ((delL l j).map Tm.cells) [] w (.returned (.tuple #[])) W) := fun v W h1 h2 => ⟨rfl, v, h1, h2⟩
  generalize LsP lo B cs 23 120 2 (.slice a l.length c) ((delL l j).map Tm.cells) [] w = Q at HQ ⊢
  generalize (delL l j).map Tm.cells = rows at KD HQ
  have hi33 := info33l cs hs
  have HLo : Hid (lo ≤ B) := hlo
  have HB0 : Hid ((w.alloc (.cells es 54)).heap[B]? = some (.cells cs 41 (0, 0))) := row_below (bel1 _ _) hg
  have HG0 : Hid ((w.alloc (.cells es 54)).heap[w.heap.size]? = some (.cells es 54 (0, 0))) := heap_alloc_last w _
  have HBw : Hid (Below w.heap.size w (w.alloc (.cells es 54))) := bel1 _ _
  have x4 : (w.alloc (.cells es 54)).cell? ⟨w.heap.size, 4, none⟩ = some (.string q) := row_cell HG0.out e4
  have hw1 : wrap64 ((j : Int) + 1) = (j : Int) + 1 := by
    have := wr1 hj (by omega)
    rw [this]
    omega
  have hNe : B ≠ w.heap.size := by omega
  clear hO hlw hne hub hg hlo hs hBl hj hn
  generalize l.length = m at KD HQ c23 ⊢
  clear l
  go_enter Tryz.func84, Tryz.ntmps84
  go_wp2_with fail
  generalize w.alloc (.cells es 54) = W0 at HB0 HG0 HBw x4 ⊢
  refine wp_region_held_drew (S := (fun w' => w'.cell? ⟨w.heap.size, 4, none⟩ = some (.string q) ∧ w'.rangeAt B 0 cs.toList)) (by kernel_rfl) ⟨x4, row_range HB0.out⟩ (fun hHeld => ?_)
  change wpAnyH _ _ _ _ _ _ _ _ (World.drew _)
  refine wpAnyH_take (i := 0) (oi := { dst := some 22, op := Go.Op.move (Go.Operand.tmp 0), type := 113, pos := "step.go:139", after := #[], guard := none }) (v := ?_) rfl (by kernel_rfl) (by kernel_rfl) (by kernel_rfl) (fun _ _ _ h => h) (Or.inl ⟨by rfl, ?_⟩) hHeld ?_
  rotate_left 1
  · (intro w hSw; (try dsimp only at hSw); go_simp <;> with_reducible rfl)
  simp only [Act.put, List.setIfInBounds_toArray, List.set_cons_zero, List.set_cons_succ]
  refine wpAnyH_take (i := 1) (oi := { dst := some 23, op := Go.Op.nilCheck (Go.Operand.tmp 22), type := 0, pos := "step.go:139", after := #[{ on := 0, ground := Go.Ground.data }], guard := none }) (v := ?_) rfl (by kernel_rfl) (by kernel_rfl) (by kernel_rfl) (fun _ _ _ h => h) (Or.inl ⟨by rfl, ?_⟩) hHeld ?_
  rotate_left 1
  · (intro w hSw; (try dsimp only at hSw); go_simp <;> with_reducible rfl)
  simp only [Act.put, List.setIfInBounds_toArray, List.set_cons_zero, List.set_cons_succ]
  refine wpAnyH_take (i := 2) (oi := { dst := some 24, op := Go.Op.load 41 (Go.Operand.tmp 23), type := 41, pos := "step.go:139", after := #[{ on := 1, ground := Go.Ground.data }], guard := none }) (v := _) rfl (by kernel_rfl) (by kernel_rfl) (by kernel_rfl) (fun _ _ _ h => h) (yieldsIf_load_mid rfl 41 _ rfl B 0 rfl cs.toList _ (fun w h => h.2) Tryz.underlying41 rfl hi33) hHeld ?_
  simp only [Act.put, List.setIfInBounds_toArray, List.set_cons_zero, List.set_cons_succ]
  refine wpAnyH_take (i := 3) (oi := { dst := some 25, op := Go.Op.fieldAddr 54 (Go.Operand.tmp 3) 4, type := 0, pos := "step.go:139", after := #[], guard := none }) (v := ?_) rfl (by kernel_rfl) (by kernel_rfl) (by kernel_rfl) (fun _ _ _ h => h) (Or.inl ⟨by rfl, ?_⟩) hHeld ?_
  rotate_left 1
  · (intro w hSw; (try dsimp only at hSw); go_simp <;> with_reducible rfl)
  simp only [Act.put, List.setIfInBounds_toArray, List.set_cons_zero, List.set_cons_succ]
  refine wpAnyH_take (i := 4) (oi := { dst := some 26, op := Go.Op.load 9 (Go.Operand.tmp 25), type := 9, pos := "step.go:139", after := #[{ on := 3, ground := Go.Ground.data }], guard := none }) (v := ?_) rfl (by kernel_rfl) (by kernel_rfl) (by kernel_rfl) (fun _ _ _ h => h) (Or.inl ⟨by rfl, ?_⟩) hHeld ?_
  rotate_left 1
  · (intro w hSw; (try dsimp only at hSw); go_simp <;> with_reducible rfl)
  simp only [Act.put, List.setIfInBounds_toArray, List.set_cons_zero, List.set_cons_succ]
  refine wpAnyH_ready (rs := [5]) (by kernel_rfl) (by simp) ?_
  refine AllReadyH.cons (o := { dst := some 27, op := Go.Op.call { callee := Go.Callee.value (Go.Operand.func 95), args := #[Go.Operand.tmp 24, Go.Operand.tmp 26], argTypes := #[41, 9] }, type := 3, pos := "step.go:139", after := #[{ on := 2, ground := Go.Ground.data }, { on := 4, ground := Go.Ground.data }], guard := none }) rfl (fun K hK => ?_) AllReadyH.nil
  go_simp
  refine (KT.out _ HBw.out.drew).mono ?_
  rintro e w1 ⟨rfl, hb⟩
  have HB1 : Hid (w1.heap[B]? = some (.cells cs 41 (0, 0))) := row_below hb HB0.out
  have HG1 : Hid (w1.heap[w.heap.size]? = some (.cells es 54 (0, 0))) := row_below hb HG0.out
  have HBw1 : Hid (Below w.heap.size w w1) := bel2 HBw.out.drew hb
  clear hb
  refine hK.out _ _ ⟨row_cell HG1.out e4, row_range HB1.out⟩ (fun hHeld => ?_)
  clear hK K
  refine wpAnyH_take (i := 6) (oi := { dst := some 4, op := Go.Op.assign (Go.Operand.tmp 27), type := 3, pos := "step.go:139", after := #[{ on := 5, ground := Go.Ground.data }, { on := 5, ground := Go.Ground.chain }, { on := 0, ground := Go.Ground.phase }, { on := 1, ground := Go.Ground.phase }, { on := 2, ground := Go.Ground.phase }, { on := 3, ground := Go.Ground.phase }, { on := 4, ground := Go.Ground.phase }, { on := 5, ground := Go.Ground.phase }], guard := none }) (v := ?_) rfl (by kernel_rfl) (by kernel_rfl) (by kernel_rfl) (fun _ _ _ h => h) (Or.inl ⟨by rfl, ?_⟩) hHeld ?_
  rotate_left 1
  · (intro w hSw; (try dsimp only at hSw); go_simp <;> with_reducible rfl)
  simp only [Act.put, List.setIfInBounds_toArray, List.set_cons_zero, List.set_cons_succ]
  refine wpAnyH_done (by kernel_rfl) ?_ _
  have s23 : w1.cell? ⟨B, 23, none⟩ = some (.slice a m c) := row_cell HB1.out c23
  go_wp2_with fail
  refine (KD.out _ HBw1.out HB1.out HG1.out).mono ?_
  rintro e w2 ⟨v, rfl, hl, hb2, hg2⟩
  obtain ⟨a1, c1, rfl⟩ := owns_shape hl.own
  have t23 : w2.cell? ⟨B, 23, none⟩ = some (.slice a m c) := row_cell hb2 c23
  have t21 : w2.cell? ⟨B, 21, none⟩ = some (.bool fb) := row_cell hb2 c21
  have tf : ∀ o, w2.frozen? ⟨B, o, none⟩ = false := fun o => frozen_of_row w2 B o _ 41 hb2
  have t0 : w2.cell? ⟨w.heap.size, 0, none⟩ = some (.int .i64 11) := row_cell hg2 e0
  have f0 : Hid (WrS B w2 w2 cs) := ⟨hb2, KB.refl _ _⟩
  have HL : Hid (Lw lo B 120 2 (.slice a m c) rows w (.slice a1 rows.length c1) w2) := hl
  have HB2 : Hid (w2.heap[B]? = some (.cells cs 41 (0, 0))) := hb2
  clear hl hb2 hg2 s23 KD
  go_wp2_with fail
  go_end0
  have f1 := f0.out.set 23 (.slice a1 rows.length c1)
  exact HQ.out _ _ f1.row (HL.out.kb HB2.out (by decide) HLo.out f1.kb)
end Go.Proofs.YtcdhlklmnnmpoaaGreat
namespace Go.Proofs.YtcdhlklmnnmpoaaGreat
open Go.ChangeShapes Go.WideShapes Go.ChangeAt Go.RowKit
/-- A row with other cells from the sixth on. -/
def endU (r : Array Value) (vs : List Value) : Array Value := (r.toList.take 6 ++ vs).toArray
theorem endU_lo {r : Array Value} {vs : List Value} (hr : r.size = 12) {j : Nat} (hj : j < 6) : (endU r vs)[j]? = r[j]? := by
  unfold endU
  rw [List.getElem?_toArray, List.getElem?_append_left (by rw [List.length_take, Array.length_toList]; omega), List.getElem?_take_of_lt hj, Array.getElem?_toList]
theorem endU_hi {r : Array Value} {vs : List Value} (hr : r.size = 12) {j : Nat} : (endU r vs)[6 + j]? = vs[j]? := by
  unfold endU
  have : (r.toList.take 6).length = 6 := by rw [List.length_take, Array.length_toList]; omega
  rw [List.getElem?_toArray, List.getElem?_append_right (by omega), this, Nat.add_sub_cancel_left]
theorem endU_size {r : Array Value} {vs : List Value} (hr : r.size = 12) (hv : vs.length = 6) : (endU r vs).size = 12 := by
  simp [endU, hr, hv]
theorem own_upd {w : World} {lo UB m c j : Nat} {us : List (Array Value)} {r : Array Value} {vs : Array Value} (h : w.ownsRow lo 50 12 (.slice (some ⟨UB, 0, none⟩) m c) m (us.flatMap Array.toList)) (hl : us.length = m) (hus : ∀ (i : Nat) r, us[i]? = some r → r.size = 12) (hr : us[j]? = some r) (hv : vs.size = 6) :
    (w.setCells UB (j * 12 + 6) vs.toList).ownsRow lo 50 12 (.slice (some ⟨UB, 0, none⟩) m c) m ((us.set j (endU r vs.toList)).flatMap Array.toList) := by
  have hj : j < us.length := (List.getElem?_eq_some_iff.1 hr).1
  have hlies : ∀ (i : Nat) r, us[i]? = some r → Lies w UB (i * 12) r := fun i r hr k v hk => by
    have := h.cells (g := UB) rfl (i * 12 + k) v (flatS_put hus hr hk)
    rw [← this]
    congr 1
    simp [Addr.add]
  have hfr : ∀ o, w.frozen? ⟨UB, o, none⟩ = false := fun o => h.frozenAt o
  have hr12 := hus j r hr
  obtain ⟨_, ⟨h1, _⟩ | ⟨g, cap, cur, h1, hlo, hg, hle, hm, hsz, _⟩⟩ := h
  · cases h1
  · cases h1
    obtain ⟨cur', hr', hz'⟩ := setCells_row vs.toList (j * 12 + 6) w cur hg
    have th : w.there UB (j * 12 + 6) vs.size := fun k hk => ⟨by
      have := hlies j r hr (6 + k) _ (Array.getElem?_eq_getElem (by omega))
      rw [show j * 12 + 6 + k = j * 12 + (6 + k) by omega, this]; rfl, hfr _⟩
    refine owns_of_lies (cur := cur') (fun i r' hi => ?_) (by decide) (by simpa using hl) hr' hlo hle hm (by rw [hz', hsz]) fun i r' hi => ?_
    · rw [List.getElem?_set] at hi
      split at hi
      · cases hi
        exact endU_size hr12 (by simpa using hv)
      · exact hus i r' hi
    · rw [List.getElem?_set] at hi
      split at hi
      · rename_i hji
        subst hji
        cases hi
        intro k v hk
        by_cases h6 : k < 6
        · rw [endU_lo hr12 h6] at hk
          have h2 := hlies j r hr k v hk
          have h3 : Lies w UB (j * 12 + k) #[v] := fun q x hx => by
            cases q with
            | zero => simp at hx; rw [Nat.add_zero, h2, hx]
            | succ q => simp at hx
          have := lies_apart (r' := vs) h3 (.inl (by simp; omega) : j * 12 + k + (#[v] : Array Value).size ≤ j * 12 + 6 ∨ _) 0 v rfl
          simpa using this
        · obtain ⟨q, rfl⟩ : ∃ q, k = 6 + q := ⟨k - 6, by omega⟩
          rw [endU_hi hr12] at hk
          have := lies_set th q v (by simpa using hk)
          rw [← this]
          congr 2
          omega
      · rename_i hji
        have h2 := hlies i r' hi
        refine lies_apart (r' := vs) h2 ?_
        have := hus i r' hi
        omega
theorem six_eq (w : World) (UB p : Nat) (c0 c1 c2 c3 c4 c5 : Value) : (((((w.setCell ⟨UB, p + 6, none⟩ c0).setCell ⟨UB, p + 7, none⟩ c1).setCell ⟨UB, p + 7 + 1, none⟩ c2).setCell ⟨UB, p + 7 + 2, none⟩ c3).setCell ⟨UB, p + 7 + 3, none⟩ c4).setCell ⟨UB, p + 7 + 4, none⟩ c5 = w.setCells UB (p + 6) [c0, c1, c2, c3, c4, c5] := rfl
/-- What an outcome makes. -/
def OuP (lo B UB m c : Nat) (cs : Array Value) (rows : List (Array Value)) (w : World) (e : Ending) (w' : World) : Prop :=
  e = .returned (.tuple #[]) ∧ w'.heap[B]? = some (.cells cs 41 (0, 0)) ∧ w'.ownsRow lo 50 12 (.slice (some ⟨UB, 0, none⟩) m c) m (rows.flatMap Array.toList) ∧ Below lo w w' ∧ ∀ B', B' < w.heap.size → B' ≠ UB → w'.heap[B']? = w.heap[B']?
set_option maxHeartbeats 4000000 in
set_option maxRecDepth 100000 in
theorem updates12 (lo B : Nat) (cs es : Array Value) (l : List Up) (us : List (Array Value)) (a : Option Addr) (c : Nat) (q : ByteArray) (k0 x0 b0 : Int) (s0 : ByteArray) (a0 : Option Addr) (m0 n0 : Nat) (w : World) (hg : w.heap[B]? = some (.cells cs 41 (0, 0))) (c24 : cs[24]? = some (.slice a l.length c)) (hO : w.ownsRow lo 50 12 (.slice a l.length c) l.length (us.flatMap Array.toList)) (hul : us.length = l.length) (hus : ∀ (i : Nat) r, us[i]? = some r → r.size = 12 ∧ ∀ (j : Nat) (v : Value), r[j]? = some v → v.oneCell' = true) (huh : ∀ (i : Nat) r u, us[i]? = some r → l[i]? = some u → Uh r u) (hn : l.length ≤ 500) (hlo : lo ≤ B)
    (e0 : es[0]? = some (.int .i64 12)) (e4 : es[4]? = some (.string q)) (e5 : es[5]? = some (.int .i64 k0)) (e6 : es[6]? = some (.int .i64 x0)) (e7 : es[7]? = some (.int .u64 b0)) (e8 : es[8]? = some (.string s0)) (e9 : es[9]? = some (.slice a0 m0 n0)) :
    Calls Tryz.prog 85 #[.pointer (some ⟨B, 0, none⟩), .agg es] w (LsP lo B cs 24 50 12 (.slice a l.length c) (us.take (insI (fun x => gtS x.s q) l) ++ #[.string q, .int .i64 k0, .int .i64 x0, .int .u64 b0, .string s0, .slice a0 m0 n0, .int .i64 1, .int .i64 0, .int .i64 0, .int .u64 0, .string ⟨#[]⟩, .slice none 0 0] :: us.drop (insI (fun x => gtS x.s q) l)) [] w) := by
  have hBl : B < w.heap.size := (Array.getElem?_eq_some_iff.1 hg).1
  have hlw : lo ≤ w.heap.size := by omega
  have hne : (Value.slice a l.length c).ownBlock ≠ some B := box_ne hO (by decide) hg
  have hub : ∀ B', (Value.slice a l.length c).ownBlock = some B' → B' < w.heap.size := fun B' h => (hO.lt B' h).2
  have hO2 : (w.alloc (.cells es 54)).drew.ownsRow lo 50 12 (.slice a l.length c) l.length (us.flatMap Array.toList) := owns_blk hO (Nat.le_refl _) fun B' h => (bel1 w (.cells es 54)).block B' (hub B' h)
  have hc4 : (w.alloc (.cells es 54)).drew.cell? ⟨w.heap.size, 4, none⟩ = some (.string q) := row_cell (heap_alloc_last w _) e4
  have hx1 : ∀ (j : Nat) (v : Value), (#[.string q, .int .i64 k0, .int .i64 x0, .int .u64 b0, .string s0, .slice a0 m0 n0, .int .i64 1, .int .i64 0, .int .i64 0, .int .u64 0, .string ⟨#[]⟩, .slice none 0 0] : Array Value)[j]? = some v → v.oneCell' = true := fun j v hv => by
    have hm := Array.mem_of_getElem? hv
    simp only [List.mem_toArray, List.mem_cons, List.not_mem_nil, or_false] at hm
    rcases hm with rfl | rfl | rfl | rfl | rfl | rfl | rfl | rfl | rfl | rfl | rfl | rfl <;> rfl
  have key := addU_calls lo l us (.slice a l.length c) #[.string q, .int .i64 k0, .int .i64 x0, .int .u64 b0, .string s0, .slice a0 m0 n0, .int .i64 1, .int .i64 0, .int .i64 0, .int .u64 0, .string ⟨#[]⟩, .slice none 0 0] q w.heap.size (w.alloc (.cells es 54)).drew hO2 hul hus huh rfl hx1 hn hc4 (Nat.le_trans hlw (bel1 w (.cells es 54)).size)
  have HQ : Hid (∀ v W, W.heap[B]? = some (.cells (cs.setIfInBounds 24 v) 41 (0, 0)) → Lw lo B 50 12 (.slice a l.length c) (us.take (insI (fun x => gtS x.s q) l) ++ #[.string q, .int .i64 k0, .int .i64 x0, .int .u64 b0, .string s0, .slice a0 m0 n0, .int .i64 1, .int .i64 0, .int .i64 0, .int .u64 0, .string ⟨#[]⟩, .slice none 0 0] :: us.drop (insI (fun x => gtS x.s q) l)) w v W → LsP lo B cs 24 50 12 (.slice a l.length c) (us.take (insI (fun x => gtS x.s q) l) ++ #[.string q, .int .i64 k0, .int .i64 x0, .int .u64 b0, .string s0, .slice a0 m0 n0, .int .i64 1, .int .i64 0, .int .i64 0, .int .u64 0, .string ⟨#[]⟩, .slice none 0 0] :: us.drop (insI (fun x => gtS x.s q) l)) [] w (.returned (.tuple #[])) W) := fun v W h1 h2 => ⟨rfl, v, h1, h2⟩
  generalize LsP lo B cs 24 50 12 (.slice a l.length c) (us.take (insI (fun x => gtS x.s q) l) ++ #[.string q, .int .i64 k0, .int .i64 x0, .int .u64 b0, .string s0, .slice a0 m0 n0, .int .i64 1, .int .i64 0, .int .i64 0, .int .u64 0, .string ⟨#[]⟩, .slice none 0 0] :: us.drop (insI (fun x => gtS x.s q) l)) [] w = Q at HQ ⊢
  generalize us.take (insI (fun x => gtS x.s q) l) ++ #[.string q, .int .i64 k0, .int .i64 x0, .int .u64 b0, .string s0, .slice a0 m0 n0, .int .i64 1, .int .i64 0, .int .i64 0, .int .u64 0, .string ⟨#[]⟩, .slice none 0 0] :: us.drop (insI (fun x => gtS x.s q) l) = rows at key HQ
  have KA : Hid (Calls Tryz.prog 102 #[.slice a l.length c, .agg #[.string q, .int .i64 k0, .int .i64 x0, .int .u64 b0, .string s0, .slice a0 m0 n0, .int .i64 1, .int .i64 0, .int .i64 0, .int .u64 0, .string ⟨#[]⟩, .slice none 0 0], .func (.func 103) #[] #[.pointer (some ⟨w.heap.size, 0, none⟩)]] (w.alloc (.cells es 54)).drew (fun e w1 => ∃ v, e = .returned v ∧ Lw lo B 50 12 (.slice a l.length c) rows w v w1 ∧ w1.heap[B]? = some (.cells cs 41 (0, 0)) ∧ w1.heap[w.heap.size]? = some (.cells es 54 (0, 0)))) :=
    key.mono fun e w1 ⟨v, h0, h1, h2, h3, h4⟩ => ⟨v, h0, ad_lw hub hne hg hlw h1 h2 h3 h4⟩
  have HNe : Hid (B < w.heap.size) := hBl
  have HLo : Hid (lo ≤ B) := hlo
  have HG0 : Hid ((w.alloc (.cells es 54)).heap[w.heap.size]? = some (.cells es 54 (0, 0))) := heap_alloc_last w _
  have x24 : (w.alloc (.cells es 54)).cell? ⟨B, 24, none⟩ = some (.slice a l.length c) := row_cell (row_below (bel1 _ _) hg) c24
  clear hO hn hlw hne hub hO2 hc4 key hg hlo hBl hul hus huh hx1
  generalize l.length = m at KA HQ c24 x24 ⊢
  clear l us
  go_enter Tryz.func85, Tryz.ntmps85
  go_wp2_with fail
  generalize w.alloc (.cells es 54) = W0 at KA x24 HG0 ⊢
  refine wp_region_held_drew (S := (fun w' => w'.cell? ⟨w.heap.size, 4, none⟩ = some (.string q) ∧ w'.cell? ⟨w.heap.size, 5, none⟩ = some (.int .i64 k0) ∧ w'.cell? ⟨w.heap.size, 6, none⟩ = some (.int .i64 x0) ∧ w'.cell? ⟨w.heap.size, 7, none⟩ = some (.int .u64 b0) ∧ w'.cell? ⟨w.heap.size, 8, none⟩ = some (.string s0) ∧ w'.cell? ⟨w.heap.size, 9, none⟩ = some (.slice a0 m0 n0))) (by kernel_rfl) ⟨row_cell HG0.out e4, row_cell HG0.out e5, row_cell HG0.out e6, row_cell HG0.out e7, row_cell HG0.out e8, row_cell HG0.out e9⟩ (fun hHeld => ?_)
  change wpAnyH _ _ _ _ _ _ _ _ (World.drew _)
  refine wpAnyH_take (i := 0) (oi := { dst := some 8, op := Go.Op.move (Go.Operand.tmp 0), type := 113, pos := "step.go:148", after := #[], guard := none }) (v := ?_) rfl (by kernel_rfl) (by kernel_rfl) (by kernel_rfl) (fun _ _ _ h => h) (Or.inl ⟨by rfl, ?_⟩) hHeld ?_
  rotate_left 1
  · (intro w hSw; (try dsimp only at hSw); go_simp <;> with_reducible rfl)
  simp only [Act.put, List.setIfInBounds_toArray, List.set_cons_zero, List.set_cons_succ]
  refine wpAnyH_take (i := 1) (oi := { dst := some 9, op := Go.Op.move (Go.Operand.tmp 0), type := 113, pos := "step.go:148", after := #[], guard := none }) (v := ?_) rfl (by kernel_rfl) (by kernel_rfl) (by kernel_rfl) (fun _ _ _ h => h) (Or.inl ⟨by rfl, ?_⟩) hHeld ?_
  rotate_left 1
  · (intro w hSw; (try dsimp only at hSw); go_simp <;> with_reducible rfl)
  simp only [Act.put, List.setIfInBounds_toArray, List.set_cons_zero, List.set_cons_succ]
  refine wpAnyH_take (i := 2) (oi := { dst := some 10, op := Go.Op.nilCheck (Go.Operand.tmp 9), type := 0, pos := "step.go:148", after := #[{ on := 1, ground := Go.Ground.data }], guard := none }) (v := ?_) rfl (by kernel_rfl) (by kernel_rfl) (by kernel_rfl) (fun _ _ _ h => h) (Or.inl ⟨by rfl, ?_⟩) hHeld ?_
  rotate_left 1
  · (intro w hSw; (try dsimp only at hSw); go_simp <;> with_reducible rfl)
  simp only [Act.put, List.setIfInBounds_toArray, List.set_cons_zero, List.set_cons_succ]
  refine wpAnyH_take (i := 3) (oi := { dst := some 11, op := Go.Op.fieldAddr 41 (Go.Operand.tmp 10) 14, type := 0, pos := "step.go:148", after := #[{ on := 2, ground := Go.Ground.data }], guard := none }) (v := ?_) rfl (by kernel_rfl) (by kernel_rfl) (by kernel_rfl) (fun _ _ _ h => h) (Or.inl ⟨by rfl, ?_⟩) hHeld ?_
  rotate_left 1
  · (intro w hSw; (try dsimp only at hSw); go_simp <;> with_reducible rfl)
  simp only [Act.put, List.setIfInBounds_toArray, List.set_cons_zero, List.set_cons_succ]
  refine wpAnyH_take (i := 5) (oi := { dst := some 13, op := Go.Op.fieldAddr 54 (Go.Operand.tmp 3) 4, type := 0, pos := "step.go:148", after := #[], guard := none }) (v := ?_) rfl (by kernel_rfl) (by kernel_rfl) (by kernel_rfl) (fun _ _ _ h => h) (Or.inl ⟨by rfl, ?_⟩) hHeld ?_
  rotate_left 1
  · (intro w hSw; (try dsimp only at hSw); go_simp <;> with_reducible rfl)
  simp only [Act.put, List.setIfInBounds_toArray, List.set_cons_zero, List.set_cons_succ]
  refine wpAnyH_take (i := 6) (oi := { dst := some 14, op := Go.Op.load 9 (Go.Operand.tmp 13), type := 9, pos := "step.go:148", after := #[{ on := 5, ground := Go.Ground.data }], guard := none }) (v := ?_) rfl (by kernel_rfl) (by kernel_rfl) (by kernel_rfl) (fun _ _ _ h => h) (Or.inl ⟨by rfl, ?_⟩) hHeld ?_
  rotate_left 1
  · (intro w hSw; (try dsimp only at hSw); go_simp <;> with_reducible rfl)
  simp only [Act.put, List.setIfInBounds_toArray, List.set_cons_zero, List.set_cons_succ]
  refine wpAnyH_take (i := 7) (oi := { dst := some 15, op := Go.Op.fieldAddr 54 (Go.Operand.tmp 3) 5, type := 0, pos := "step.go:148", after := #[], guard := none }) (v := ?_) rfl (by kernel_rfl) (by kernel_rfl) (by kernel_rfl) (fun _ _ _ h => h) (Or.inl ⟨by rfl, ?_⟩) hHeld ?_
  rotate_left 1
  · (intro w hSw; (try dsimp only at hSw); go_simp <;> with_reducible rfl)
  simp only [Act.put, List.setIfInBounds_toArray, List.set_cons_zero, List.set_cons_succ]
  refine wpAnyH_take (i := 8) (oi := { dst := some 16, op := Go.Op.load 25 (Go.Operand.tmp 15), type := 25, pos := "step.go:148", after := #[{ on := 7, ground := Go.Ground.data }], guard := none }) (v := ?_) rfl (by kernel_rfl) (by kernel_rfl) (by kernel_rfl) (fun _ _ _ h => h) (Or.inl ⟨by rfl, ?_⟩) hHeld ?_
  rotate_left 1
  · (intro w hSw; (try dsimp only at hSw); go_simp <;> with_reducible rfl)
  simp only [Act.put, List.setIfInBounds_toArray, List.set_cons_zero, List.set_cons_succ]
  refine wpAnyH_take (i := 9) (oi := { dst := some 17, op := Go.Op.build 50 #[(0, Go.Operand.tmp 14), (1, Go.Operand.tmp 16), (2, Go.Operand.const (Go.Value.int Go.IntKind.i64 1))], type := 50, pos := "step.go:148", after := #[{ on := 6, ground := Go.Ground.data }, { on := 8, ground := Go.Ground.data }], guard := none }) (v := ?_) rfl (by kernel_rfl) (by kernel_rfl) (by kernel_rfl) (fun _ _ _ h => h) (Or.inl ⟨by rfl, ?_⟩) hHeld ?_
  rotate_left 1
  · (intro w hSw; (try dsimp only at hSw); go_simp <;> with_reducible rfl)
  simp only [Act.put, List.setIfInBounds_toArray, List.set_cons_zero, List.set_cons_succ]
  refine wpAnyH_take (i := 10) (oi := { dst := some 18, op := Go.Op.makeFunc (Go.Fn.func 103) #[] #[Go.Operand.tmp 3], type := 134, pos := "step.go:148", after := #[], guard := none }) (v := ?_) rfl (by kernel_rfl) (by kernel_rfl) (by kernel_rfl) (fun _ _ _ h => h) (Or.inl ⟨by rfl, ?_⟩) hHeld ?_
  rotate_left 1
  · (intro w hSw; (try dsimp only at hSw); go_simp <;> with_reducible rfl)
  simp only [Act.put, List.setIfInBounds_toArray, List.set_cons_zero, List.set_cons_succ]
  refine wpAnyH_ready (rs := [4]) (by kernel_rfl) (by simp) ?_
  refine AllReadyH.cons (o := { dst := some 12, op := Go.Op.load 39 (Go.Operand.tmp 11), type := 39, pos := "step.go:148", after := #[{ on := 3, ground := Go.Ground.data }], guard := none }) rfl (fun K hK => ?_) AllReadyH.nil
  go_simp
  refine hK.out _ _ hHeld (fun hHeld => ?_)
  clear hK K
  refine wpAnyH_ready (rs := [11]) (by kernel_rfl) (by simp) ?_
  refine AllReadyH.cons (o := { dst := some 19, op := Go.Op.call { callee := Go.Callee.value (Go.Operand.func 102), args := #[Go.Operand.tmp 12, Go.Operand.tmp 17, Go.Operand.tmp 18], argTypes := #[39, 50, 134] }, type := 39, pos := "step.go:148", after := #[{ on := 4, ground := Go.Ground.data }, { on := 9, ground := Go.Ground.data }, { on := 10, ground := Go.Ground.data }], guard := none }) rfl (fun K hK => ?_) AllReadyH.nil
  go_simp
  refine KA.out.mono ?_
  rintro e w1 ⟨v, rfl, hl, hb1, hg1⟩
  obtain ⟨a1, c1, rfl⟩ := owns_shape hl.own
  have HL : Hid (Lw lo B 50 12 (.slice a m c) rows w (.slice a1 rows.length c1) w1) := hl
  have HB1 : Hid (w1.heap[B]? = some (.cells cs 41 (0, 0))) := hb1
  have s24 : w1.cell? ⟨B, 24, none⟩ = some (.slice a m c) := row_cell hb1 c24
  have sf : w1.frozen? ⟨B, 24, none⟩ = false := frozen_of_row w1 B 24 _ 41 hb1
  have HG1 : Hid (w1.heap[w.heap.size]? = some (.cells es 54 (0, 0))) := hg1
  clear hl hb1 hg1
  refine hK.out _ _ ⟨row_cell HG1.out e4, row_cell HG1.out e5, row_cell HG1.out e6, row_cell HG1.out e7, row_cell HG1.out e8, row_cell HG1.out e9⟩ (fun hHeld => ?_)
  clear hK K
  refine wpAnyH_take (i := 12) (oi := { dst := some 20, op := Go.Op.nilCheck (Go.Operand.tmp 8), type := 0, pos := "step.go:148", after := #[{ on := 0, ground := Go.Ground.data }, { on := 0, ground := Go.Ground.phase }, { on := 1, ground := Go.Ground.phase }, { on := 2, ground := Go.Ground.phase }, { on := 3, ground := Go.Ground.phase }, { on := 4, ground := Go.Ground.phase }, { on := 5, ground := Go.Ground.phase }, { on := 6, ground := Go.Ground.phase }, { on := 7, ground := Go.Ground.phase }, { on := 8, ground := Go.Ground.phase }, { on := 9, ground := Go.Ground.phase }, { on := 10, ground := Go.Ground.phase }, { on := 11, ground := Go.Ground.phase }], guard := none }) (v := ?_) rfl (by kernel_rfl) (by kernel_rfl) (by kernel_rfl) (fun _ _ _ h => h) (Or.inl ⟨by rfl, ?_⟩) hHeld ?_
  rotate_left 1
  · (intro w hSw; (try dsimp only at hSw); go_simp <;> with_reducible rfl)
  simp only [Act.put, List.setIfInBounds_toArray, List.set_cons_zero, List.set_cons_succ]
  refine wpAnyH_take (i := 13) (oi := { dst := some 21, op := Go.Op.fieldAddr 41 (Go.Operand.tmp 20) 14, type := 0, pos := "step.go:148", after := #[{ on := 12, ground := Go.Ground.data }, { on := 0, ground := Go.Ground.phase }, { on := 1, ground := Go.Ground.phase }, { on := 2, ground := Go.Ground.phase }, { on := 3, ground := Go.Ground.phase }, { on := 4, ground := Go.Ground.phase }, { on := 5, ground := Go.Ground.phase }, { on := 6, ground := Go.Ground.phase }, { on := 7, ground := Go.Ground.phase }, { on := 8, ground := Go.Ground.phase }, { on := 9, ground := Go.Ground.phase }, { on := 10, ground := Go.Ground.phase }, { on := 11, ground := Go.Ground.phase }], guard := none }) (v := ?_) rfl (by kernel_rfl) (by kernel_rfl) (by kernel_rfl) (fun _ _ _ h => h) (Or.inl ⟨by rfl, ?_⟩) hHeld ?_
  rotate_left 1
  · (intro w hSw; (try dsimp only at hSw); go_simp <;> with_reducible rfl)
  simp only [Act.put, List.setIfInBounds_toArray, List.set_cons_zero, List.set_cons_succ]
  refine wpAnyH_ready (rs := [14]) (by kernel_rfl) (by simp) ?_
  refine AllReadyH.cons (o := { dst := none, op := Go.Op.store 39 (Go.Operand.tmp 21) (Go.Operand.tmp 19), type := 0, pos := "step.go:148", after := #[{ on := 13, ground := Go.Ground.data }, { on := 11, ground := Go.Ground.data }, { on := 11, ground := Go.Ground.chain }, { on := 0, ground := Go.Ground.phase }, { on := 1, ground := Go.Ground.phase }, { on := 2, ground := Go.Ground.phase }, { on := 3, ground := Go.Ground.phase }, { on := 4, ground := Go.Ground.phase }, { on := 5, ground := Go.Ground.phase }, { on := 6, ground := Go.Ground.phase }, { on := 7, ground := Go.Ground.phase }, { on := 8, ground := Go.Ground.phase }, { on := 9, ground := Go.Ground.phase }, { on := 10, ground := Go.Ground.phase }, { on := 11, ground := Go.Ground.phase }], guard := none }) rfl (fun K hK => ?_) AllReadyH.nil
  have k1 := KB.setCell B w1 24 (.slice a1 rows.length c1)
  have hx := row_kb HG1.out k1 (by have := HNe.out; omega)
  have hy := heap_setCell_same w1 B 24 cs 41 (.slice a1 rows.length c1) HB1.out
  have HX : Hid ((w1.setCell ⟨B, 24, none⟩ (.slice a1 rows.length c1)).heap[w.heap.size]? = some (.cells es 54 (0, 0))) := hx
  have HY : Hid ((w1.setCell ⟨B, 24, none⟩ (.slice a1 rows.length c1)).heap[B]? = some (.cells (cs.setIfInBounds 24 (.slice a1 rows.length c1)) 41 (0, 0))) := hy
  have HLk : Hid (Lw lo B 50 12 (.slice a m c) rows w (.slice a1 rows.length c1) (w1.setCell ⟨B, 24, none⟩ (.slice a1 rows.length c1))) := HL.out.kb HB1.out (by decide) HLo.out k1
  clear k1 hx hy
  go_simp
  refine hK.out _ _ ⟨row_cell HX.out e4, row_cell HX.out e5, row_cell HX.out e6, row_cell HX.out e7, row_cell HX.out e8, row_cell HX.out e9⟩ (fun hHeld => ?_)
  clear hK K
  refine wpAnyH_done (by kernel_rfl) ?_ _
  go_wp2_with fail
  go_end0
  exact HQ.out _ _ HY.out HLk.out
set_option maxHeartbeats 4000000 in
set_option maxRecDepth 100000 in
theorem updates13 (lo B UB m c : Nat) (cs es : Array Value) (us : List (Array Value)) (q : ByteArray) (j : Nat) (r : Array Value) (g1 k1 x1 b1 : Int) (s1 : ByteArray) (a1 : Option Addr) (m1 n1 : Nat) (k0 x0 b0 : Int) (s0 : ByteArray) (a0 : Option Addr) (m0 n0 : Nat) (w : World) (hg : w.heap[B]? = some (.cells cs 41 (0, 0))) (hs : cs.size = 31) (c24 : cs[24]? = some (.slice (some ⟨UB, 0, none⟩) m c)) (hO : w.ownsRow lo 50 12 (.slice (some ⟨UB, 0, none⟩) m c) m (us.flatMap Array.toList)) (hul : us.length = m) (hus : ∀ (i : Nat) r, us[i]? = some r → r.size = 12) (_hn : m ≤ 500) (hlo : lo ≤ B) (hr : us[j]? = some r)
    (r6 : r[6]? = some (.int .i64 g1)) (r7 : r[7]? = some (.int .i64 k1)) (r8 : r[8]? = some (.int .i64 x1)) (r9 : r[9]? = some (.int .u64 b1)) (r10 : r[10]? = some (.string s1)) (r11 : r[11]? = some (.slice a1 m1 n1))
    (KW : Hid (∀ W, Below w.heap.size w W → Calls Tryz.prog 97 #[.agg cs, .string q] W (IxP (j : Int) W))) (e0 : es[0]? = some (.int .i64 13)) (e4 : es[4]? = some (.string q)) (e5 : es[5]? = some (.int .i64 k0)) (e6 : es[6]? = some (.int .i64 x0)) (e7 : es[7]? = some (.int .u64 b0)) (e8 : es[8]? = some (.string s0)) (e9 : es[9]? = some (.slice a0 m0 n0)) :
    Calls Tryz.prog 85 #[.pointer (some ⟨B, 0, none⟩), .agg es] w (OuP lo B UB m c cs (us.set j (endU r [.int .i64 2, .int .i64 k0, .int .i64 x0, .int .u64 b0, .string s0, .slice a0 m0 n0])) w) := by
  have hBl : B < w.heap.size := (Array.getElem?_eq_some_iff.1 hg).1
  have hlU : lo ≤ UB ∧ UB < w.heap.size := hO.lt UB rfl
  have hne : UB ≠ B := fun e => box_ne hO (by decide) hg (by rw [← e]; rfl)
  have hj : j < m := by have := (List.getElem?_eq_some_iff.1 hr).1; omega
  have hlies : ∀ k v, r[k]? = some v → w.cell? ⟨UB, j * 12 + k, none⟩ = some v := fun k v hk => by
    have := hO.cells (g := UB) rfl (j * 12 + k) v (flatS_put hus hr hk)
    rw [← this]
    congr 1
    simp [Addr.add]
  have KF : Hid (∀ w1, Below w.heap.size w w1 → OuP lo B UB m c cs (us.set j (endU r [.int .i64 2, .int .i64 k0, .int .i64 x0, .int .u64 b0, .string s0, .slice a0 m0 n0])) w (.returned (.tuple #[])) (w1.setCells UB (j * 12 + 6) [.int .i64 2, .int .i64 k0, .int .i64 x0, .int .u64 b0, .string s0, .slice a0 m0 n0]).drew) := fun w1 hb => by
    have hO1 : w1.ownsRow lo 50 12 (.slice (some ⟨UB, 0, none⟩) m c) m (us.flatMap Array.toList) := owns_blk hO (Nat.le_refl _) fun B' h => hb.block B' (hO.lt B' h).2
    have kb := setCells_kb UB [.int .i64 2, .int .i64 k0, .int .i64 x0, .int .u64 b0, .string s0, .slice a0 m0 n0] (j * 12 + 6) w1
    have hsz := hb.size
    have h1 := row_kb (row_below hb hg) kb (Ne.symm hne)
    have h2 := own_upd (vs := #[.int .i64 2, .int .i64 k0, .int .i64 x0, .int .u64 b0, .string s0, .slice a0 m0 n0]) hO1 hul hus hr rfl
    have h3 := (hb.mono (show lo ≤ w.heap.size by omega)).trans (kb.below hlU.1 (show lo ≤ w1.heap.size by omega))
    have h4 : ∀ B', B' < w.heap.size → B' ≠ UB → (w1.setCells UB (j * 12 + 6) [.int .i64 2, .int .i64 k0, .int .i64 x0, .int .u64 b0, .string s0, .slice a0 m0 n0]).heap[B']? = w.heap[B']? := fun B' h1 h2 => (ne_blk kb (by omega) h2).trans (hb.block B' h1)
    generalize w1.setCells UB (j * 12 + 6) [.int .i64 2, .int .i64 k0, .int .i64 x0, .int .u64 b0, .string s0, .slice a0 m0 n0] = W9 at h1 h2 h3 h4 ⊢
    exact ⟨rfl, h1, owns_blk (w' := W9.drew) h2 (Nat.le_refl _) (fun _ _ => rfl), h3.drew, h4⟩
  generalize OuP lo B UB m c cs (us.set j (endU r [.int .i64 2, .int .i64 k0, .int .i64 x0, .int .u64 b0, .string s0, .slice a0 m0 n0])) w = Q at KF ⊢
  have hi33 := info33l cs hs
  have HB0 : Hid ((w.alloc (.cells es 54)).heap[B]? = some (.cells cs 41 (0, 0))) := row_below (bel1 _ _) hg
  have HG0 : Hid ((w.alloc (.cells es 54)).heap[w.heap.size]? = some (.cells es 54 (0, 0))) := heap_alloc_last w _
  have HBw : Hid (Below w.heap.size w (w.alloc (.cells es 54))) := bel1 _ _
  have HGU : Hid (w.heap.size ≠ UB) := (by omega : w.heap.size ≠ UB)
  have HUl : Hid (UB < w.heap.size) := hlU.2
  have HL : Hid (∀ k v, r[k]? = some v → w.cell? ⟨UB, j * 12 + k, none⟩ = some v) := hlies
  have HF : Hid (∀ o, w.frozen? ⟨UB, o, none⟩ = false) := fun o => hO.frozenAt o
  have hjl : (j : Int) < (m : Int) := by omega
  have hjl2 : j < m := hj
  clear hO hlU hne hlies hg hlo hs hBl hj hul hus hr
  clear us
  go_enter Tryz.func85, Tryz.ntmps85
  go_wp2_with fail
  generalize w.alloc (.cells es 54) = W0 at HB0 HG0 HBw ⊢
  refine wp_region_held_drew (S := (fun w' => w'.cell? ⟨w.heap.size, 4, none⟩ = some (.string q) ∧ w'.cell? ⟨B, 24, none⟩ = some (.slice (some ⟨UB, 0, none⟩) m c) ∧ w'.rangeAt B 0 cs.toList)) (by kernel_rfl) ⟨row_cell HG0.out e4, row_cell HB0.out c24, row_range HB0.out⟩ (fun hHeld => ?_)
  change wpAnyH _ _ _ _ _ _ _ _ (World.drew _)
  refine wpAnyH_take (i := 0) (oi := { dst := some 22, op := Go.Op.move (Go.Operand.tmp 0), type := 113, pos := "step.go:151", after := #[], guard := none }) (v := ?_) rfl (by kernel_rfl) (by kernel_rfl) (by kernel_rfl) (fun _ _ _ h => h) (Or.inl ⟨by rfl, ?_⟩) hHeld ?_
  rotate_left 1
  · (intro w hSw; (try dsimp only at hSw); go_simp <;> with_reducible rfl)
  simp only [Act.put, List.setIfInBounds_toArray, List.set_cons_zero, List.set_cons_succ]
  refine wpAnyH_take (i := 1) (oi := { dst := some 23, op := Go.Op.nilCheck (Go.Operand.tmp 22), type := 0, pos := "step.go:151", after := #[{ on := 0, ground := Go.Ground.data }], guard := none }) (v := ?_) rfl (by kernel_rfl) (by kernel_rfl) (by kernel_rfl) (fun _ _ _ h => h) (Or.inl ⟨by rfl, ?_⟩) hHeld ?_
  rotate_left 1
  · (intro w hSw; (try dsimp only at hSw); go_simp <;> with_reducible rfl)
  simp only [Act.put, List.setIfInBounds_toArray, List.set_cons_zero, List.set_cons_succ]
  refine wpAnyH_take (i := 2) (oi := { dst := some 24, op := Go.Op.fieldAddr 41 (Go.Operand.tmp 23) 14, type := 0, pos := "step.go:151", after := #[{ on := 1, ground := Go.Ground.data }], guard := none }) (v := ?_) rfl (by kernel_rfl) (by kernel_rfl) (by kernel_rfl) (fun _ _ _ h => h) (Or.inl ⟨by rfl, ?_⟩) hHeld ?_
  rotate_left 1
  · (intro w hSw; (try dsimp only at hSw); go_simp <;> with_reducible rfl)
  simp only [Act.put, List.setIfInBounds_toArray, List.set_cons_zero, List.set_cons_succ]
  refine wpAnyH_take (i := 3) (oi := { dst := some 25, op := Go.Op.load 39 (Go.Operand.tmp 24), type := 39, pos := "step.go:151", after := #[{ on := 2, ground := Go.Ground.data }], guard := none }) (v := ?_) rfl (by kernel_rfl) (by kernel_rfl) (by kernel_rfl) (fun _ _ _ h => h) (Or.inl ⟨by rfl, ?_⟩) hHeld ?_
  rotate_left 1
  · (intro w hSw; (try dsimp only at hSw); go_simp <;> with_reducible rfl)
  simp only [Act.put, List.setIfInBounds_toArray, List.set_cons_zero, List.set_cons_succ]
  refine wpAnyH_take (i := 4) (oi := { dst := some 26, op := Go.Op.move (Go.Operand.tmp 0), type := 113, pos := "step.go:151", after := #[], guard := none }) (v := ?_) rfl (by kernel_rfl) (by kernel_rfl) (by kernel_rfl) (fun _ _ _ h => h) (Or.inl ⟨by rfl, ?_⟩) hHeld ?_
  rotate_left 1
  · (intro w hSw; (try dsimp only at hSw); go_simp <;> with_reducible rfl)
  simp only [Act.put, List.setIfInBounds_toArray, List.set_cons_zero, List.set_cons_succ]
  refine wpAnyH_take (i := 5) (oi := { dst := some 27, op := Go.Op.nilCheck (Go.Operand.tmp 26), type := 0, pos := "step.go:151", after := #[{ on := 4, ground := Go.Ground.data }], guard := none }) (v := ?_) rfl (by kernel_rfl) (by kernel_rfl) (by kernel_rfl) (fun _ _ _ h => h) (Or.inl ⟨by rfl, ?_⟩) hHeld ?_
  rotate_left 1
  · (intro w hSw; (try dsimp only at hSw); go_simp <;> with_reducible rfl)
  simp only [Act.put, List.setIfInBounds_toArray, List.set_cons_zero, List.set_cons_succ]
  refine wpAnyH_take (i := 6) (oi := { dst := some 28, op := Go.Op.load 41 (Go.Operand.tmp 27), type := 41, pos := "step.go:151", after := #[{ on := 5, ground := Go.Ground.data }], guard := none }) (v := _) rfl (by kernel_rfl) (by kernel_rfl) (by kernel_rfl) (fun _ _ _ h => h) (yieldsIf_load_mid rfl 41 _ rfl B 0 rfl cs.toList _ (fun w h => h.2.2) Tryz.underlying41 rfl hi33) hHeld ?_
  simp only [Act.put, List.setIfInBounds_toArray, List.set_cons_zero, List.set_cons_succ]
  refine wpAnyH_take (i := 7) (oi := { dst := some 29, op := Go.Op.fieldAddr 54 (Go.Operand.tmp 3) 4, type := 0, pos := "step.go:151", after := #[], guard := none }) (v := ?_) rfl (by kernel_rfl) (by kernel_rfl) (by kernel_rfl) (fun _ _ _ h => h) (Or.inl ⟨by rfl, ?_⟩) hHeld ?_
  rotate_left 1
  · (intro w hSw; (try dsimp only at hSw); go_simp <;> with_reducible rfl)
  simp only [Act.put, List.setIfInBounds_toArray, List.set_cons_zero, List.set_cons_succ]
  refine wpAnyH_take (i := 8) (oi := { dst := some 30, op := Go.Op.load 9 (Go.Operand.tmp 29), type := 9, pos := "step.go:151", after := #[{ on := 7, ground := Go.Ground.data }], guard := none }) (v := ?_) rfl (by kernel_rfl) (by kernel_rfl) (by kernel_rfl) (fun _ _ _ h => h) (Or.inl ⟨by rfl, ?_⟩) hHeld ?_
  rotate_left 1
  · (intro w hSw; (try dsimp only at hSw); go_simp <;> with_reducible rfl)
  simp only [Act.put, List.setIfInBounds_toArray, List.set_cons_zero, List.set_cons_succ]
  refine wpAnyH_ready (rs := [9]) (by kernel_rfl) (by simp) ?_
  refine AllReadyH.cons (o := { dst := some 31, op := Go.Op.call { callee := Go.Callee.value (Go.Operand.func 97), args := #[Go.Operand.tmp 28, Go.Operand.tmp 30], argTypes := #[41, 9] }, type := 3, pos := "step.go:151", after := #[{ on := 6, ground := Go.Ground.data }, { on := 8, ground := Go.Ground.data }], guard := none }) rfl (fun K hK => ?_) AllReadyH.nil
  go_simp
  refine (KW.out _ HBw.out.drew).mono ?_
  rintro e w1 ⟨rfl, hb⟩
  have HB1 : Hid (w1.heap[B]? = some (.cells cs 41 (0, 0))) := row_below hb HB0.out
  have HG1 : Hid (w1.heap[w.heap.size]? = some (.cells es 54 (0, 0))) := row_below hb HG0.out
  have HBw1 : Hid (Below w.heap.size w w1) := bel2 HBw.out.drew hb
  clear hb
  refine hK.out _ _ ⟨row_cell HG1.out e4, row_cell HB1.out c24, row_range HB1.out⟩ (fun hHeld => ?_)
  clear hK K
  refine wpAnyH_take (i := 10) (oi := { dst := some 32, op := Go.Op.indexAddr 39 (Go.Operand.tmp 25) (Go.Operand.tmp 31), type := 0, pos := "step.go:151", after := #[{ on := 3, ground := Go.Ground.data }, { on := 9, ground := Go.Ground.data }], guard := none }) (v := ?_) rfl (by kernel_rfl) (by kernel_rfl) (by kernel_rfl) (fun _ _ _ h => h) (Or.inl ⟨by rfl, ?_⟩) hHeld ?_
  rotate_left 1
  · (intro w hSw; (try dsimp only at hSw); go_simp <;> with_reducible rfl)
  simp only [Act.put, List.setIfInBounds_toArray, List.set_cons_zero, List.set_cons_succ]
  refine wpAnyH_take (i := 11) (oi := { dst := some 4, op := Go.Op.assign (Go.Operand.tmp 32), type := 135, pos := "step.go:151", after := #[{ on := 10, ground := Go.Ground.data }, { on := 9, ground := Go.Ground.chain }, { on := 0, ground := Go.Ground.phase }, { on := 1, ground := Go.Ground.phase }, { on := 2, ground := Go.Ground.phase }, { on := 3, ground := Go.Ground.phase }, { on := 4, ground := Go.Ground.phase }, { on := 5, ground := Go.Ground.phase }, { on := 6, ground := Go.Ground.phase }, { on := 7, ground := Go.Ground.phase }, { on := 8, ground := Go.Ground.phase }, { on := 9, ground := Go.Ground.phase }, { on := 10, ground := Go.Ground.phase }], guard := none }) (v := ?_) rfl (by kernel_rfl) (by kernel_rfl) (by kernel_rfl) (fun _ _ _ h => h) (Or.inl ⟨by rfl, ?_⟩) hHeld ?_
  rotate_left 1
  · (intro w hSw; (try dsimp only at hSw); go_simp <;> with_reducible rfl)
  simp only [Act.put, List.setIfInBounds_toArray, List.set_cons_zero, List.set_cons_succ]
  refine wpAnyH_done (by kernel_rfl) ?_ _
  have u6 : w1.cell? ⟨UB, j * 12 + 6, none⟩ = some (.int .i64 g1) := cell_below (HL.out 6 _ r6) HBw1.out
  have u7 : w1.cell? ⟨UB, j * 12 + 7, none⟩ = some (.int .i64 k1) := cell_below (HL.out 7 _ r7) HBw1.out
  have u8 : w1.cell? ⟨UB, j * 12 + 8, none⟩ = some (.int .i64 x1) := cell_below (HL.out 8 _ r8) HBw1.out
  have u9 : w1.cell? ⟨UB, j * 12 + 9, none⟩ = some (.int .u64 b1) := cell_below (HL.out 9 _ r9) HBw1.out
  have u10 : w1.cell? ⟨UB, j * 12 + 10, none⟩ = some (.string s1) := cell_below (HL.out 10 _ r10) HBw1.out
  have u11 : w1.cell? ⟨UB, j * 12 + 11, none⟩ = some (.slice a1 m1 n1) := cell_below (HL.out 11 _ r11) HBw1.out
  have uf : ∀ o, w1.frozen? ⟨UB, o, none⟩ = false := fun o => (HBw1.out.frozen (p := ⟨UB, o, none⟩) HUl.out).trans (HF.out o)
  have HFin : Hid (Q (.returned (.tuple #[])) (w1.setCells UB (j * 12 + 6) [.int .i64 2, .int .i64 k0, .int .i64 x0, .int .u64 b0, .string s0, .slice a0 m0 n0]).drew) := KF.out w1 HBw1.out
  have HX : Hid ((w1.setCells UB (j * 12 + 6) [.int .i64 2, .int .i64 k0, .int .i64 x0, .int .u64 b0, .string s0, .slice a0 m0 n0]).heap[w.heap.size]? = some (.cells es 54 (0, 0))) := row_kb HG1.out (setCells_kb UB [.int .i64 2, .int .i64 k0, .int .i64 x0, .int .u64 b0, .string s0, .slice a0 m0 n0] (j * 12 + 6) w1) HGU.out
  clear KF
  go_wp2_with fail
  refine wp_region_held_drew (S := (fun w' => w'.cell? ⟨w.heap.size, 5, none⟩ = some (.int .i64 k0) ∧ w'.cell? ⟨w.heap.size, 6, none⟩ = some (.int .i64 x0) ∧ w'.cell? ⟨w.heap.size, 7, none⟩ = some (.int .u64 b0) ∧ w'.cell? ⟨w.heap.size, 8, none⟩ = some (.string s0) ∧ w'.cell? ⟨w.heap.size, 9, none⟩ = some (.slice a0 m0 n0))) (by kernel_rfl) ⟨row_cell HG1.out e5, row_cell HG1.out e6, row_cell HG1.out e7, row_cell HG1.out e8, row_cell HG1.out e9⟩ (fun hHeld => ?_)
  change wpAnyH _ _ _ _ _ _ _ _ (World.drew _)
  refine wpAnyH_take (i := 0) (oi := { dst := some 33, op := Go.Op.move (Go.Operand.tmp 4), type := 135, pos := "step.go:152", after := #[], guard := none }) (v := ?_) rfl (by kernel_rfl) (by kernel_rfl) (by kernel_rfl) (fun _ _ _ h => h) (Or.inl ⟨by rfl, ?_⟩) hHeld ?_
  rotate_left 1
  · (intro w hSw; (try dsimp only at hSw); go_simp <;> with_reducible rfl)
  simp only [Act.put, List.setIfInBounds_toArray, List.set_cons_zero, List.set_cons_succ]
  refine wpAnyH_take (i := 1) (oi := { dst := some 34, op := Go.Op.move (Go.Operand.tmp 4), type := 135, pos := "step.go:152", after := #[{ on := 6, ground := Go.Ground.gcOnly Go.Departure.lateStores }], guard := none }) (v := ?_) rfl (by kernel_rfl) (by kernel_rfl) (by kernel_rfl) (fun _ _ _ h => h) (Or.inl ⟨by rfl, ?_⟩) hHeld ?_
  rotate_left 1
  · (intro w hSw; (try dsimp only at hSw); go_simp <;> with_reducible rfl)
  simp only [Act.put, List.setIfInBounds_toArray, List.set_cons_zero, List.set_cons_succ]
  refine wpAnyH_take (i := 2) (oi := { dst := some 35, op := Go.Op.fieldAddr 54 (Go.Operand.tmp 3) 5, type := 0, pos := "step.go:152", after := #[], guard := none }) (v := ?_) rfl (by kernel_rfl) (by kernel_rfl) (by kernel_rfl) (fun _ _ _ h => h) (Or.inl ⟨by rfl, ?_⟩) hHeld ?_
  rotate_left 1
  · (intro w hSw; (try dsimp only at hSw); go_simp <;> with_reducible rfl)
  simp only [Act.put, List.setIfInBounds_toArray, List.set_cons_zero, List.set_cons_succ]
  refine wpAnyH_take (i := 3) (oi := { dst := some 36, op := Go.Op.load 25 (Go.Operand.tmp 35), type := 25, pos := "step.go:152", after := #[{ on := 2, ground := Go.Ground.data }], guard := none }) (v := ?_) rfl (by kernel_rfl) (by kernel_rfl) (by kernel_rfl) (fun _ _ _ h => h) (Or.inl ⟨by rfl, ?_⟩) hHeld ?_
  rotate_left 1
  · (intro w hSw; (try dsimp only at hSw); go_simp <;> with_reducible rfl)
  simp only [Act.put, List.setIfInBounds_toArray, List.set_cons_zero, List.set_cons_succ]
  refine wpAnyH_take (i := 4) (oi := { dst := some 37, op := Go.Op.nilCheck (Go.Operand.tmp 33), type := 0, pos := "step.go:152", after := #[{ on := 0, ground := Go.Ground.data }, { on := 0, ground := Go.Ground.phase }, { on := 1, ground := Go.Ground.textOnly Go.Departure.lateStores }, { on := 2, ground := Go.Ground.textOnly Go.Departure.lateStores }, { on := 3, ground := Go.Ground.textOnly Go.Departure.inlinedCapture }], guard := none }) (v := ?_) rfl (by kernel_rfl) (by kernel_rfl) (by kernel_rfl) (fun _ _ _ h => h) (Or.inl ⟨by rfl, ?_⟩) hHeld ?_
  rotate_left 1
  · (intro w hSw; (try dsimp only at hSw); go_simp <;> with_reducible rfl)
  simp only [Act.put, List.setIfInBounds_toArray, List.set_cons_zero, List.set_cons_succ]
  refine wpAnyH_take (i := 5) (oi := { dst := some 38, op := Go.Op.fieldAddr 50 (Go.Operand.tmp 37) 2, type := 0, pos := "step.go:152", after := #[{ on := 4, ground := Go.Ground.data }, { on := 0, ground := Go.Ground.phase }, { on := 1, ground := Go.Ground.textOnly Go.Departure.lateStores }, { on := 2, ground := Go.Ground.textOnly Go.Departure.lateStores }, { on := 3, ground := Go.Ground.textOnly Go.Departure.inlinedCapture }], guard := none }) (v := ?_) rfl (by kernel_rfl) (by kernel_rfl) (by kernel_rfl) (fun _ _ _ h => h) (Or.inl ⟨by rfl, ?_⟩) hHeld ?_
  rotate_left 1
  · (intro w hSw; (try dsimp only at hSw); go_simp <;> with_reducible rfl)
  simp only [Act.put, List.setIfInBounds_toArray, List.set_cons_zero, List.set_cons_succ]
  refine wpAnyH_ready (rs := [6]) (by kernel_rfl) (by simp) ?_
  refine AllReadyH.cons (o := { dst := none, op := Go.Op.store 3 (Go.Operand.tmp 38) (Go.Operand.const (Go.Value.int Go.IntKind.i64 2)), type := 0, pos := "step.go:152", after := #[{ on := 5, ground := Go.Ground.data }, { on := 0, ground := Go.Ground.phase }, { on := 1, ground := Go.Ground.textOnly Go.Departure.lateStores }, { on := 2, ground := Go.Ground.textOnly Go.Departure.lateStores }, { on := 3, ground := Go.Ground.textOnly Go.Departure.inlinedCapture }], guard := none }) rfl (fun K hK => ?_) AllReadyH.nil
  go_simp
  refine hK.out _ _ ⟨row_cell (row_kb HG1.out (KB.setCell UB w1 (j * 12 + 6) (.int .i64 2)) HGU.out) e5, row_cell (row_kb HG1.out (KB.setCell UB w1 (j * 12 + 6) (.int .i64 2)) HGU.out) e6, row_cell (row_kb HG1.out (KB.setCell UB w1 (j * 12 + 6) (.int .i64 2)) HGU.out) e7, row_cell (row_kb HG1.out (KB.setCell UB w1 (j * 12 + 6) (.int .i64 2)) HGU.out) e8, row_cell (row_kb HG1.out (KB.setCell UB w1 (j * 12 + 6) (.int .i64 2)) HGU.out) e9⟩ (fun hHeld => ?_)
  clear hK K
  refine wpAnyH_take (i := 7) (oi := { dst := some 39, op := Go.Op.nilCheck (Go.Operand.tmp 34), type := 0, pos := "step.go:152", after := #[{ on := 1, ground := Go.Ground.data }, { on := 0, ground := Go.Ground.phase }, { on := 1, ground := Go.Ground.phase }, { on := 2, ground := Go.Ground.phase }, { on := 3, ground := Go.Ground.phase }, { on := 4, ground := Go.Ground.phase }, { on := 5, ground := Go.Ground.phase }, { on := 6, ground := Go.Ground.phase }], guard := none }) (v := ?_) rfl (by kernel_rfl) (by kernel_rfl) (by kernel_rfl) (fun _ _ _ h => h) (Or.inl ⟨by rfl, ?_⟩) hHeld ?_
  rotate_left 1
  · (intro w hSw; (try dsimp only at hSw); go_simp <;> with_reducible rfl)
  simp only [Act.put, List.setIfInBounds_toArray, List.set_cons_zero, List.set_cons_succ]
  refine wpAnyH_take (i := 8) (oi := { dst := some 40, op := Go.Op.fieldAddr 50 (Go.Operand.tmp 39) 3, type := 0, pos := "step.go:152", after := #[{ on := 7, ground := Go.Ground.data }, { on := 0, ground := Go.Ground.phase }, { on := 1, ground := Go.Ground.phase }, { on := 2, ground := Go.Ground.phase }, { on := 3, ground := Go.Ground.phase }, { on := 4, ground := Go.Ground.phase }, { on := 5, ground := Go.Ground.phase }, { on := 6, ground := Go.Ground.phase }], guard := none }) (v := ?_) rfl (by kernel_rfl) (by kernel_rfl) (by kernel_rfl) (fun _ _ _ h => h) (Or.inl ⟨by rfl, ?_⟩) hHeld ?_
  rotate_left 1
  · (intro w hSw; (try dsimp only at hSw); go_simp <;> with_reducible rfl)
  simp only [Act.put, List.setIfInBounds_toArray, List.set_cons_zero, List.set_cons_succ]
  refine wpAnyH_ready (rs := [9]) (by kernel_rfl) (by simp) ?_
  refine AllReadyH.cons (o := { dst := none, op := Go.Op.store 25 (Go.Operand.tmp 40) (Go.Operand.tmp 36), type := 0, pos := "step.go:152", after := #[{ on := 8, ground := Go.Ground.data }, { on := 3, ground := Go.Ground.data }, { on := 6, ground := Go.Ground.chain }, { on := 0, ground := Go.Ground.phase }, { on := 1, ground := Go.Ground.phase }, { on := 2, ground := Go.Ground.phase }, { on := 3, ground := Go.Ground.phase }, { on := 4, ground := Go.Ground.phase }, { on := 5, ground := Go.Ground.phase }, { on := 6, ground := Go.Ground.phase }], guard := none }) rfl (fun K hK => ?_) AllReadyH.nil
  go_simp
  rw [six_eq]
  generalize w1.setCells UB (j * 12 + 6) [.int .i64 2, .int .i64 k0, .int .i64 x0, .int .u64 b0, .string s0, .slice a0 m0 n0] = W9 at HX HFin ⊢
  refine hK.out _ _ ⟨row_cell HX.out e5, row_cell HX.out e6, row_cell HX.out e7, row_cell HX.out e8, row_cell HX.out e9⟩ (fun hHeld => ?_)
  clear hK K
  refine wpAnyH_done (by kernel_rfl) ?_ _
  go_wp2_with fail
  go_end0
  exact HFin.out
end Go.Proofs.YtcdhlklmnnmpoaaGreat
namespace Go.Proofs.YtcdhlklmnnmpoaaGreat
open Go.ChangeShapes Go.WideShapes Go.ChangeAt Go.RowKit
theorem puts_app (cs : Array Value) (ps qs : List (Nat × Value)) : puts cs (ps ++ qs) = puts (puts cs ps) qs := by simp [puts, List.foldl_append]
theorem puts_ne {cs : Array Value} {q : Nat} : ∀ {ps : List (Nat × Value)}, (∀ p ∈ ps, p.1 ≠ q) → (puts cs ps)[q]? = cs[q]?
  | [], _ => rfl
  | p :: ps, h => by
    have h1 := h p List.mem_cons_self
    have := puts_ne (cs := cs.setIfInBounds p.1 p.2) (ps := ps) fun p hp => h p (List.mem_cons_of_mem _ hp)
    show (puts (cs.setIfInBounds p.1 p.2) ps)[q]? = _
    rw [this, Array.getElem?_setIfInBounds_ne h1]
theorem puts_size (cs : Array Value) : ∀ (ps : List (Nat × Value)), (puts cs ps).size = cs.size
  | [] => rfl
  | p :: ps => by
    show (puts (cs.setIfInBounds p.1 p.2) ps).size = _
    rw [puts_size]
    simp
theorem WrS.trans {B : Nat} {w W W' : World} {cs cs' : Array Value} (h : WrS B w W cs) (h' : WrS B W W' cs') : WrS B w W' cs' := ⟨h'.row, h.kb.trans h'.kb⟩
theorem Lw.from {lo B : Nat} {t : TypeId} {k : Nat} {u : Value} {rows : List (Array Value)} {w W1 W : World} {v : Value} (h : Lw lo B t k u rows W1 v W) (hk : KB B w W1) (hlo : lo ≤ B) (hlw : lo ≤ w.heap.size) : Lw lo B t k u rows w v W :=
  have hs := hk.2.2.2.1
  ⟨h.own, (hk.below hlo hlw).trans h.bel, fun B' h1 h2 h3 => (h.keep B' (by omega) h2 h3).trans (ne_blk hk h1 h2), h.blk.imp id fun h B' hB => Nat.le_trans hs (h B' hB)⟩
/-- The box behind the count and the time. -/
def cs1 (cs : Array Value) (cn t : Int) : Array Value := puts cs [(2, .int .i64 (wrap64 (cn + 1))), (3, .int .i64 t)]
theorem box_E (w : World) (B : Nat) (c0 c1 : Value) (es : Array Value) : ((((w.setCell ⟨B, 2, none⟩ c0).setCell ⟨B, 3, none⟩ c1).alloc (.cells es 54)).heap[w.heap.size]? = some (.cells es 54 (0, 0))) := by
  have := heap_alloc_new ((w.setCell ⟨B, 2, none⟩ c0).setCell ⟨B, 3, none⟩ c1) (.cells es 54)
  simpa [World.setCell] using this
set_option maxHeartbeats 2000000 in
set_option maxRecDepth 100000 in
theorem chg7 (B : Nat) (cs es : Array Value) (cn tm t : Int) (sg : Int) (fb : Bool) (w : World) (hg : w.heap[B]? = some (.cells cs 41 (0, 0))) (c2 : cs[2]? = some (.int .i64 cn)) (c3 : cs[3]? = some (.int .i64 tm)) (c6 : cs[6]? = some (.int .i64 sg)) (c21 : cs[21]? = some (.bool fb)) (e0 : es[0]? = some (.int .i64 7)) (e1 : es[1]? = some (.int .i64 t)) :
    Calls Tryz.prog 70 #[.pointer (some ⟨B, 0, none⟩), .agg es] w (PuP B cs [(2, .int .i64 (wrap64 (cn + 1))), (3, .int .i64 t), (6, .int .i64 (wrap64 (sg + 1))), (21, .bool true)] w) := by
  have g0 : ∀ j, w.cell? ⟨B, j, none⟩ = cs[j]? := fun j => cell_of_row w B j cs 41 (0, 0) hg
  have gf : ∀ o, w.frozen? ⟨B, o, none⟩ = false := fun o => frozen_of_row w B o _ 41 hg
  have hBl : B < w.heap.size := (Array.getElem?_eq_some_iff.1 hg).1
  have f0 : Hid (WrS B w w cs) := ⟨hg, KB.refl _ _⟩
  have HQ : Hid (∀ W, WrS B w W (puts cs [(2, .int .i64 (wrap64 (cn + 1))), (3, .int .i64 t), (6, .int .i64 (wrap64 (sg + 1))), (21, .bool true)]) → PuP B cs [(2, .int .i64 (wrap64 (cn + 1))), (3, .int .i64 t), (6, .int .i64 (wrap64 (sg + 1))), (21, .bool true)] w (.returned (.tuple #[])) W) := fun W h => pu_mk h
  generalize hps : ([(2, .int .i64 (wrap64 (cn + 1))), (3, .int .i64 t), (6, .int .i64 (wrap64 (sg + 1))), (21, .bool true)] : List (Nat × Value)) = ps at HQ ⊢
  have HP : Hid (([(2, .int .i64 (wrap64 (cn + 1))), (3, .int .i64 t), (6, .int .i64 (wrap64 (sg + 1))), (21, .bool true)] : List (Nat × Value)) = ps) := hps
  generalize PuP B cs ps w = Q at HQ ⊢
  clear hps hg
  go_enter Tryz.func70, Tryz.ntmps70
  go_wp2_with fail
  go_end0
  refine HQ.out _ ?_
  rw [← HP.out]
  simp only [puts, List.foldl]
  repeat (with_reducible first | exact f0.out | apply WrS.set | apply WrS.drew | apply WrS.alloc)
set_option maxHeartbeats 2000000 in
set_option maxRecDepth 100000 in
theorem chg8 (B : Nat) (cs es : Array Value) (cn tm t : Int) (fb cb : Bool) (w : World) (hg : w.heap[B]? = some (.cells cs 41 (0, 0))) (c2 : cs[2]? = some (.int .i64 cn)) (c3 : cs[3]? = some (.int .i64 tm)) (c21 : cs[21]? = some (.bool fb)) (c22 : cs[22]? = some (.bool cb)) (e0 : es[0]? = some (.int .i64 8)) (e1 : es[1]? = some (.int .i64 t)) :
    Calls Tryz.prog 70 #[.pointer (some ⟨B, 0, none⟩), .agg es] w (PuP B cs [(2, .int .i64 (wrap64 (cn + 1))), (3, .int .i64 t), (22, .bool true), (21, .bool true)] w) := by
  have g0 : ∀ j, w.cell? ⟨B, j, none⟩ = cs[j]? := fun j => cell_of_row w B j cs 41 (0, 0) hg
  have gf : ∀ o, w.frozen? ⟨B, o, none⟩ = false := fun o => frozen_of_row w B o _ 41 hg
  have hBl : B < w.heap.size := (Array.getElem?_eq_some_iff.1 hg).1
  have f0 : Hid (WrS B w w cs) := ⟨hg, KB.refl _ _⟩
  have HQ : Hid (∀ W, WrS B w W (puts cs [(2, .int .i64 (wrap64 (cn + 1))), (3, .int .i64 t), (22, .bool true), (21, .bool true)]) → PuP B cs [(2, .int .i64 (wrap64 (cn + 1))), (3, .int .i64 t), (22, .bool true), (21, .bool true)] w (.returned (.tuple #[])) W) := fun W h => pu_mk h
  generalize hps : ([(2, .int .i64 (wrap64 (cn + 1))), (3, .int .i64 t), (22, .bool true), (21, .bool true)] : List (Nat × Value)) = ps at HQ ⊢
  have HP : Hid (([(2, .int .i64 (wrap64 (cn + 1))), (3, .int .i64 t), (22, .bool true), (21, .bool true)] : List (Nat × Value)) = ps) := hps
  generalize PuP B cs ps w = Q at HQ ⊢
  clear hps hg
  go_enter Tryz.func70, Tryz.ntmps70
  go_wp2_with fail
  go_end0
  refine HQ.out _ ?_
  rw [← HP.out]
  simp only [puts, List.foldl]
  repeat (with_reducible first | exact f0.out | apply WrS.set | apply WrS.drew | apply WrS.alloc)
set_option maxHeartbeats 2000000 in
set_option maxRecDepth 100000 in
theorem chg14 (B : Nat) (cs es : Array Value) (cn tm t : Int) (w : World) (hg : w.heap[B]? = some (.cells cs 41 (0, 0))) (c2 : cs[2]? = some (.int .i64 cn)) (c3 : cs[3]? = some (.int .i64 tm)) (e0 : es[0]? = some (.int .i64 14)) (e1 : es[1]? = some (.int .i64 t)) :
    Calls Tryz.prog 70 #[.pointer (some ⟨B, 0, none⟩), .agg es] w (PuP B cs [(2, .int .i64 (wrap64 (cn + 1))), (3, .int .i64 t)] w) := by
  have g0 : ∀ j, w.cell? ⟨B, j, none⟩ = cs[j]? := fun j => cell_of_row w B j cs 41 (0, 0) hg
  have gf : ∀ o, w.frozen? ⟨B, o, none⟩ = false := fun o => frozen_of_row w B o _ 41 hg
  have hBl : B < w.heap.size := (Array.getElem?_eq_some_iff.1 hg).1
  have f0 : Hid (WrS B w w cs) := ⟨hg, KB.refl _ _⟩
  have HQ : Hid (∀ W, WrS B w W (puts cs [(2, .int .i64 (wrap64 (cn + 1))), (3, .int .i64 t)]) → PuP B cs [(2, .int .i64 (wrap64 (cn + 1))), (3, .int .i64 t)] w (.returned (.tuple #[])) W) := fun W h => pu_mk h
  generalize hps : ([(2, .int .i64 (wrap64 (cn + 1))), (3, .int .i64 t)] : List (Nat × Value)) = ps at HQ ⊢
  have HP : Hid (([(2, .int .i64 (wrap64 (cn + 1))), (3, .int .i64 t)] : List (Nat × Value)) = ps) := hps
  generalize PuP B cs ps w = Q at HQ ⊢
  clear hps hg
  go_enter Tryz.func70, Tryz.ntmps70
  go_wp2_with fail
  go_end0
  refine HQ.out _ ?_
  rw [← HP.out]
  simp only [puts, List.foldl]
  repeat (with_reducible first | exact f0.out | apply WrS.set | apply WrS.drew | apply WrS.alloc)
set_option maxHeartbeats 2000000 in
set_option maxRecDepth 100000 in
theorem chgC2 (B : Nat) (cs es : Array Value) (cn tm t : Int) (w : World) (Q1 : World → Ending → World → Prop) (Q : Ending → World → Prop) (hg : w.heap[B]? = some (.cells cs 41 (0, 0))) (c2 : cs[2]? = some (.int .i64 cn)) (c3 : cs[3]? = some (.int .i64 tm)) (hes : es.size = 13) (e0 : es[0]? = some (.int .i64 2)) (e1 : es[1]? = some (.int .i64 t))
    (KC : Hid (∀ W, WrS B w W (cs1 cs cn t) → Calls Tryz.prog 83 #[.pointer (some ⟨B, 0, none⟩), .agg es] W (Q1 W))) (HQ : Hid (∀ W e W', WrS B w W (cs1 cs cn t) → Q1 W e W' → e = .returned (.tuple #[]) ∧ Q e W')) :
    Calls Tryz.prog 70 #[.pointer (some ⟨B, 0, none⟩), .agg es] w Q := by
  have g0 : ∀ j, w.cell? ⟨B, j, none⟩ = cs[j]? := fun j => cell_of_row w B j cs 41 (0, 0) hg
  have gf : ∀ o, w.frozen? ⟨B, o, none⟩ = false := fun o => frozen_of_row w B o _ 41 hg
  have hBl : B < w.heap.size := (Array.getElem?_eq_some_iff.1 hg).1
  have f0 : Hid (WrS B w w cs) := ⟨hg, KB.refl _ _⟩
  have hi46 := info46s es hes
  have hE := box_E w B (.int .i64 (wrap64 (cn + 1))) (.int .i64 t) es
  clear hg hes
  go_enter Tryz.func70, Tryz.ntmps70
  go_wp2_with (refine wpList_load_rowG rfl 54 _ rfl w.heap.size rfl 54 es (0, 0) _ hE Tryz.underlying54 rfl hi46 ?_)
  have f1 : WrS B w (((w.setCell ⟨B, 2, none⟩ (.int .i64 (wrap64 (cn + 1)))).setCell ⟨B, 3, none⟩ (.int .i64 t)).alloc (.cells es 54)) (cs1 cs cn t) := ((f0.out.set 2 (.int .i64 (wrap64 (cn + 1)))).set 3 (.int .i64 t)).alloc (.cells es 54)
  refine (KC.out _ f1).mono ?_
  intro e W' h
  obtain ⟨rfl, hq⟩ := HQ.out _ _ _ f1 h
  go_wp2_with fail
  go_end0
  exact hq
set_option maxHeartbeats 2000000 in
set_option maxRecDepth 100000 in
theorem chgC3 (B : Nat) (cs es : Array Value) (cn tm t : Int) (w : World) (Q1 : World → Ending → World → Prop) (Q : Ending → World → Prop) (hg : w.heap[B]? = some (.cells cs 41 (0, 0))) (c2 : cs[2]? = some (.int .i64 cn)) (c3 : cs[3]? = some (.int .i64 tm)) (hes : es.size = 13) (e0 : es[0]? = some (.int .i64 3)) (e1 : es[1]? = some (.int .i64 t))
    (KC : Hid (∀ W, WrS B w W (cs1 cs cn t) → Calls Tryz.prog 83 #[.pointer (some ⟨B, 0, none⟩), .agg es] W (Q1 W))) (HQ : Hid (∀ W e W', WrS B w W (cs1 cs cn t) → Q1 W e W' → e = .returned (.tuple #[]) ∧ Q e W')) :
    Calls Tryz.prog 70 #[.pointer (some ⟨B, 0, none⟩), .agg es] w Q := by
  have g0 : ∀ j, w.cell? ⟨B, j, none⟩ = cs[j]? := fun j => cell_of_row w B j cs 41 (0, 0) hg
  have gf : ∀ o, w.frozen? ⟨B, o, none⟩ = false := fun o => frozen_of_row w B o _ 41 hg
  have hBl : B < w.heap.size := (Array.getElem?_eq_some_iff.1 hg).1
  have f0 : Hid (WrS B w w cs) := ⟨hg, KB.refl _ _⟩
  have hi46 := info46s es hes
  have hE := box_E w B (.int .i64 (wrap64 (cn + 1))) (.int .i64 t) es
  clear hg hes
  go_enter Tryz.func70, Tryz.ntmps70
  go_wp2_with (refine wpList_load_rowG rfl 54 _ rfl w.heap.size rfl 54 es (0, 0) _ hE Tryz.underlying54 rfl hi46 ?_)
  have f1 : WrS B w (((w.setCell ⟨B, 2, none⟩ (.int .i64 (wrap64 (cn + 1)))).setCell ⟨B, 3, none⟩ (.int .i64 t)).alloc (.cells es 54)) (cs1 cs cn t) := ((f0.out.set 2 (.int .i64 (wrap64 (cn + 1)))).set 3 (.int .i64 t)).alloc (.cells es 54)
  refine (KC.out _ f1).mono ?_
  intro e W' h
  obtain ⟨rfl, hq⟩ := HQ.out _ _ _ f1 h
  go_wp2_with fail
  go_end0
  exact hq
set_option maxHeartbeats 2000000 in
set_option maxRecDepth 100000 in
theorem chgC4 (B : Nat) (cs es : Array Value) (cn tm t : Int) (w : World) (Q1 : World → Ending → World → Prop) (Q : Ending → World → Prop) (hg : w.heap[B]? = some (.cells cs 41 (0, 0))) (c2 : cs[2]? = some (.int .i64 cn)) (c3 : cs[3]? = some (.int .i64 tm)) (hes : es.size = 13) (e0 : es[0]? = some (.int .i64 4)) (e1 : es[1]? = some (.int .i64 t))
    (KC : Hid (∀ W, WrS B w W (cs1 cs cn t) → Calls Tryz.prog 83 #[.pointer (some ⟨B, 0, none⟩), .agg es] W (Q1 W))) (HQ : Hid (∀ W e W', WrS B w W (cs1 cs cn t) → Q1 W e W' → e = .returned (.tuple #[]) ∧ Q e W')) :
    Calls Tryz.prog 70 #[.pointer (some ⟨B, 0, none⟩), .agg es] w Q := by
  have g0 : ∀ j, w.cell? ⟨B, j, none⟩ = cs[j]? := fun j => cell_of_row w B j cs 41 (0, 0) hg
  have gf : ∀ o, w.frozen? ⟨B, o, none⟩ = false := fun o => frozen_of_row w B o _ 41 hg
  have hBl : B < w.heap.size := (Array.getElem?_eq_some_iff.1 hg).1
  have f0 : Hid (WrS B w w cs) := ⟨hg, KB.refl _ _⟩
  have hi46 := info46s es hes
  have hE := box_E w B (.int .i64 (wrap64 (cn + 1))) (.int .i64 t) es
  clear hg hes
  go_enter Tryz.func70, Tryz.ntmps70
  go_wp2_with (refine wpList_load_rowG rfl 54 _ rfl w.heap.size rfl 54 es (0, 0) _ hE Tryz.underlying54 rfl hi46 ?_)
  have f1 : WrS B w (((w.setCell ⟨B, 2, none⟩ (.int .i64 (wrap64 (cn + 1)))).setCell ⟨B, 3, none⟩ (.int .i64 t)).alloc (.cells es 54)) (cs1 cs cn t) := ((f0.out.set 2 (.int .i64 (wrap64 (cn + 1)))).set 3 (.int .i64 t)).alloc (.cells es 54)
  refine (KC.out _ f1).mono ?_
  intro e W' h
  obtain ⟨rfl, hq⟩ := HQ.out _ _ _ f1 h
  go_wp2_with fail
  go_end0
  exact hq
set_option maxHeartbeats 2000000 in
set_option maxRecDepth 100000 in
theorem chgC5 (B : Nat) (cs es : Array Value) (cn tm t : Int) (w : World) (Q1 : World → Ending → World → Prop) (Q : Ending → World → Prop) (hg : w.heap[B]? = some (.cells cs 41 (0, 0))) (c2 : cs[2]? = some (.int .i64 cn)) (c3 : cs[3]? = some (.int .i64 tm)) (hes : es.size = 13) (e0 : es[0]? = some (.int .i64 5)) (e1 : es[1]? = some (.int .i64 t))
    (KC : Hid (∀ W, WrS B w W (cs1 cs cn t) → Calls Tryz.prog 83 #[.pointer (some ⟨B, 0, none⟩), .agg es] W (Q1 W))) (HQ : Hid (∀ W e W', WrS B w W (cs1 cs cn t) → Q1 W e W' → e = .returned (.tuple #[]) ∧ Q e W')) :
    Calls Tryz.prog 70 #[.pointer (some ⟨B, 0, none⟩), .agg es] w Q := by
  have g0 : ∀ j, w.cell? ⟨B, j, none⟩ = cs[j]? := fun j => cell_of_row w B j cs 41 (0, 0) hg
  have gf : ∀ o, w.frozen? ⟨B, o, none⟩ = false := fun o => frozen_of_row w B o _ 41 hg
  have hBl : B < w.heap.size := (Array.getElem?_eq_some_iff.1 hg).1
  have f0 : Hid (WrS B w w cs) := ⟨hg, KB.refl _ _⟩
  have hi46 := info46s es hes
  have hE := box_E w B (.int .i64 (wrap64 (cn + 1))) (.int .i64 t) es
  clear hg hes
  go_enter Tryz.func70, Tryz.ntmps70
  go_wp2_with (refine wpList_load_rowG rfl 54 _ rfl w.heap.size rfl 54 es (0, 0) _ hE Tryz.underlying54 rfl hi46 ?_)
  have f1 : WrS B w (((w.setCell ⟨B, 2, none⟩ (.int .i64 (wrap64 (cn + 1)))).setCell ⟨B, 3, none⟩ (.int .i64 t)).alloc (.cells es 54)) (cs1 cs cn t) := ((f0.out.set 2 (.int .i64 (wrap64 (cn + 1)))).set 3 (.int .i64 t)).alloc (.cells es 54)
  refine (KC.out _ f1).mono ?_
  intro e W' h
  obtain ⟨rfl, hq⟩ := HQ.out _ _ _ f1 h
  go_wp2_with fail
  go_end0
  exact hq
set_option maxHeartbeats 2000000 in
set_option maxRecDepth 100000 in
theorem chgC6 (B : Nat) (cs es : Array Value) (cn tm t : Int) (w : World) (Q1 : World → Ending → World → Prop) (Q : Ending → World → Prop) (hg : w.heap[B]? = some (.cells cs 41 (0, 0))) (c2 : cs[2]? = some (.int .i64 cn)) (c3 : cs[3]? = some (.int .i64 tm)) (hes : es.size = 13) (e0 : es[0]? = some (.int .i64 6)) (e1 : es[1]? = some (.int .i64 t))
    (KC : Hid (∀ W, WrS B w W (cs1 cs cn t) → Calls Tryz.prog 83 #[.pointer (some ⟨B, 0, none⟩), .agg es] W (Q1 W))) (HQ : Hid (∀ W e W', WrS B w W (cs1 cs cn t) → Q1 W e W' → e = .returned (.tuple #[]) ∧ Q e W')) :
    Calls Tryz.prog 70 #[.pointer (some ⟨B, 0, none⟩), .agg es] w Q := by
  have g0 : ∀ j, w.cell? ⟨B, j, none⟩ = cs[j]? := fun j => cell_of_row w B j cs 41 (0, 0) hg
  have gf : ∀ o, w.frozen? ⟨B, o, none⟩ = false := fun o => frozen_of_row w B o _ 41 hg
  have hBl : B < w.heap.size := (Array.getElem?_eq_some_iff.1 hg).1
  have f0 : Hid (WrS B w w cs) := ⟨hg, KB.refl _ _⟩
  have hi46 := info46s es hes
  have hE := box_E w B (.int .i64 (wrap64 (cn + 1))) (.int .i64 t) es
  clear hg hes
  go_enter Tryz.func70, Tryz.ntmps70
  go_wp2_with (refine wpList_load_rowG rfl 54 _ rfl w.heap.size rfl 54 es (0, 0) _ hE Tryz.underlying54 rfl hi46 ?_)
  have f1 : WrS B w (((w.setCell ⟨B, 2, none⟩ (.int .i64 (wrap64 (cn + 1)))).setCell ⟨B, 3, none⟩ (.int .i64 t)).alloc (.cells es 54)) (cs1 cs cn t) := ((f0.out.set 2 (.int .i64 (wrap64 (cn + 1)))).set 3 (.int .i64 t)).alloc (.cells es 54)
  refine (KC.out _ f1).mono ?_
  intro e W' h
  obtain ⟨rfl, hq⟩ := HQ.out _ _ _ f1 h
  go_wp2_with fail
  go_end0
  exact hq
set_option maxHeartbeats 2000000 in
set_option maxRecDepth 100000 in
theorem chgC9 (B : Nat) (cs es : Array Value) (cn tm t : Int) (w : World) (Q1 : World → Ending → World → Prop) (Q : Ending → World → Prop) (hg : w.heap[B]? = some (.cells cs 41 (0, 0))) (c2 : cs[2]? = some (.int .i64 cn)) (c3 : cs[3]? = some (.int .i64 tm)) (hes : es.size = 13) (e0 : es[0]? = some (.int .i64 9)) (e1 : es[1]? = some (.int .i64 t))
    (KC : Hid (∀ W, WrS B w W (cs1 cs cn t) → Calls Tryz.prog 84 #[.pointer (some ⟨B, 0, none⟩), .agg es] W (Q1 W))) (HQ : Hid (∀ W e W', WrS B w W (cs1 cs cn t) → Q1 W e W' → e = .returned (.tuple #[]) ∧ Q e W')) :
    Calls Tryz.prog 70 #[.pointer (some ⟨B, 0, none⟩), .agg es] w Q := by
  have g0 : ∀ j, w.cell? ⟨B, j, none⟩ = cs[j]? := fun j => cell_of_row w B j cs 41 (0, 0) hg
  have gf : ∀ o, w.frozen? ⟨B, o, none⟩ = false := fun o => frozen_of_row w B o _ 41 hg
  have hBl : B < w.heap.size := (Array.getElem?_eq_some_iff.1 hg).1
  have f0 : Hid (WrS B w w cs) := ⟨hg, KB.refl _ _⟩
  have hi46 := info46s es hes
  have hE := box_E w B (.int .i64 (wrap64 (cn + 1))) (.int .i64 t) es
  clear hg hes
  go_enter Tryz.func70, Tryz.ntmps70
  go_wp2_with (refine wpList_load_rowG rfl 54 _ rfl w.heap.size rfl 54 es (0, 0) _ hE Tryz.underlying54 rfl hi46 ?_)
  have f1 : WrS B w (((w.setCell ⟨B, 2, none⟩ (.int .i64 (wrap64 (cn + 1)))).setCell ⟨B, 3, none⟩ (.int .i64 t)).alloc (.cells es 54)) (cs1 cs cn t) := ((f0.out.set 2 (.int .i64 (wrap64 (cn + 1)))).set 3 (.int .i64 t)).alloc (.cells es 54)
  refine (KC.out _ f1).mono ?_
  intro e W' h
  obtain ⟨rfl, hq⟩ := HQ.out _ _ _ f1 h
  go_wp2_with fail
  go_end0
  exact hq
set_option maxHeartbeats 2000000 in
set_option maxRecDepth 100000 in
theorem chgC10 (B : Nat) (cs es : Array Value) (cn tm t : Int) (w : World) (Q1 : World → Ending → World → Prop) (Q : Ending → World → Prop) (hg : w.heap[B]? = some (.cells cs 41 (0, 0))) (c2 : cs[2]? = some (.int .i64 cn)) (c3 : cs[3]? = some (.int .i64 tm)) (hes : es.size = 13) (e0 : es[0]? = some (.int .i64 10)) (e1 : es[1]? = some (.int .i64 t))
    (KC : Hid (∀ W, WrS B w W (cs1 cs cn t) → Calls Tryz.prog 84 #[.pointer (some ⟨B, 0, none⟩), .agg es] W (Q1 W))) (HQ : Hid (∀ W e W', WrS B w W (cs1 cs cn t) → Q1 W e W' → e = .returned (.tuple #[]) ∧ Q e W')) :
    Calls Tryz.prog 70 #[.pointer (some ⟨B, 0, none⟩), .agg es] w Q := by
  have g0 : ∀ j, w.cell? ⟨B, j, none⟩ = cs[j]? := fun j => cell_of_row w B j cs 41 (0, 0) hg
  have gf : ∀ o, w.frozen? ⟨B, o, none⟩ = false := fun o => frozen_of_row w B o _ 41 hg
  have hBl : B < w.heap.size := (Array.getElem?_eq_some_iff.1 hg).1
  have f0 : Hid (WrS B w w cs) := ⟨hg, KB.refl _ _⟩
  have hi46 := info46s es hes
  have hE := box_E w B (.int .i64 (wrap64 (cn + 1))) (.int .i64 t) es
  clear hg hes
  go_enter Tryz.func70, Tryz.ntmps70
  go_wp2_with (refine wpList_load_rowG rfl 54 _ rfl w.heap.size rfl 54 es (0, 0) _ hE Tryz.underlying54 rfl hi46 ?_)
  have f1 : WrS B w (((w.setCell ⟨B, 2, none⟩ (.int .i64 (wrap64 (cn + 1)))).setCell ⟨B, 3, none⟩ (.int .i64 t)).alloc (.cells es 54)) (cs1 cs cn t) := ((f0.out.set 2 (.int .i64 (wrap64 (cn + 1)))).set 3 (.int .i64 t)).alloc (.cells es 54)
  refine (KC.out _ f1).mono ?_
  intro e W' h
  obtain ⟨rfl, hq⟩ := HQ.out _ _ _ f1 h
  go_wp2_with fail
  go_end0
  exact hq
set_option maxHeartbeats 2000000 in
set_option maxRecDepth 100000 in
theorem chgC11 (B : Nat) (cs es : Array Value) (cn tm t : Int) (w : World) (Q1 : World → Ending → World → Prop) (Q : Ending → World → Prop) (hg : w.heap[B]? = some (.cells cs 41 (0, 0))) (c2 : cs[2]? = some (.int .i64 cn)) (c3 : cs[3]? = some (.int .i64 tm)) (hes : es.size = 13) (e0 : es[0]? = some (.int .i64 11)) (e1 : es[1]? = some (.int .i64 t))
    (KC : Hid (∀ W, WrS B w W (cs1 cs cn t) → Calls Tryz.prog 84 #[.pointer (some ⟨B, 0, none⟩), .agg es] W (Q1 W))) (HQ : Hid (∀ W e W', WrS B w W (cs1 cs cn t) → Q1 W e W' → e = .returned (.tuple #[]) ∧ Q e W')) :
    Calls Tryz.prog 70 #[.pointer (some ⟨B, 0, none⟩), .agg es] w Q := by
  have g0 : ∀ j, w.cell? ⟨B, j, none⟩ = cs[j]? := fun j => cell_of_row w B j cs 41 (0, 0) hg
  have gf : ∀ o, w.frozen? ⟨B, o, none⟩ = false := fun o => frozen_of_row w B o _ 41 hg
  have hBl : B < w.heap.size := (Array.getElem?_eq_some_iff.1 hg).1
  have f0 : Hid (WrS B w w cs) := ⟨hg, KB.refl _ _⟩
  have hi46 := info46s es hes
  have hE := box_E w B (.int .i64 (wrap64 (cn + 1))) (.int .i64 t) es
  clear hg hes
  go_enter Tryz.func70, Tryz.ntmps70
  go_wp2_with (refine wpList_load_rowG rfl 54 _ rfl w.heap.size rfl 54 es (0, 0) _ hE Tryz.underlying54 rfl hi46 ?_)
  have f1 : WrS B w (((w.setCell ⟨B, 2, none⟩ (.int .i64 (wrap64 (cn + 1)))).setCell ⟨B, 3, none⟩ (.int .i64 t)).alloc (.cells es 54)) (cs1 cs cn t) := ((f0.out.set 2 (.int .i64 (wrap64 (cn + 1)))).set 3 (.int .i64 t)).alloc (.cells es 54)
  refine (KC.out _ f1).mono ?_
  intro e W' h
  obtain ⟨rfl, hq⟩ := HQ.out _ _ _ f1 h
  go_wp2_with fail
  go_end0
  exact hq
set_option maxHeartbeats 2000000 in
set_option maxRecDepth 100000 in
theorem chgC12 (B : Nat) (cs es : Array Value) (cn tm t : Int) (w : World) (Q1 : World → Ending → World → Prop) (Q : Ending → World → Prop) (hg : w.heap[B]? = some (.cells cs 41 (0, 0))) (c2 : cs[2]? = some (.int .i64 cn)) (c3 : cs[3]? = some (.int .i64 tm)) (hes : es.size = 13) (e0 : es[0]? = some (.int .i64 12)) (e1 : es[1]? = some (.int .i64 t))
    (KC : Hid (∀ W, WrS B w W (cs1 cs cn t) → Calls Tryz.prog 85 #[.pointer (some ⟨B, 0, none⟩), .agg es] W (Q1 W))) (HQ : Hid (∀ W e W', WrS B w W (cs1 cs cn t) → Q1 W e W' → e = .returned (.tuple #[]) ∧ Q e W')) :
    Calls Tryz.prog 70 #[.pointer (some ⟨B, 0, none⟩), .agg es] w Q := by
  have g0 : ∀ j, w.cell? ⟨B, j, none⟩ = cs[j]? := fun j => cell_of_row w B j cs 41 (0, 0) hg
  have gf : ∀ o, w.frozen? ⟨B, o, none⟩ = false := fun o => frozen_of_row w B o _ 41 hg
  have hBl : B < w.heap.size := (Array.getElem?_eq_some_iff.1 hg).1
  have f0 : Hid (WrS B w w cs) := ⟨hg, KB.refl _ _⟩
  have hi46 := info46s es hes
  have hE := box_E w B (.int .i64 (wrap64 (cn + 1))) (.int .i64 t) es
  clear hg hes
  go_enter Tryz.func70, Tryz.ntmps70
  go_wp2_with (refine wpList_load_rowG rfl 54 _ rfl w.heap.size rfl 54 es (0, 0) _ hE Tryz.underlying54 rfl hi46 ?_)
  have f1 : WrS B w (((w.setCell ⟨B, 2, none⟩ (.int .i64 (wrap64 (cn + 1)))).setCell ⟨B, 3, none⟩ (.int .i64 t)).alloc (.cells es 54)) (cs1 cs cn t) := ((f0.out.set 2 (.int .i64 (wrap64 (cn + 1)))).set 3 (.int .i64 t)).alloc (.cells es 54)
  refine (KC.out _ f1).mono ?_
  intro e W' h
  obtain ⟨rfl, hq⟩ := HQ.out _ _ _ f1 h
  go_wp2_with fail
  go_end0
  exact hq
set_option maxHeartbeats 2000000 in
set_option maxRecDepth 100000 in
theorem chgC13 (B : Nat) (cs es : Array Value) (cn tm t : Int) (w : World) (Q1 : World → Ending → World → Prop) (Q : Ending → World → Prop) (hg : w.heap[B]? = some (.cells cs 41 (0, 0))) (c2 : cs[2]? = some (.int .i64 cn)) (c3 : cs[3]? = some (.int .i64 tm)) (hes : es.size = 13) (e0 : es[0]? = some (.int .i64 13)) (e1 : es[1]? = some (.int .i64 t))
    (KC : Hid (∀ W, WrS B w W (cs1 cs cn t) → Calls Tryz.prog 85 #[.pointer (some ⟨B, 0, none⟩), .agg es] W (Q1 W))) (HQ : Hid (∀ W e W', WrS B w W (cs1 cs cn t) → Q1 W e W' → e = .returned (.tuple #[]) ∧ Q e W')) :
    Calls Tryz.prog 70 #[.pointer (some ⟨B, 0, none⟩), .agg es] w Q := by
  have g0 : ∀ j, w.cell? ⟨B, j, none⟩ = cs[j]? := fun j => cell_of_row w B j cs 41 (0, 0) hg
  have gf : ∀ o, w.frozen? ⟨B, o, none⟩ = false := fun o => frozen_of_row w B o _ 41 hg
  have hBl : B < w.heap.size := (Array.getElem?_eq_some_iff.1 hg).1
  have f0 : Hid (WrS B w w cs) := ⟨hg, KB.refl _ _⟩
  have hi46 := info46s es hes
  have hE := box_E w B (.int .i64 (wrap64 (cn + 1))) (.int .i64 t) es
  clear hg hes
  go_enter Tryz.func70, Tryz.ntmps70
  go_wp2_with (refine wpList_load_rowG rfl 54 _ rfl w.heap.size rfl 54 es (0, 0) _ hE Tryz.underlying54 rfl hi46 ?_)
  have f1 : WrS B w (((w.setCell ⟨B, 2, none⟩ (.int .i64 (wrap64 (cn + 1)))).setCell ⟨B, 3, none⟩ (.int .i64 t)).alloc (.cells es 54)) (cs1 cs cn t) := ((f0.out.set 2 (.int .i64 (wrap64 (cn + 1)))).set 3 (.int .i64 t)).alloc (.cells es 54)
  refine (KC.out _ f1).mono ?_
  intro e W' h
  obtain ⟨rfl, hq⟩ := HQ.out _ _ _ f1 h
  go_wp2_with fail
  go_end0
  exact hq
set_option maxHeartbeats 2000000 in
set_option maxRecDepth 100000 in
theorem chgC15 (B : Nat) (cs es : Array Value) (cn tm t : Int) (w : World) (Q1 : World → Ending → World → Prop) (Q : Ending → World → Prop) (hg : w.heap[B]? = some (.cells cs 41 (0, 0))) (c2 : cs[2]? = some (.int .i64 cn)) (c3 : cs[3]? = some (.int .i64 tm)) (hes : es.size = 13) (e0 : es[0]? = some (.int .i64 15)) (e1 : es[1]? = some (.int .i64 t))
    (KC : Hid (∀ W, WrS B w W (cs1 cs cn t) → Calls Tryz.prog 86 #[.pointer (some ⟨B, 0, none⟩), .agg es] W (Q1 W))) (HQ : Hid (∀ W e W', WrS B w W (cs1 cs cn t) → Q1 W e W' → e = .returned (.tuple #[]) ∧ Q e W')) :
    Calls Tryz.prog 70 #[.pointer (some ⟨B, 0, none⟩), .agg es] w Q := by
  have g0 : ∀ j, w.cell? ⟨B, j, none⟩ = cs[j]? := fun j => cell_of_row w B j cs 41 (0, 0) hg
  have gf : ∀ o, w.frozen? ⟨B, o, none⟩ = false := fun o => frozen_of_row w B o _ 41 hg
  have hBl : B < w.heap.size := (Array.getElem?_eq_some_iff.1 hg).1
  have f0 : Hid (WrS B w w cs) := ⟨hg, KB.refl _ _⟩
  have hi46 := info46s es hes
  have hE := box_E w B (.int .i64 (wrap64 (cn + 1))) (.int .i64 t) es
  clear hg hes
  go_enter Tryz.func70, Tryz.ntmps70
  go_wp2_with (refine wpList_load_rowG rfl 54 _ rfl w.heap.size rfl 54 es (0, 0) _ hE Tryz.underlying54 rfl hi46 ?_)
  have f1 : WrS B w (((w.setCell ⟨B, 2, none⟩ (.int .i64 (wrap64 (cn + 1)))).setCell ⟨B, 3, none⟩ (.int .i64 t)).alloc (.cells es 54)) (cs1 cs cn t) := ((f0.out.set 2 (.int .i64 (wrap64 (cn + 1)))).set 3 (.int .i64 t)).alloc (.cells es 54)
  refine (KC.out _ f1).mono ?_
  intro e W' h
  obtain ⟨rfl, hq⟩ := HQ.out _ _ _ f1 h
  go_wp2_with fail
  go_end0
  exact hq
set_option maxHeartbeats 2000000 in
set_option maxRecDepth 100000 in
theorem chgC16 (B : Nat) (cs es : Array Value) (cn tm t : Int) (w : World) (Q1 : World → Ending → World → Prop) (Q : Ending → World → Prop) (hg : w.heap[B]? = some (.cells cs 41 (0, 0))) (c2 : cs[2]? = some (.int .i64 cn)) (c3 : cs[3]? = some (.int .i64 tm)) (hes : es.size = 13) (e0 : es[0]? = some (.int .i64 16)) (e1 : es[1]? = some (.int .i64 t))
    (KC : Hid (∀ W, WrS B w W (cs1 cs cn t) → Calls Tryz.prog 86 #[.pointer (some ⟨B, 0, none⟩), .agg es] W (Q1 W))) (HQ : Hid (∀ W e W', WrS B w W (cs1 cs cn t) → Q1 W e W' → e = .returned (.tuple #[]) ∧ Q e W')) :
    Calls Tryz.prog 70 #[.pointer (some ⟨B, 0, none⟩), .agg es] w Q := by
  have g0 : ∀ j, w.cell? ⟨B, j, none⟩ = cs[j]? := fun j => cell_of_row w B j cs 41 (0, 0) hg
  have gf : ∀ o, w.frozen? ⟨B, o, none⟩ = false := fun o => frozen_of_row w B o _ 41 hg
  have hBl : B < w.heap.size := (Array.getElem?_eq_some_iff.1 hg).1
  have f0 : Hid (WrS B w w cs) := ⟨hg, KB.refl _ _⟩
  have hi46 := info46s es hes
  have hE := box_E w B (.int .i64 (wrap64 (cn + 1))) (.int .i64 t) es
  clear hg hes
  go_enter Tryz.func70, Tryz.ntmps70
  go_wp2_with (refine wpList_load_rowG rfl 54 _ rfl w.heap.size rfl 54 es (0, 0) _ hE Tryz.underlying54 rfl hi46 ?_)
  have f1 : WrS B w (((w.setCell ⟨B, 2, none⟩ (.int .i64 (wrap64 (cn + 1)))).setCell ⟨B, 3, none⟩ (.int .i64 t)).alloc (.cells es 54)) (cs1 cs cn t) := ((f0.out.set 2 (.int .i64 (wrap64 (cn + 1)))).set 3 (.int .i64 t)).alloc (.cells es 54)
  refine (KC.out _ f1).mono ?_
  intro e W' h
  obtain ⟨rfl, hq⟩ := HQ.out _ _ _ f1 h
  go_wp2_with fail
  go_end0
  exact hq
set_option maxHeartbeats 2000000 in
set_option maxRecDepth 100000 in
theorem chgC17 (B : Nat) (cs es : Array Value) (cn tm t : Int) (w : World) (Q1 : World → Ending → World → Prop) (Q : Ending → World → Prop) (hg : w.heap[B]? = some (.cells cs 41 (0, 0))) (c2 : cs[2]? = some (.int .i64 cn)) (c3 : cs[3]? = some (.int .i64 tm)) (hes : es.size = 13) (e0 : es[0]? = some (.int .i64 17)) (e1 : es[1]? = some (.int .i64 t))
    (KC : Hid (∀ W, WrS B w W (cs1 cs cn t) → Calls Tryz.prog 86 #[.pointer (some ⟨B, 0, none⟩), .agg es] W (Q1 W))) (HQ : Hid (∀ W e W', WrS B w W (cs1 cs cn t) → Q1 W e W' → e = .returned (.tuple #[]) ∧ Q e W')) :
    Calls Tryz.prog 70 #[.pointer (some ⟨B, 0, none⟩), .agg es] w Q := by
  have g0 : ∀ j, w.cell? ⟨B, j, none⟩ = cs[j]? := fun j => cell_of_row w B j cs 41 (0, 0) hg
  have gf : ∀ o, w.frozen? ⟨B, o, none⟩ = false := fun o => frozen_of_row w B o _ 41 hg
  have hBl : B < w.heap.size := (Array.getElem?_eq_some_iff.1 hg).1
  have f0 : Hid (WrS B w w cs) := ⟨hg, KB.refl _ _⟩
  have hi46 := info46s es hes
  have hE := box_E w B (.int .i64 (wrap64 (cn + 1))) (.int .i64 t) es
  clear hg hes
  go_enter Tryz.func70, Tryz.ntmps70
  go_wp2_with (refine wpList_load_rowG rfl 54 _ rfl w.heap.size rfl 54 es (0, 0) _ hE Tryz.underlying54 rfl hi46 ?_)
  have f1 : WrS B w (((w.setCell ⟨B, 2, none⟩ (.int .i64 (wrap64 (cn + 1)))).setCell ⟨B, 3, none⟩ (.int .i64 t)).alloc (.cells es 54)) (cs1 cs cn t) := ((f0.out.set 2 (.int .i64 (wrap64 (cn + 1)))).set 3 (.int .i64 t)).alloc (.cells es 54)
  refine (KC.out _ f1).mono ?_
  intro e W' h
  obtain ⟨rfl, hq⟩ := HQ.out _ _ _ f1 h
  go_wp2_with fail
  go_end0
  exact hq
set_option maxHeartbeats 2000000 in
set_option maxRecDepth 100000 in
theorem chgC18 (B : Nat) (cs es : Array Value) (cn tm t : Int) (w : World) (Q1 : World → Ending → World → Prop) (Q : Ending → World → Prop) (hg : w.heap[B]? = some (.cells cs 41 (0, 0))) (c2 : cs[2]? = some (.int .i64 cn)) (c3 : cs[3]? = some (.int .i64 tm)) (hes : es.size = 13) (e0 : es[0]? = some (.int .i64 18)) (e1 : es[1]? = some (.int .i64 t))
    (KC : Hid (∀ W, WrS B w W (cs1 cs cn t) → Calls Tryz.prog 86 #[.pointer (some ⟨B, 0, none⟩), .agg es] W (Q1 W))) (HQ : Hid (∀ W e W', WrS B w W (cs1 cs cn t) → Q1 W e W' → e = .returned (.tuple #[]) ∧ Q e W')) :
    Calls Tryz.prog 70 #[.pointer (some ⟨B, 0, none⟩), .agg es] w Q := by
  have g0 : ∀ j, w.cell? ⟨B, j, none⟩ = cs[j]? := fun j => cell_of_row w B j cs 41 (0, 0) hg
  have gf : ∀ o, w.frozen? ⟨B, o, none⟩ = false := fun o => frozen_of_row w B o _ 41 hg
  have hBl : B < w.heap.size := (Array.getElem?_eq_some_iff.1 hg).1
  have f0 : Hid (WrS B w w cs) := ⟨hg, KB.refl _ _⟩
  have hi46 := info46s es hes
  have hE := box_E w B (.int .i64 (wrap64 (cn + 1))) (.int .i64 t) es
  clear hg hes
  go_enter Tryz.func70, Tryz.ntmps70
  go_wp2_with (refine wpList_load_rowG rfl 54 _ rfl w.heap.size rfl 54 es (0, 0) _ hE Tryz.underlying54 rfl hi46 ?_)
  have f1 : WrS B w (((w.setCell ⟨B, 2, none⟩ (.int .i64 (wrap64 (cn + 1)))).setCell ⟨B, 3, none⟩ (.int .i64 t)).alloc (.cells es 54)) (cs1 cs cn t) := ((f0.out.set 2 (.int .i64 (wrap64 (cn + 1)))).set 3 (.int .i64 t)).alloc (.cells es 54)
  refine (KC.out _ f1).mono ?_
  intro e W' h
  obtain ⟨rfl, hq⟩ := HQ.out _ _ _ f1 h
  go_wp2_with fail
  go_end0
  exact hq
set_option maxHeartbeats 2000000 in
set_option maxRecDepth 100000 in
theorem chgC19 (B : Nat) (cs es : Array Value) (cn tm t : Int) (w : World) (Q1 : World → Ending → World → Prop) (Q : Ending → World → Prop) (hg : w.heap[B]? = some (.cells cs 41 (0, 0))) (c2 : cs[2]? = some (.int .i64 cn)) (c3 : cs[3]? = some (.int .i64 tm)) (hes : es.size = 13) (e0 : es[0]? = some (.int .i64 19)) (e1 : es[1]? = some (.int .i64 t))
    (KC : Hid (∀ W, WrS B w W (cs1 cs cn t) → Calls Tryz.prog 86 #[.pointer (some ⟨B, 0, none⟩), .agg es] W (Q1 W))) (HQ : Hid (∀ W e W', WrS B w W (cs1 cs cn t) → Q1 W e W' → e = .returned (.tuple #[]) ∧ Q e W')) :
    Calls Tryz.prog 70 #[.pointer (some ⟨B, 0, none⟩), .agg es] w Q := by
  have g0 : ∀ j, w.cell? ⟨B, j, none⟩ = cs[j]? := fun j => cell_of_row w B j cs 41 (0, 0) hg
  have gf : ∀ o, w.frozen? ⟨B, o, none⟩ = false := fun o => frozen_of_row w B o _ 41 hg
  have hBl : B < w.heap.size := (Array.getElem?_eq_some_iff.1 hg).1
  have f0 : Hid (WrS B w w cs) := ⟨hg, KB.refl _ _⟩
  have hi46 := info46s es hes
  have hE := box_E w B (.int .i64 (wrap64 (cn + 1))) (.int .i64 t) es
  clear hg hes
  go_enter Tryz.func70, Tryz.ntmps70
  go_wp2_with (refine wpList_load_rowG rfl 54 _ rfl w.heap.size rfl 54 es (0, 0) _ hE Tryz.underlying54 rfl hi46 ?_)
  have f1 : WrS B w (((w.setCell ⟨B, 2, none⟩ (.int .i64 (wrap64 (cn + 1)))).setCell ⟨B, 3, none⟩ (.int .i64 t)).alloc (.cells es 54)) (cs1 cs cn t) := ((f0.out.set 2 (.int .i64 (wrap64 (cn + 1)))).set 3 (.int .i64 t)).alloc (.cells es 54)
  refine (KC.out _ f1).mono ?_
  intro e W' h
  obtain ⟨rfl, hq⟩ := HQ.out _ _ _ f1 h
  go_wp2_with fail
  go_end0
  exact hq
set_option maxHeartbeats 2000000 in
set_option maxRecDepth 100000 in
theorem chg1 (B : Nat) (cs es : Array Value) (cn tm t st dl d f f1 m m1 : Int) (pc pc1 : Nat) (fb : Bool) (ty q : ByteArray) (k0 x0 b0 : Int) (s0 : ByteArray) (a0 : Option Addr) (m0 n0 : Nat) (k1 x1 b1 : Int) (s1 : ByteArray) (a1 : Option Addr) (l1 n1 : Nat) (w : World) (hg : w.heap[B]? = some (.cells cs 41 (0, 0))) (c1 : cs[1]? = some (.int .i64 st)) (c2 : cs[2]? = some (.int .i64 cn)) (c3 : cs[3]? = some (.int .i64 tm)) (c4 : cs[4]? = some (.int .i64 dl)) (c7 : cs[7]? = some (.string ty)) (c8 : cs[8]? = some (.int .i64 k1)) (c9 : cs[9]? = some (.int .i64 x1)) (c10 : cs[10]? = some (.int .u64 b1)) (c11 : cs[11]? = some (.string s1)) (c12 : cs[12]? = some (.slice a1 l1 n1)) (c13 : cs[13]? = some (.int .i64 f1)) (c14 : cs[14]? = some (.int .u64 (pc1 : Int))) (c15 : cs[15]? = some (.int .i64 m1)) (c21 : cs[21]? = some (.bool fb)) (e0 : es[0]? = some (.int .i64 1)) (e1 : es[1]? = some (.int .i64 t)) (e3 : es[3]? = some (.int .i64 d)) (e4 : es[4]? = some (.string q)) (e5 : es[5]? = some (.int .i64 k0)) (e6 : es[6]? = some (.int .i64 x0)) (e7 : es[7]? = some (.int .u64 b0)) (e8 : es[8]? = some (.string s0)) (e9 : es[9]? = some (.slice a0 m0 n0)) (e10 : es[10]? = some (.int .i64 f)) (e11 : es[11]? = some (.int .u64 (pc : Int))) (e12 : es[12]? = some (.int .i64 m)) :
    Calls Tryz.prog 70 #[.pointer (some ⟨B, 0, none⟩), .agg es] w (PuP B cs [(2, .int .i64 (wrap64 (cn + 1))), (3, .int .i64 t), (1, .int .i64 1), (21, .bool true), (7, .string q), (8, .int .i64 k0), (9, .int .i64 x0), (10, .int .u64 b0), (11, .string s0), (12, .slice a0 m0 n0), (4, .int .i64 d), (13, .int .i64 f), (14, .int .u64 (pc : Int)), (15, .int .i64 m)] w) := by
  have g0 : ∀ j, w.cell? ⟨B, j, none⟩ = cs[j]? := fun j => cell_of_row w B j cs 41 (0, 0) hg
  have gf : ∀ o, w.frozen? ⟨B, o, none⟩ = false := fun o => frozen_of_row w B o _ 41 hg
  have hBl : B < w.heap.size := (Array.getElem?_eq_some_iff.1 hg).1
  have f0 : Hid (WrS B w w cs) := ⟨hg, KB.refl _ _⟩
  have HQ : Hid (∀ W, WrS B w W (puts cs [(2, .int .i64 (wrap64 (cn + 1))), (3, .int .i64 t), (1, .int .i64 1), (21, .bool true), (7, .string q), (8, .int .i64 k0), (9, .int .i64 x0), (10, .int .u64 b0), (11, .string s0), (12, .slice a0 m0 n0), (4, .int .i64 d), (13, .int .i64 f), (14, .int .u64 (pc : Int)), (15, .int .i64 m)]) → PuP B cs [(2, .int .i64 (wrap64 (cn + 1))), (3, .int .i64 t), (1, .int .i64 1), (21, .bool true), (7, .string q), (8, .int .i64 k0), (9, .int .i64 x0), (10, .int .u64 b0), (11, .string s0), (12, .slice a0 m0 n0), (4, .int .i64 d), (13, .int .i64 f), (14, .int .u64 (pc : Int)), (15, .int .i64 m)] w (.returned (.tuple #[])) W) := fun W h => pu_mk h
  generalize hps : ([(2, .int .i64 (wrap64 (cn + 1))), (3, .int .i64 t), (1, .int .i64 1), (21, .bool true), (7, .string q), (8, .int .i64 k0), (9, .int .i64 x0), (10, .int .u64 b0), (11, .string s0), (12, .slice a0 m0 n0), (4, .int .i64 d), (13, .int .i64 f), (14, .int .u64 (pc : Int)), (15, .int .i64 m)] : List (Nat × Value)) = ps at HQ ⊢
  have HP : Hid (([(2, .int .i64 (wrap64 (cn + 1))), (3, .int .i64 t), (1, .int .i64 1), (21, .bool true), (7, .string q), (8, .int .i64 k0), (9, .int .i64 x0), (10, .int .u64 b0), (11, .string s0), (12, .slice a0 m0 n0), (4, .int .i64 d), (13, .int .i64 f), (14, .int .u64 (pc : Int)), (15, .int .i64 m)] : List (Nat × Value)) = ps) := hps
  generalize PuP B cs ps w = Q at HQ ⊢
  clear hps hg
  go_enter Tryz.func70, Tryz.ntmps70
  go_wp2_with fail
  have hE : (((((w.setCell ⟨B, 2, none⟩ (.int .i64 (wrap64 (cn + 1)))).setCell ⟨B, 3, none⟩ (.int .i64 t)).setCell ⟨B, 1, none⟩ (.int .i64 1)).setCell ⟨B, 21, none⟩ (.bool true)).alloc (.cells es 54)).heap[w.heap.size]? = some (.cells es 54 (0, 0)) := by
    have := heap_alloc_new ((((w.setCell ⟨B, 2, none⟩ (.int .i64 (wrap64 (cn + 1)))).setCell ⟨B, 3, none⟩ (.int .i64 t)).setCell ⟨B, 1, none⟩ (.int .i64 1)).setCell ⟨B, 21, none⟩ (.bool true)) (.cells es 54)
    simpa [World.setCell] using this
  have fw := ((((f0.out.set 2 (.int .i64 (wrap64 (cn + 1)))).set 3 (.int .i64 t)).set 1 (.int .i64 1)).set 21 (.bool true)).alloc (.cells es 54)
  have z4 : Hid ((((((cs.setIfInBounds 2 (.int .i64 (wrap64 (cn + 1)))).setIfInBounds 3 (.int .i64 t)).setIfInBounds 1 (.int .i64 1)).setIfInBounds 21 (.bool true)) = puts cs [(2, .int .i64 (wrap64 (cn + 1))), (3, .int .i64 t), (1, .int .i64 1), (21, .bool true)])) := rfl
  have y := fun (q : Nat) (h1 : q ≠ 1) (h2 : q ≠ 2) (h3 : q ≠ 3) (h4 : q ≠ 21) => (cell_of_row _ B q _ 41 (0, 0) fw.row).trans (puts_ne (cs := cs) (q := q) (ps := [(2, .int .i64 (wrap64 (cn + 1))), (3, .int .i64 t), (1, .int .i64 1), (21, .bool true)]) (by intro p hp; simp at hp; rcases hp with rfl | rfl | rfl | rfl <;> simp <;> omega))
  have yf : ∀ o, _ = false := fun o => frozen_of_row _ B o _ 41 fw.row
  generalize (((cs.setIfInBounds 2 (.int .i64 (wrap64 (cn + 1)))).setIfInBounds 3 (.int .i64 t)).setIfInBounds 1 (.int .i64 1)).setIfInBounds 21 (.bool true) = cs4 at fw z4
  generalize ((((w.setCell ⟨B, 2, none⟩ (.int .i64 (wrap64 (cn + 1)))).setCell ⟨B, 3, none⟩ (.int .i64 t)).setCell ⟨B, 1, none⟩ (.int .i64 1)).setCell ⟨B, 21, none⟩ (.bool true)).alloc (.cells es 54) = W at hE fw y yf ⊢
  have HFW : Hid (WrS B w W cs4) := fw
  have f4 : Hid (WrS B W W cs4) := ⟨fw.row, KB.refl _ _⟩
  have keepW : Hid (∀ W' cs', WrS B W W' cs' → ∀ j, W'.cell? ⟨w.heap.size, j, none⟩ = es[j]?) := fun W' cs' h j => cell_of_row W' _ j es 54 (0, 0) (row_kb hE h.kb (by omega))
  have y4 := (y 4 (by decide) (by decide) (by decide) (by decide)).trans c4
  have y7 := (y 7 (by decide) (by decide) (by decide) (by decide)).trans c7
  have y8 := (y 8 (by decide) (by decide) (by decide) (by decide)).trans c8
  have y9 := (y 9 (by decide) (by decide) (by decide) (by decide)).trans c9
  have y10 := (y 10 (by decide) (by decide) (by decide) (by decide)).trans c10
  have y11 := (y 11 (by decide) (by decide) (by decide) (by decide)).trans c11
  have y12 := (y 12 (by decide) (by decide) (by decide) (by decide)).trans c12
  have y13 := (y 13 (by decide) (by decide) (by decide) (by decide)).trans c13
  have y14 := (y 14 (by decide) (by decide) (by decide) (by decide)).trans c14
  have y15 := (y 15 (by decide) (by decide) (by decide) (by decide)).trans c15
  clear y fw hE g0 gf c1 c2 c3 c4 c7 c8 c9 c10 c11 c12 c13 c14 c15 c21
  refine wp_region_held_drew (S := (fun w' => ∀ j, w'.cell? ⟨w.heap.size, j, none⟩ = es[j]?)) (by kernel_rfl) (fun j => keepW.out _ _ f4.out j) (fun hHeld => ?_)
  change wpAnyH _ _ _ _ _ _ _ _ (World.drew _)
  refine wpAnyH_take (i := 0) (oi := { dst := some 26, op := Go.Op.move (Go.Operand.tmp 0), type := 113, pos := "step.go:100", after := #[], guard := none }) (v := ?_) rfl (by kernel_rfl) (by kernel_rfl) (by kernel_rfl) (fun _ _ _ h => h) (Or.inl ⟨by rfl, ?_⟩) hHeld ?_
  rotate_left 1
  · (intro w hSw; (try dsimp only at hSw); go_simp <;> with_reducible rfl)
  simp only [Act.put, List.setIfInBounds_toArray, List.set_cons_zero, List.set_cons_succ]
  refine wpAnyH_take (i := 1) (oi := { dst := some 27, op := Go.Op.move (Go.Operand.tmp 0), type := 113, pos := "step.go:100", after := #[{ on := 14, ground := Go.Ground.gcOnly Go.Departure.lateStores }], guard := none }) (v := ?_) rfl (by kernel_rfl) (by kernel_rfl) (by kernel_rfl) (fun _ _ _ h => h) (Or.inl ⟨by rfl, ?_⟩) hHeld ?_
  rotate_left 1
  · (intro w hSw; (try dsimp only at hSw); go_simp <;> with_reducible rfl)
  simp only [Act.put, List.setIfInBounds_toArray, List.set_cons_zero, List.set_cons_succ]
  refine wpAnyH_take (i := 2) (oi := { dst := some 28, op := Go.Op.move (Go.Operand.tmp 0), type := 113, pos := "step.go:100", after := #[{ on := 17, ground := Go.Ground.gcOnly Go.Departure.lateStores }], guard := none }) (v := ?_) rfl (by kernel_rfl) (by kernel_rfl) (by kernel_rfl) (fun _ _ _ h => h) (Or.inl ⟨by rfl, ?_⟩) hHeld ?_
  rotate_left 1
  · (intro w hSw; (try dsimp only at hSw); go_simp <;> with_reducible rfl)
  simp only [Act.put, List.setIfInBounds_toArray, List.set_cons_zero, List.set_cons_succ]
  refine wpAnyH_take (i := 3) (oi := { dst := some 29, op := Go.Op.move (Go.Operand.tmp 0), type := 113, pos := "step.go:100", after := #[{ on := 20, ground := Go.Ground.gcOnly Go.Departure.lateStores }], guard := none }) (v := ?_) rfl (by kernel_rfl) (by kernel_rfl) (by kernel_rfl) (fun _ _ _ h => h) (Or.inl ⟨by rfl, ?_⟩) hHeld ?_
  rotate_left 1
  · (intro w hSw; (try dsimp only at hSw); go_simp <;> with_reducible rfl)
  simp only [Act.put, List.setIfInBounds_toArray, List.set_cons_zero, List.set_cons_succ]
  refine wpAnyH_take (i := 4) (oi := { dst := some 30, op := Go.Op.fieldAddr 54 (Go.Operand.tmp 3) 4, type := 0, pos := "step.go:100", after := #[], guard := none }) (v := ?_) rfl (by kernel_rfl) (by kernel_rfl) (by kernel_rfl) (fun _ _ _ h => h) (Or.inl ⟨by rfl, ?_⟩) hHeld ?_
  rotate_left 1
  · (intro w hSw; (try dsimp only at hSw); go_simp <;> with_reducible rfl)
  simp only [Act.put, List.setIfInBounds_toArray, List.set_cons_zero, List.set_cons_succ]
  refine wpAnyH_take (i := 5) (oi := { dst := some 31, op := Go.Op.load 9 (Go.Operand.tmp 30), type := 9, pos := "step.go:100", after := #[{ on := 4, ground := Go.Ground.data }], guard := none }) (v := ?_) rfl (by kernel_rfl) (by kernel_rfl) (by kernel_rfl) (fun _ _ _ h => h) (Or.inl ⟨by rfl, ?_⟩) hHeld ?_
  rotate_left 1
  · (intro w hSw; (try dsimp only at hSw); go_simp <;> with_reducible rfl)
  simp only [Act.put, List.setIfInBounds_toArray, List.set_cons_zero, List.set_cons_succ]
  refine wpAnyH_take (i := 6) (oi := { dst := some 32, op := Go.Op.fieldAddr 54 (Go.Operand.tmp 3) 5, type := 0, pos := "step.go:100", after := #[{ on := 14, ground := Go.Ground.gcOnly Go.Departure.lateStores }], guard := none }) (v := ?_) rfl (by kernel_rfl) (by kernel_rfl) (by kernel_rfl) (fun _ _ _ h => h) (Or.inl ⟨by rfl, ?_⟩) hHeld ?_
  rotate_left 1
  · (intro w hSw; (try dsimp only at hSw); go_simp <;> with_reducible rfl)
  simp only [Act.put, List.setIfInBounds_toArray, List.set_cons_zero, List.set_cons_succ]
  refine wpAnyH_take (i := 7) (oi := { dst := some 33, op := Go.Op.load 25 (Go.Operand.tmp 32), type := 25, pos := "step.go:100", after := #[{ on := 6, ground := Go.Ground.data }, { on := 14, ground := Go.Ground.gcOnly Go.Departure.lateStores }], guard := none }) (v := ?_) rfl (by kernel_rfl) (by kernel_rfl) (by kernel_rfl) (fun _ _ _ h => h) (Or.inl ⟨by rfl, ?_⟩) hHeld ?_
  rotate_left 1
  · (intro w hSw; (try dsimp only at hSw); go_simp <;> with_reducible rfl)
  simp only [Act.put, List.setIfInBounds_toArray, List.set_cons_zero, List.set_cons_succ]
  refine wpAnyH_take (i := 8) (oi := { dst := some 34, op := Go.Op.fieldAddr 54 (Go.Operand.tmp 3) 3, type := 0, pos := "step.go:100", after := #[{ on := 17, ground := Go.Ground.gcOnly Go.Departure.lateStores }], guard := none }) (v := ?_) rfl (by kernel_rfl) (by kernel_rfl) (by kernel_rfl) (fun _ _ _ h => h) (Or.inl ⟨by rfl, ?_⟩) hHeld ?_
  rotate_left 1
  · (intro w hSw; (try dsimp only at hSw); go_simp <;> with_reducible rfl)
  simp only [Act.put, List.setIfInBounds_toArray, List.set_cons_zero, List.set_cons_succ]
  refine wpAnyH_take (i := 9) (oi := { dst := some 35, op := Go.Op.load 3 (Go.Operand.tmp 34), type := 3, pos := "step.go:100", after := #[{ on := 8, ground := Go.Ground.data }, { on := 17, ground := Go.Ground.gcOnly Go.Departure.lateStores }], guard := none }) (v := ?_) rfl (by kernel_rfl) (by kernel_rfl) (by kernel_rfl) (fun _ _ _ h => h) (Or.inl ⟨by rfl, ?_⟩) hHeld ?_
  rotate_left 1
  · (intro w hSw; (try dsimp only at hSw); go_simp <;> with_reducible rfl)
  simp only [Act.put, List.setIfInBounds_toArray, List.set_cons_zero, List.set_cons_succ]
  refine wpAnyH_take (i := 10) (oi := { dst := some 36, op := Go.Op.fieldAddr 54 (Go.Operand.tmp 3) 6, type := 0, pos := "step.go:100", after := #[{ on := 20, ground := Go.Ground.gcOnly Go.Departure.lateStores }], guard := none }) (v := ?_) rfl (by kernel_rfl) (by kernel_rfl) (by kernel_rfl) (fun _ _ _ h => h) (Or.inl ⟨by rfl, ?_⟩) hHeld ?_
  rotate_left 1
  · (intro w hSw; (try dsimp only at hSw); go_simp <;> with_reducible rfl)
  simp only [Act.put, List.setIfInBounds_toArray, List.set_cons_zero, List.set_cons_succ]
  refine wpAnyH_take (i := 11) (oi := { dst := some 37, op := Go.Op.load 35 (Go.Operand.tmp 36), type := 35, pos := "step.go:100", after := #[{ on := 10, ground := Go.Ground.data }, { on := 20, ground := Go.Ground.gcOnly Go.Departure.lateStores }], guard := none }) (v := ?_) rfl (by kernel_rfl) (by kernel_rfl) (by kernel_rfl) (fun _ _ _ h => h) (Or.inl ⟨by rfl, ?_⟩) hHeld ?_
  rotate_left 1
  · (intro w hSw; (try dsimp only at hSw); go_simp <;> with_reducible rfl)
  simp only [Act.put, List.setIfInBounds_toArray, List.set_cons_zero, List.set_cons_succ]
  refine wpAnyH_take (i := 12) (oi := { dst := some 38, op := Go.Op.nilCheck (Go.Operand.tmp 26), type := 0, pos := "step.go:100", after := #[{ on := 0, ground := Go.Ground.data }, { on := 0, ground := Go.Ground.phase }, { on := 1, ground := Go.Ground.textOnly Go.Departure.lateStores }, { on := 2, ground := Go.Ground.textOnly Go.Departure.lateStores }, { on := 3, ground := Go.Ground.textOnly Go.Departure.lateStores }, { on := 4, ground := Go.Ground.phase }, { on := 5, ground := Go.Ground.phase }, { on := 6, ground := Go.Ground.textOnly Go.Departure.lateStores }, { on := 7, ground := Go.Ground.textOnly Go.Departure.lateStores }, { on := 8, ground := Go.Ground.textOnly Go.Departure.lateStores }, { on := 9, ground := Go.Ground.textOnly Go.Departure.lateStores }, { on := 10, ground := Go.Ground.textOnly Go.Departure.lateStores }, { on := 11, ground := Go.Ground.textOnly Go.Departure.lateStores }], guard := none }) (v := ?_) rfl (by kernel_rfl) (by kernel_rfl) (by kernel_rfl) (fun _ _ _ h => h) (Or.inl ⟨by rfl, ?_⟩) hHeld ?_
  rotate_left 1
  · (intro w hSw; (try dsimp only at hSw); go_simp <;> with_reducible rfl)
  simp only [Act.put, List.setIfInBounds_toArray, List.set_cons_zero, List.set_cons_succ]
  refine wpAnyH_take (i := 13) (oi := { dst := some 39, op := Go.Op.fieldAddr 41 (Go.Operand.tmp 38) 7, type := 0, pos := "step.go:100", after := #[{ on := 12, ground := Go.Ground.data }, { on := 0, ground := Go.Ground.phase }, { on := 1, ground := Go.Ground.textOnly Go.Departure.lateStores }, { on := 2, ground := Go.Ground.textOnly Go.Departure.lateStores }, { on := 3, ground := Go.Ground.textOnly Go.Departure.lateStores }, { on := 4, ground := Go.Ground.phase }, { on := 5, ground := Go.Ground.phase }, { on := 6, ground := Go.Ground.textOnly Go.Departure.lateStores }, { on := 7, ground := Go.Ground.textOnly Go.Departure.lateStores }, { on := 8, ground := Go.Ground.textOnly Go.Departure.lateStores }, { on := 9, ground := Go.Ground.textOnly Go.Departure.lateStores }, { on := 10, ground := Go.Ground.textOnly Go.Departure.lateStores }, { on := 11, ground := Go.Ground.textOnly Go.Departure.lateStores }], guard := none }) (v := ?_) rfl (by kernel_rfl) (by kernel_rfl) (by kernel_rfl) (fun _ _ _ h => h) (Or.inl ⟨by rfl, ?_⟩) hHeld ?_
  rotate_left 1
  · (intro w hSw; (try dsimp only at hSw); go_simp <;> with_reducible rfl)
  simp only [Act.put, List.setIfInBounds_toArray, List.set_cons_zero, List.set_cons_succ]
  refine wpAnyH_ready (rs := [14]) (by kernel_rfl) (by simp) ?_
  refine AllReadyH.cons (o := { dst := none, op := Go.Op.store 9 (Go.Operand.tmp 39) (Go.Operand.tmp 31), type := 0, pos := "step.go:100", after := #[{ on := 13, ground := Go.Ground.data }, { on := 5, ground := Go.Ground.data }, { on := 0, ground := Go.Ground.phase }, { on := 1, ground := Go.Ground.textOnly Go.Departure.lateStores }, { on := 2, ground := Go.Ground.textOnly Go.Departure.lateStores }, { on := 3, ground := Go.Ground.textOnly Go.Departure.lateStores }, { on := 4, ground := Go.Ground.phase }, { on := 5, ground := Go.Ground.phase }, { on := 6, ground := Go.Ground.textOnly Go.Departure.lateStores }, { on := 7, ground := Go.Ground.textOnly Go.Departure.lateStores }, { on := 8, ground := Go.Ground.textOnly Go.Departure.lateStores }, { on := 9, ground := Go.Ground.textOnly Go.Departure.lateStores }, { on := 10, ground := Go.Ground.textOnly Go.Departure.lateStores }, { on := 11, ground := Go.Ground.textOnly Go.Departure.lateStores }], guard := none }) rfl (fun K hK => ?_) AllReadyH.nil
  go_simp
  refine hK.out _ _ (keepW.out _ _ (by with_reducible repeat (first | exact f4.out | apply WrS.set | apply WrS.drew | apply WrS.alloc))) (fun hHeld => ?_)
  clear hK K
  refine wpAnyH_take (i := 15) (oi := { dst := some 40, op := Go.Op.nilCheck (Go.Operand.tmp 27), type := 0, pos := "step.go:100", after := #[{ on := 1, ground := Go.Ground.data }, { on := 0, ground := Go.Ground.phase }, { on := 1, ground := Go.Ground.phase }, { on := 2, ground := Go.Ground.textOnly Go.Departure.lateStores }, { on := 3, ground := Go.Ground.textOnly Go.Departure.lateStores }, { on := 4, ground := Go.Ground.phase }, { on := 5, ground := Go.Ground.phase }, { on := 6, ground := Go.Ground.phase }, { on := 7, ground := Go.Ground.phase }, { on := 8, ground := Go.Ground.textOnly Go.Departure.lateStores }, { on := 9, ground := Go.Ground.textOnly Go.Departure.lateStores }, { on := 10, ground := Go.Ground.textOnly Go.Departure.lateStores }, { on := 11, ground := Go.Ground.textOnly Go.Departure.lateStores }, { on := 12, ground := Go.Ground.phase }, { on := 13, ground := Go.Ground.phase }, { on := 14, ground := Go.Ground.phase }], guard := none }) (v := ?_) rfl (by kernel_rfl) (by kernel_rfl) (by kernel_rfl) (fun _ _ _ h => h) (Or.inl ⟨by rfl, ?_⟩) hHeld ?_
  rotate_left 1
  · (intro w hSw; (try dsimp only at hSw); go_simp <;> with_reducible rfl)
  simp only [Act.put, List.setIfInBounds_toArray, List.set_cons_zero, List.set_cons_succ]
  refine wpAnyH_take (i := 16) (oi := { dst := some 41, op := Go.Op.fieldAddr 41 (Go.Operand.tmp 40) 8, type := 0, pos := "step.go:100", after := #[{ on := 15, ground := Go.Ground.data }, { on := 0, ground := Go.Ground.phase }, { on := 1, ground := Go.Ground.phase }, { on := 2, ground := Go.Ground.textOnly Go.Departure.lateStores }, { on := 3, ground := Go.Ground.textOnly Go.Departure.lateStores }, { on := 4, ground := Go.Ground.phase }, { on := 5, ground := Go.Ground.phase }, { on := 6, ground := Go.Ground.phase }, { on := 7, ground := Go.Ground.phase }, { on := 8, ground := Go.Ground.textOnly Go.Departure.lateStores }, { on := 9, ground := Go.Ground.textOnly Go.Departure.lateStores }, { on := 10, ground := Go.Ground.textOnly Go.Departure.lateStores }, { on := 11, ground := Go.Ground.textOnly Go.Departure.lateStores }, { on := 12, ground := Go.Ground.phase }, { on := 13, ground := Go.Ground.phase }, { on := 14, ground := Go.Ground.phase }], guard := none }) (v := ?_) rfl (by kernel_rfl) (by kernel_rfl) (by kernel_rfl) (fun _ _ _ h => h) (Or.inl ⟨by rfl, ?_⟩) hHeld ?_
  rotate_left 1
  · (intro w hSw; (try dsimp only at hSw); go_simp <;> with_reducible rfl)
  simp only [Act.put, List.setIfInBounds_toArray, List.set_cons_zero, List.set_cons_succ]
  refine wpAnyH_ready (rs := [17]) (by kernel_rfl) (by simp) ?_
  refine AllReadyH.cons (o := { dst := none, op := Go.Op.store 25 (Go.Operand.tmp 41) (Go.Operand.tmp 33), type := 0, pos := "step.go:100", after := #[{ on := 16, ground := Go.Ground.data }, { on := 7, ground := Go.Ground.data }, { on := 14, ground := Go.Ground.chain }, { on := 0, ground := Go.Ground.phase }, { on := 1, ground := Go.Ground.phase }, { on := 2, ground := Go.Ground.textOnly Go.Departure.lateStores }, { on := 3, ground := Go.Ground.textOnly Go.Departure.lateStores }, { on := 4, ground := Go.Ground.phase }, { on := 5, ground := Go.Ground.phase }, { on := 6, ground := Go.Ground.phase }, { on := 7, ground := Go.Ground.phase }, { on := 8, ground := Go.Ground.textOnly Go.Departure.lateStores }, { on := 9, ground := Go.Ground.textOnly Go.Departure.lateStores }, { on := 10, ground := Go.Ground.textOnly Go.Departure.lateStores }, { on := 11, ground := Go.Ground.textOnly Go.Departure.lateStores }, { on := 12, ground := Go.Ground.phase }, { on := 13, ground := Go.Ground.phase }, { on := 14, ground := Go.Ground.phase }], guard := none }) rfl (fun K hK => ?_) AllReadyH.nil
  go_simp
  refine hK.out _ _ (keepW.out _ _ (by with_reducible repeat (first | exact f4.out | apply WrS.set | apply WrS.drew | apply WrS.alloc))) (fun hHeld => ?_)
  clear hK K
  refine wpAnyH_take (i := 18) (oi := { dst := some 42, op := Go.Op.nilCheck (Go.Operand.tmp 28), type := 0, pos := "step.go:100", after := #[{ on := 2, ground := Go.Ground.data }, { on := 0, ground := Go.Ground.phase }, { on := 1, ground := Go.Ground.phase }, { on := 2, ground := Go.Ground.phase }, { on := 3, ground := Go.Ground.textOnly Go.Departure.lateStores }, { on := 4, ground := Go.Ground.phase }, { on := 5, ground := Go.Ground.phase }, { on := 6, ground := Go.Ground.phase }, { on := 7, ground := Go.Ground.phase }, { on := 8, ground := Go.Ground.phase }, { on := 9, ground := Go.Ground.phase }, { on := 10, ground := Go.Ground.textOnly Go.Departure.lateStores }, { on := 11, ground := Go.Ground.textOnly Go.Departure.lateStores }, { on := 12, ground := Go.Ground.phase }, { on := 13, ground := Go.Ground.phase }, { on := 14, ground := Go.Ground.phase }, { on := 15, ground := Go.Ground.phase }, { on := 16, ground := Go.Ground.phase }, { on := 17, ground := Go.Ground.phase }], guard := none }) (v := ?_) rfl (by kernel_rfl) (by kernel_rfl) (by kernel_rfl) (fun _ _ _ h => h) (Or.inl ⟨by rfl, ?_⟩) hHeld ?_
  rotate_left 1
  · (intro w hSw; (try dsimp only at hSw); go_simp <;> with_reducible rfl)
  simp only [Act.put, List.setIfInBounds_toArray, List.set_cons_zero, List.set_cons_succ]
  refine wpAnyH_take (i := 19) (oi := { dst := some 43, op := Go.Op.fieldAddr 41 (Go.Operand.tmp 42) 4, type := 0, pos := "step.go:100", after := #[{ on := 18, ground := Go.Ground.data }, { on := 0, ground := Go.Ground.phase }, { on := 1, ground := Go.Ground.phase }, { on := 2, ground := Go.Ground.phase }, { on := 3, ground := Go.Ground.textOnly Go.Departure.lateStores }, { on := 4, ground := Go.Ground.phase }, { on := 5, ground := Go.Ground.phase }, { on := 6, ground := Go.Ground.phase }, { on := 7, ground := Go.Ground.phase }, { on := 8, ground := Go.Ground.phase }, { on := 9, ground := Go.Ground.phase }, { on := 10, ground := Go.Ground.textOnly Go.Departure.lateStores }, { on := 11, ground := Go.Ground.textOnly Go.Departure.lateStores }, { on := 12, ground := Go.Ground.phase }, { on := 13, ground := Go.Ground.phase }, { on := 14, ground := Go.Ground.phase }, { on := 15, ground := Go.Ground.phase }, { on := 16, ground := Go.Ground.phase }, { on := 17, ground := Go.Ground.phase }], guard := none }) (v := ?_) rfl (by kernel_rfl) (by kernel_rfl) (by kernel_rfl) (fun _ _ _ h => h) (Or.inl ⟨by rfl, ?_⟩) hHeld ?_
  rotate_left 1
  · (intro w hSw; (try dsimp only at hSw); go_simp <;> with_reducible rfl)
  simp only [Act.put, List.setIfInBounds_toArray, List.set_cons_zero, List.set_cons_succ]
  refine wpAnyH_ready (rs := [20]) (by kernel_rfl) (by simp) ?_
  refine AllReadyH.cons (o := { dst := none, op := Go.Op.store 3 (Go.Operand.tmp 43) (Go.Operand.tmp 35), type := 0, pos := "step.go:100", after := #[{ on := 19, ground := Go.Ground.data }, { on := 9, ground := Go.Ground.data }, { on := 17, ground := Go.Ground.chain }, { on := 0, ground := Go.Ground.phase }, { on := 1, ground := Go.Ground.phase }, { on := 2, ground := Go.Ground.phase }, { on := 3, ground := Go.Ground.textOnly Go.Departure.lateStores }, { on := 4, ground := Go.Ground.phase }, { on := 5, ground := Go.Ground.phase }, { on := 6, ground := Go.Ground.phase }, { on := 7, ground := Go.Ground.phase }, { on := 8, ground := Go.Ground.phase }, { on := 9, ground := Go.Ground.phase }, { on := 10, ground := Go.Ground.textOnly Go.Departure.lateStores }, { on := 11, ground := Go.Ground.textOnly Go.Departure.lateStores }, { on := 12, ground := Go.Ground.phase }, { on := 13, ground := Go.Ground.phase }, { on := 14, ground := Go.Ground.phase }, { on := 15, ground := Go.Ground.phase }, { on := 16, ground := Go.Ground.phase }, { on := 17, ground := Go.Ground.phase }], guard := none }) rfl (fun K hK => ?_) AllReadyH.nil
  go_simp
  refine hK.out _ _ (keepW.out _ _ (by with_reducible repeat (first | exact f4.out | apply WrS.set | apply WrS.drew | apply WrS.alloc))) (fun hHeld => ?_)
  clear hK K
  refine wpAnyH_take (i := 21) (oi := { dst := some 44, op := Go.Op.nilCheck (Go.Operand.tmp 29), type := 0, pos := "step.go:100", after := #[{ on := 3, ground := Go.Ground.data }, { on := 0, ground := Go.Ground.phase }, { on := 1, ground := Go.Ground.phase }, { on := 2, ground := Go.Ground.phase }, { on := 3, ground := Go.Ground.phase }, { on := 4, ground := Go.Ground.phase }, { on := 5, ground := Go.Ground.phase }, { on := 6, ground := Go.Ground.phase }, { on := 7, ground := Go.Ground.phase }, { on := 8, ground := Go.Ground.phase }, { on := 9, ground := Go.Ground.phase }, { on := 10, ground := Go.Ground.phase }, { on := 11, ground := Go.Ground.phase }, { on := 12, ground := Go.Ground.phase }, { on := 13, ground := Go.Ground.phase }, { on := 14, ground := Go.Ground.phase }, { on := 15, ground := Go.Ground.phase }, { on := 16, ground := Go.Ground.phase }, { on := 17, ground := Go.Ground.phase }, { on := 18, ground := Go.Ground.phase }, { on := 19, ground := Go.Ground.phase }, { on := 20, ground := Go.Ground.phase }], guard := none }) (v := ?_) rfl (by kernel_rfl) (by kernel_rfl) (by kernel_rfl) (fun _ _ _ h => h) (Or.inl ⟨by rfl, ?_⟩) hHeld ?_
  rotate_left 1
  · (intro w hSw; (try dsimp only at hSw); go_simp <;> with_reducible rfl)
  simp only [Act.put, List.setIfInBounds_toArray, List.set_cons_zero, List.set_cons_succ]
  refine wpAnyH_take (i := 22) (oi := { dst := some 45, op := Go.Op.fieldAddr 41 (Go.Operand.tmp 44) 9, type := 0, pos := "step.go:100", after := #[{ on := 21, ground := Go.Ground.data }, { on := 0, ground := Go.Ground.phase }, { on := 1, ground := Go.Ground.phase }, { on := 2, ground := Go.Ground.phase }, { on := 3, ground := Go.Ground.phase }, { on := 4, ground := Go.Ground.phase }, { on := 5, ground := Go.Ground.phase }, { on := 6, ground := Go.Ground.phase }, { on := 7, ground := Go.Ground.phase }, { on := 8, ground := Go.Ground.phase }, { on := 9, ground := Go.Ground.phase }, { on := 10, ground := Go.Ground.phase }, { on := 11, ground := Go.Ground.phase }, { on := 12, ground := Go.Ground.phase }, { on := 13, ground := Go.Ground.phase }, { on := 14, ground := Go.Ground.phase }, { on := 15, ground := Go.Ground.phase }, { on := 16, ground := Go.Ground.phase }, { on := 17, ground := Go.Ground.phase }, { on := 18, ground := Go.Ground.phase }, { on := 19, ground := Go.Ground.phase }, { on := 20, ground := Go.Ground.phase }], guard := none }) (v := ?_) rfl (by kernel_rfl) (by kernel_rfl) (by kernel_rfl) (fun _ _ _ h => h) (Or.inl ⟨by rfl, ?_⟩) hHeld ?_
  rotate_left 1
  · (intro w hSw; (try dsimp only at hSw); go_simp <;> with_reducible rfl)
  simp only [Act.put, List.setIfInBounds_toArray, List.set_cons_zero, List.set_cons_succ]
  refine wpAnyH_ready (rs := [23]) (by kernel_rfl) (by simp) ?_
  refine AllReadyH.cons (o := { dst := none, op := Go.Op.store 35 (Go.Operand.tmp 45) (Go.Operand.tmp 37), type := 0, pos := "step.go:100", after := #[{ on := 22, ground := Go.Ground.data }, { on := 11, ground := Go.Ground.data }, { on := 20, ground := Go.Ground.chain }, { on := 0, ground := Go.Ground.phase }, { on := 1, ground := Go.Ground.phase }, { on := 2, ground := Go.Ground.phase }, { on := 3, ground := Go.Ground.phase }, { on := 4, ground := Go.Ground.phase }, { on := 5, ground := Go.Ground.phase }, { on := 6, ground := Go.Ground.phase }, { on := 7, ground := Go.Ground.phase }, { on := 8, ground := Go.Ground.phase }, { on := 9, ground := Go.Ground.phase }, { on := 10, ground := Go.Ground.phase }, { on := 11, ground := Go.Ground.phase }, { on := 12, ground := Go.Ground.phase }, { on := 13, ground := Go.Ground.phase }, { on := 14, ground := Go.Ground.phase }, { on := 15, ground := Go.Ground.phase }, { on := 16, ground := Go.Ground.phase }, { on := 17, ground := Go.Ground.phase }, { on := 18, ground := Go.Ground.phase }, { on := 19, ground := Go.Ground.phase }, { on := 20, ground := Go.Ground.phase }], guard := none }) rfl (fun K hK => ?_) AllReadyH.nil
  go_simp
  refine hK.out _ _ (keepW.out _ _ (by with_reducible repeat (first | exact f4.out | apply WrS.set | apply WrS.drew | apply WrS.alloc))) (fun hHeld => ?_)
  clear hK K
  refine wpAnyH_done (by kernel_rfl) ?_ _
  go_wp2_with fail
  go_end0
  refine HQ.out _ ?_
  rw [← HP.out]
  rw [show ([(2, .int .i64 (wrap64 (cn + 1))), (3, .int .i64 t), (1, .int .i64 1), (21, .bool true), (7, .string q), (8, .int .i64 k0), (9, .int .i64 x0), (10, .int .u64 b0), (11, .string s0), (12, .slice a0 m0 n0), (4, .int .i64 d), (13, .int .i64 f), (14, .int .u64 (pc : Int)), (15, .int .i64 m)] : List (Nat × Value)) = [(2, .int .i64 (wrap64 (cn + 1))), (3, .int .i64 t), (1, .int .i64 1), (21, .bool true)] ++ [(7, .string q), (8, .int .i64 k0), (9, .int .i64 x0), (10, .int .u64 b0), (11, .string s0), (12, .slice a0 m0 n0), (4, .int .i64 d), (13, .int .i64 f), (14, .int .u64 (pc : Int)), (15, .int .i64 m)] from rfl, puts_app, ← z4.out]
  refine HFW.out.trans ?_
  simp only [puts, List.foldl]
  repeat (with_reducible first | exact f4.out | apply WrS.set | apply WrS.drew | apply WrS.alloc)
end Go.Proofs.YtcdhlklmnnmpoaaGreat
namespace Go.Proofs.YtcdhlklmnnmpoaaGreat
open Go.ChangeShapes Go.WideShapes Go.ChangeAt Go.RowKit
/-- What an event of kind 1 makes. -/
def ch1 (s : Sta) (x : Ev) : Sta := { s with count := wrap64 (s.count + 1), time := x.t, status := 1, fresh := true, typ := x.s, inp := x.v, dl := x.d, pf := x.f, pc := x.c, pm := x.m }
/-- What an event of kind 2 makes. -/
def ch2 (s : Sta) (x : Ev) : Sta := { s with count := wrap64 (s.count + 1), time := x.t, ts := 1, ta := x.n, td := x.d, te := 0, tn := 0 }
/-- What an event of kind 3 makes. -/
def ch3 (s : Sta) (x : Ev) : Sta := { s with count := wrap64 (s.count + 1), time := x.t, ts := 2, td := x.d, te := wrap64 (s.count + 1), tn := wrap64 (s.count + 1), fresh := false }
/-- What an event of kind 4 makes. -/
def ch4 (s : Sta) (x : Ev) : Sta := { s with count := wrap64 (s.count + 1), time := x.t, ts := 0, ta := 0, td := 0, te := 0, tn := 0 }
/-- What an event of kind 5 makes. -/
def ch5 (s : Sta) (x : Ev) : Sta := { s with count := wrap64 (s.count + 1), time := x.t, ts := 0, ta := 0, td := 0, te := 0, tn := 0, fr := x.n }
/-- What an event of kind 7 makes. -/
def ch7 (s : Sta) (x : Ev) : Sta := { s with count := wrap64 (s.count + 1), time := x.t, sig := wrap64 (s.sig + 1), fresh := true }
/-- What an event of kind 8 makes. -/
def ch8 (s : Sta) (x : Ev) : Sta := { s with count := wrap64 (s.count + 1), time := x.t, cancel := true, fresh := true }
/-- What an event of kind 9 makes. -/
def ch9 (s : Sta) (x : Ev) : Sta := { s with count := wrap64 (s.count + 1), time := x.t, tm := insL (fun d => gtS d.s x.s) s.tm ⟨x.s, x.d⟩ }
/-- What an event of kind 10 makes. -/
def ch10 (s : Sta) (x : Ev) : Sta := { s with count := wrap64 (s.count + 1), time := x.t, tm := delL s.tm (tmAt s x.s).toNat, fresh := true }
/-- What an event of kind 11 makes. -/
def ch11 (s : Sta) (x : Ev) : Sta := { s with count := wrap64 (s.count + 1), time := x.t, tm := delL s.tm (tmAt s x.s).toNat }
/-- What an event of kind 12 makes. -/
def ch12 (s : Sta) (x : Ev) : Sta := { s with count := wrap64 (s.count + 1), time := x.t, up := insL (fun d => gtS d.s x.s) s.up ⟨x.s, x.v, 1, zE⟩ }
/-- What an event of kind 13 makes. -/
def ch13 (s : Sta) (x : Ev) : Sta := { s with count := wrap64 (s.count + 1), time := x.t, up := s.up.modify (waAt s x.s).toNat (fun u => { u with g := 2, o := x.v }) }
/-- What an event of kind 14 makes. -/
def ch14 (s : Sta) (x : Ev) : Sta := { s with count := wrap64 (s.count + 1), time := x.t }
/-- What an event of kind 15 makes. -/
def ch15 (s : Sta) (x : Ev) : Sta := { s with count := wrap64 (s.count + 1), time := x.t, ts := 0, ta := 0, td := 0, te := 0, tn := 0, tm := [], status := 2, res := x.v }
/-- What an event of kind 16 makes. -/
def ch16 (s : Sta) (x : Ev) : Sta := { s with count := wrap64 (s.count + 1), time := x.t, ts := 0, ta := 0, td := 0, te := 0, tn := 0, tm := [], status := 3, rea := x.s }
/-- What an event of kind 17 makes. -/
def ch17 (s : Sta) (x : Ev) : Sta := { s with count := wrap64 (s.count + 1), time := x.t, ts := 0, ta := 0, td := 0, te := 0, tn := 0, tm := [], status := 4 }
/-- What an event of kind 18 makes. -/
def ch18 (s : Sta) (x : Ev) : Sta := { s with count := wrap64 (s.count + 1), time := x.t, ts := 0, ta := 0, td := 0, te := 0, tn := 0, tm := [], status := 5, rea := x.s }
/-- What an event of kind 19 makes. -/
def ch19 (s : Sta) (x : Ev) : Sta := { s with count := wrap64 (s.count + 1), time := x.t, ts := 0, ta := 0, td := 0, te := 0, tn := 0, tm := [], status := 6 }
/-- What an event makes of a state. -/
def chg (s : Sta) (x : Ev) : Sta :=
  if x.k = 1 then ch1 s x else if x.k = 2 then ch2 s x else if x.k = 3 then ch3 s x else if x.k = 4 ∨ x.k = 5 ∨ x.k = 6 then (if 0 < x.n then ch5 s x else ch4 s x) else if x.k = 7 then ch7 s x else if x.k = 8 then ch8 s x
  else if x.k = 9 then ch9 s x else if x.k = 10 then ch10 s x else if x.k = 11 then ch11 s x else if x.k = 12 then ch12 s x else if x.k = 13 then ch13 s x else if x.k = 15 then ch15 s x else if x.k = 16 then ch16 s x
  else if x.k = 17 then ch17 s x else if x.k = 18 then ch18 s x else if x.k = 19 then ch19 s x else ch14 s x
theorem chg_from (s : Sta) (x : Ev) (h : x.k = 4 ∨ x.k = 5 ∨ x.k = 6) : chg s x = if 0 < x.n then ch5 s x else ch4 s x := by
  unfold chg
  rw [if_neg (by omega), if_neg (by omega), if_neg (by omega), if_pos h]
theorem chg_1 (s : Sta) (x : Ev) (h : x.k = 1) : chg s x = ch1 s x := by simp [chg, h]
theorem chg_2 (s : Sta) (x : Ev) (h : x.k = 2) : chg s x = ch2 s x := by simp [chg, h]
theorem chg_3 (s : Sta) (x : Ev) (h : x.k = 3) : chg s x = ch3 s x := by simp [chg, h]
theorem chg_7 (s : Sta) (x : Ev) (h : x.k = 7) : chg s x = ch7 s x := by simp [chg, h]
theorem chg_8 (s : Sta) (x : Ev) (h : x.k = 8) : chg s x = ch8 s x := by simp [chg, h]
theorem chg_9 (s : Sta) (x : Ev) (h : x.k = 9) : chg s x = ch9 s x := by simp [chg, h]
theorem chg_10 (s : Sta) (x : Ev) (h : x.k = 10) : chg s x = ch10 s x := by simp [chg, h]
theorem chg_11 (s : Sta) (x : Ev) (h : x.k = 11) : chg s x = ch11 s x := by simp [chg, h]
theorem chg_12 (s : Sta) (x : Ev) (h : x.k = 12) : chg s x = ch12 s x := by simp [chg, h]
theorem chg_13 (s : Sta) (x : Ev) (h : x.k = 13) : chg s x = ch13 s x := by simp [chg, h]
theorem chg_14 (s : Sta) (x : Ev) (h : x.k = 14) : chg s x = ch14 s x := by simp [chg, h]
theorem chg_15 (s : Sta) (x : Ev) (h : x.k = 15) : chg s x = ch15 s x := by simp [chg, h]
theorem chg_16 (s : Sta) (x : Ev) (h : x.k = 16) : chg s x = ch16 s x := by simp [chg, h]
theorem chg_17 (s : Sta) (x : Ev) (h : x.k = 17) : chg s x = ch17 s x := by simp [chg, h]
theorem chg_18 (s : Sta) (x : Ev) (h : x.k = 18) : chg s x = ch18 s x := by simp [chg, h]
theorem chg_19 (s : Sta) (x : Ev) (h : x.k = 19) : chg s x = ch19 s x := by simp [chg, h]
theorem ig1 {R R' : Value → Tv → Prop} {cs : Array Value} {s : Sta} (x : Ev) {k0 x0 b0 : Int} {s0 : ByteArray} {a0 : Option Addr} {m0 n0 : Nat} (hv : R' (.agg #[.int .i64 k0, .int .i64 x0, .int .u64 b0, .string s0, .slice a0 m0 n0]) x.v) (h : Ig R cs s) (hR : ∀ v t, R v t → R' v t) : Ig R' (puts cs [(2, .int .i64 (wrap64 (s.count + 1))), (3, .int .i64 x.t), (1, .int .i64 1), (21, .bool true), (7, .string x.s), (8, .int .i64 k0), (9, .int .i64 x0), (10, .int .u64 b0), (11, .string s0), (12, .slice a0 m0 n0), (4, .int .i64 x.d), (13, .int .i64 x.f), (14, .int .u64 (x.c : Int)), (15, .int .i64 x.m)]) (ch1 s x) :=
  { size := by rw [puts_size]; exact h.size, c0 := (puts_ne (by simp)).trans h.c0, c1 := by simp [puts, ch1, h.size], c2 := by simp [puts, ch1, h.size], c3 := by simp [puts, ch1, h.size], c4 := by simp [puts, ch1, h.size], c5 := (puts_ne (by simp)).trans h.c5, c6 := (puts_ne (by simp)).trans h.c6, c7 := by simp [puts, ch1, h.size], c13 := by simp [puts, ch1, h.size], c14 := by simp [puts, ch1, h.size], c15 := by simp [puts, ch1, h.size], c16 := (puts_ne (by simp)).trans h.c16, c17 := (puts_ne (by simp)).trans h.c17, c18 := (puts_ne (by simp)).trans h.c18, c19 := (puts_ne (by simp)).trans h.c19, c20 := (puts_ne (by simp)).trans h.c20, c21 := by simp [puts, ch1, h.size], c22 := (puts_ne (by simp)).trans h.c22, c30 := (puts_ne (by simp)).trans h.c30, inp := ⟨k0, x0, b0, s0, a0, m0, n0, by simp [puts, h.size], by simp [puts, h.size], by simp [puts, h.size], by simp [puts, h.size], by simp [puts, h.size], hv⟩, res := (h.res.map fun v => hR v _).other fun q h1 h2 => puts_ne (by simp; omega) }
theorem ig2 {R R' : Value → Tv → Prop} {cs : Array Value} {s : Sta} (x : Ev) (h : Ig R cs s) (hR : ∀ v t, R v t → R' v t) : Ig R' (puts cs [(2, .int .i64 (wrap64 (s.count + 1))), (3, .int .i64 x.t), (16, .int .i64 1), (17, .int .i64 x.n), (18, .int .i64 x.d), (19, .int .i64 0), (20, .int .i64 0)]) (ch2 s x) :=
  { size := by rw [puts_size]; exact h.size, c0 := (puts_ne (by simp)).trans h.c0, c1 := (puts_ne (by simp)).trans h.c1, c2 := by simp [puts, ch2, h.size], c3 := by simp [puts, ch2, h.size], c4 := (puts_ne (by simp)).trans h.c4, c5 := (puts_ne (by simp)).trans h.c5, c6 := (puts_ne (by simp)).trans h.c6, c7 := (puts_ne (by simp)).trans h.c7, c13 := (puts_ne (by simp)).trans h.c13, c14 := (puts_ne (by simp)).trans h.c14, c15 := (puts_ne (by simp)).trans h.c15, c16 := by simp [puts, ch2, h.size], c17 := by simp [puts, ch2, h.size], c18 := by simp [puts, ch2, h.size], c19 := by simp [puts, ch2, h.size], c20 := by simp [puts, ch2, h.size], c21 := (puts_ne (by simp)).trans h.c21, c22 := (puts_ne (by simp)).trans h.c22, c30 := (puts_ne (by simp)).trans h.c30, inp := (h.inp.map fun v => hR v _).other fun q h1 h2 => puts_ne (by simp; omega), res := (h.res.map fun v => hR v _).other fun q h1 h2 => puts_ne (by simp; omega) }
theorem ig3 {R R' : Value → Tv → Prop} {cs : Array Value} {s : Sta} (x : Ev) (h : Ig R cs s) (hR : ∀ v t, R v t → R' v t) : Ig R' (puts cs [(2, .int .i64 (wrap64 (s.count + 1))), (3, .int .i64 x.t), (16, .int .i64 2), (17, .int .i64 s.ta), (18, .int .i64 x.d), (19, .int .i64 (wrap64 (s.count + 1))), (20, .int .i64 (wrap64 (s.count + 1))), (21, .bool false)]) (ch3 s x) :=
  { size := by rw [puts_size]; exact h.size, c0 := (puts_ne (by simp)).trans h.c0, c1 := (puts_ne (by simp)).trans h.c1, c2 := by simp [puts, ch3, h.size], c3 := by simp [puts, ch3, h.size], c4 := (puts_ne (by simp)).trans h.c4, c5 := (puts_ne (by simp)).trans h.c5, c6 := (puts_ne (by simp)).trans h.c6, c7 := (puts_ne (by simp)).trans h.c7, c13 := (puts_ne (by simp)).trans h.c13, c14 := (puts_ne (by simp)).trans h.c14, c15 := (puts_ne (by simp)).trans h.c15, c16 := by simp [puts, ch3, h.size], c17 := by simp [puts, ch3, h.size], c18 := by simp [puts, ch3, h.size], c19 := by simp [puts, ch3, h.size], c20 := by simp [puts, ch3, h.size], c21 := by simp [puts, ch3, h.size], c22 := (puts_ne (by simp)).trans h.c22, c30 := (puts_ne (by simp)).trans h.c30, inp := (h.inp.map fun v => hR v _).other fun q h1 h2 => puts_ne (by simp; omega), res := (h.res.map fun v => hR v _).other fun q h1 h2 => puts_ne (by simp; omega) }
theorem ig4 {R R' : Value → Tv → Prop} {cs : Array Value} {s : Sta} (x : Ev) (h : Ig R cs s) (hR : ∀ v t, R v t → R' v t) : Ig R' (puts cs [(2, .int .i64 (wrap64 (s.count + 1))), (3, .int .i64 x.t), (16, .int .i64 0), (17, .int .i64 0), (18, .int .i64 0), (19, .int .i64 0), (20, .int .i64 0)]) (ch4 s x) :=
  { size := by rw [puts_size]; exact h.size, c0 := (puts_ne (by simp)).trans h.c0, c1 := (puts_ne (by simp)).trans h.c1, c2 := by simp [puts, ch4, h.size], c3 := by simp [puts, ch4, h.size], c4 := (puts_ne (by simp)).trans h.c4, c5 := (puts_ne (by simp)).trans h.c5, c6 := (puts_ne (by simp)).trans h.c6, c7 := (puts_ne (by simp)).trans h.c7, c13 := (puts_ne (by simp)).trans h.c13, c14 := (puts_ne (by simp)).trans h.c14, c15 := (puts_ne (by simp)).trans h.c15, c16 := by simp [puts, ch4, h.size], c17 := by simp [puts, ch4, h.size], c18 := by simp [puts, ch4, h.size], c19 := by simp [puts, ch4, h.size], c20 := by simp [puts, ch4, h.size], c21 := (puts_ne (by simp)).trans h.c21, c22 := (puts_ne (by simp)).trans h.c22, c30 := (puts_ne (by simp)).trans h.c30, inp := (h.inp.map fun v => hR v _).other fun q h1 h2 => puts_ne (by simp; omega), res := (h.res.map fun v => hR v _).other fun q h1 h2 => puts_ne (by simp; omega) }
theorem ig5 {R R' : Value → Tv → Prop} {cs : Array Value} {s : Sta} (x : Ev) (h : Ig R cs s) (hR : ∀ v t, R v t → R' v t) : Ig R' (puts cs [(2, .int .i64 (wrap64 (s.count + 1))), (3, .int .i64 x.t), (16, .int .i64 0), (17, .int .i64 0), (18, .int .i64 0), (19, .int .i64 0), (20, .int .i64 0), (5, .int .i64 x.n)]) (ch5 s x) :=
  { size := by rw [puts_size]; exact h.size, c0 := (puts_ne (by simp)).trans h.c0, c1 := (puts_ne (by simp)).trans h.c1, c2 := by simp [puts, ch5, h.size], c3 := by simp [puts, ch5, h.size], c4 := (puts_ne (by simp)).trans h.c4, c5 := by simp [puts, ch5, h.size], c6 := (puts_ne (by simp)).trans h.c6, c7 := (puts_ne (by simp)).trans h.c7, c13 := (puts_ne (by simp)).trans h.c13, c14 := (puts_ne (by simp)).trans h.c14, c15 := (puts_ne (by simp)).trans h.c15, c16 := by simp [puts, ch5, h.size], c17 := by simp [puts, ch5, h.size], c18 := by simp [puts, ch5, h.size], c19 := by simp [puts, ch5, h.size], c20 := by simp [puts, ch5, h.size], c21 := (puts_ne (by simp)).trans h.c21, c22 := (puts_ne (by simp)).trans h.c22, c30 := (puts_ne (by simp)).trans h.c30, inp := (h.inp.map fun v => hR v _).other fun q h1 h2 => puts_ne (by simp; omega), res := (h.res.map fun v => hR v _).other fun q h1 h2 => puts_ne (by simp; omega) }
theorem ig7 {R R' : Value → Tv → Prop} {cs : Array Value} {s : Sta} (x : Ev) (h : Ig R cs s) (hR : ∀ v t, R v t → R' v t) : Ig R' (puts cs [(2, .int .i64 (wrap64 (s.count + 1))), (3, .int .i64 x.t), (6, .int .i64 (wrap64 (s.sig + 1))), (21, .bool true)]) (ch7 s x) :=
  { size := by rw [puts_size]; exact h.size, c0 := (puts_ne (by simp)).trans h.c0, c1 := (puts_ne (by simp)).trans h.c1, c2 := by simp [puts, ch7, h.size], c3 := by simp [puts, ch7, h.size], c4 := (puts_ne (by simp)).trans h.c4, c5 := (puts_ne (by simp)).trans h.c5, c6 := by simp [puts, ch7, h.size], c7 := (puts_ne (by simp)).trans h.c7, c13 := (puts_ne (by simp)).trans h.c13, c14 := (puts_ne (by simp)).trans h.c14, c15 := (puts_ne (by simp)).trans h.c15, c16 := (puts_ne (by simp)).trans h.c16, c17 := (puts_ne (by simp)).trans h.c17, c18 := (puts_ne (by simp)).trans h.c18, c19 := (puts_ne (by simp)).trans h.c19, c20 := (puts_ne (by simp)).trans h.c20, c21 := by simp [puts, ch7, h.size], c22 := (puts_ne (by simp)).trans h.c22, c30 := (puts_ne (by simp)).trans h.c30, inp := (h.inp.map fun v => hR v _).other fun q h1 h2 => puts_ne (by simp; omega), res := (h.res.map fun v => hR v _).other fun q h1 h2 => puts_ne (by simp; omega) }
theorem ig8 {R R' : Value → Tv → Prop} {cs : Array Value} {s : Sta} (x : Ev) (h : Ig R cs s) (hR : ∀ v t, R v t → R' v t) : Ig R' (puts cs [(2, .int .i64 (wrap64 (s.count + 1))), (3, .int .i64 x.t), (22, .bool true), (21, .bool true)]) (ch8 s x) :=
  { size := by rw [puts_size]; exact h.size, c0 := (puts_ne (by simp)).trans h.c0, c1 := (puts_ne (by simp)).trans h.c1, c2 := by simp [puts, ch8, h.size], c3 := by simp [puts, ch8, h.size], c4 := (puts_ne (by simp)).trans h.c4, c5 := (puts_ne (by simp)).trans h.c5, c6 := (puts_ne (by simp)).trans h.c6, c7 := (puts_ne (by simp)).trans h.c7, c13 := (puts_ne (by simp)).trans h.c13, c14 := (puts_ne (by simp)).trans h.c14, c15 := (puts_ne (by simp)).trans h.c15, c16 := (puts_ne (by simp)).trans h.c16, c17 := (puts_ne (by simp)).trans h.c17, c18 := (puts_ne (by simp)).trans h.c18, c19 := (puts_ne (by simp)).trans h.c19, c20 := (puts_ne (by simp)).trans h.c20, c21 := by simp [puts, ch8, h.size], c22 := by simp [puts, ch8, h.size], c30 := (puts_ne (by simp)).trans h.c30, inp := (h.inp.map fun v => hR v _).other fun q h1 h2 => puts_ne (by simp; omega), res := (h.res.map fun v => hR v _).other fun q h1 h2 => puts_ne (by simp; omega) }
theorem ig9 {R R' : Value → Tv → Prop} {cs : Array Value} {s : Sta} (x : Ev) (v : Value) (h : Ig R cs s) (hR : ∀ v t, R v t → R' v t) : Ig R' (puts cs [(2, .int .i64 (wrap64 (s.count + 1))), (3, .int .i64 x.t), (23, v)]) (ch9 s x) :=
  { size := by rw [puts_size]; exact h.size, c0 := (puts_ne (by simp)).trans h.c0, c1 := (puts_ne (by simp)).trans h.c1, c2 := by simp [puts, ch9, h.size], c3 := by simp [puts, ch9, h.size], c4 := (puts_ne (by simp)).trans h.c4, c5 := (puts_ne (by simp)).trans h.c5, c6 := (puts_ne (by simp)).trans h.c6, c7 := (puts_ne (by simp)).trans h.c7, c13 := (puts_ne (by simp)).trans h.c13, c14 := (puts_ne (by simp)).trans h.c14, c15 := (puts_ne (by simp)).trans h.c15, c16 := (puts_ne (by simp)).trans h.c16, c17 := (puts_ne (by simp)).trans h.c17, c18 := (puts_ne (by simp)).trans h.c18, c19 := (puts_ne (by simp)).trans h.c19, c20 := (puts_ne (by simp)).trans h.c20, c21 := (puts_ne (by simp)).trans h.c21, c22 := (puts_ne (by simp)).trans h.c22, c30 := (puts_ne (by simp)).trans h.c30, inp := (h.inp.map fun v => hR v _).other fun q h1 h2 => puts_ne (by simp; omega), res := (h.res.map fun v => hR v _).other fun q h1 h2 => puts_ne (by simp; omega) }
theorem ig10 {R R' : Value → Tv → Prop} {cs : Array Value} {s : Sta} (x : Ev) (v : Value) (h : Ig R cs s) (hR : ∀ v t, R v t → R' v t) : Ig R' (puts cs [(2, .int .i64 (wrap64 (s.count + 1))), (3, .int .i64 x.t), (23, v), (21, .bool true)]) (ch10 s x) :=
  { size := by rw [puts_size]; exact h.size, c0 := (puts_ne (by simp)).trans h.c0, c1 := (puts_ne (by simp)).trans h.c1, c2 := by simp [puts, ch10, h.size], c3 := by simp [puts, ch10, h.size], c4 := (puts_ne (by simp)).trans h.c4, c5 := (puts_ne (by simp)).trans h.c5, c6 := (puts_ne (by simp)).trans h.c6, c7 := (puts_ne (by simp)).trans h.c7, c13 := (puts_ne (by simp)).trans h.c13, c14 := (puts_ne (by simp)).trans h.c14, c15 := (puts_ne (by simp)).trans h.c15, c16 := (puts_ne (by simp)).trans h.c16, c17 := (puts_ne (by simp)).trans h.c17, c18 := (puts_ne (by simp)).trans h.c18, c19 := (puts_ne (by simp)).trans h.c19, c20 := (puts_ne (by simp)).trans h.c20, c21 := by simp [puts, ch10, h.size], c22 := (puts_ne (by simp)).trans h.c22, c30 := (puts_ne (by simp)).trans h.c30, inp := (h.inp.map fun v => hR v _).other fun q h1 h2 => puts_ne (by simp; omega), res := (h.res.map fun v => hR v _).other fun q h1 h2 => puts_ne (by simp; omega) }
theorem ig11 {R R' : Value → Tv → Prop} {cs : Array Value} {s : Sta} (x : Ev) (v : Value) (h : Ig R cs s) (hR : ∀ v t, R v t → R' v t) : Ig R' (puts cs [(2, .int .i64 (wrap64 (s.count + 1))), (3, .int .i64 x.t), (23, v)]) (ch11 s x) :=
  { size := by rw [puts_size]; exact h.size, c0 := (puts_ne (by simp)).trans h.c0, c1 := (puts_ne (by simp)).trans h.c1, c2 := by simp [puts, ch11, h.size], c3 := by simp [puts, ch11, h.size], c4 := (puts_ne (by simp)).trans h.c4, c5 := (puts_ne (by simp)).trans h.c5, c6 := (puts_ne (by simp)).trans h.c6, c7 := (puts_ne (by simp)).trans h.c7, c13 := (puts_ne (by simp)).trans h.c13, c14 := (puts_ne (by simp)).trans h.c14, c15 := (puts_ne (by simp)).trans h.c15, c16 := (puts_ne (by simp)).trans h.c16, c17 := (puts_ne (by simp)).trans h.c17, c18 := (puts_ne (by simp)).trans h.c18, c19 := (puts_ne (by simp)).trans h.c19, c20 := (puts_ne (by simp)).trans h.c20, c21 := (puts_ne (by simp)).trans h.c21, c22 := (puts_ne (by simp)).trans h.c22, c30 := (puts_ne (by simp)).trans h.c30, inp := (h.inp.map fun v => hR v _).other fun q h1 h2 => puts_ne (by simp; omega), res := (h.res.map fun v => hR v _).other fun q h1 h2 => puts_ne (by simp; omega) }
theorem ig12 {R R' : Value → Tv → Prop} {cs : Array Value} {s : Sta} (x : Ev) (v : Value) (h : Ig R cs s) (hR : ∀ v t, R v t → R' v t) : Ig R' (puts cs [(2, .int .i64 (wrap64 (s.count + 1))), (3, .int .i64 x.t), (24, v)]) (ch12 s x) :=
  { size := by rw [puts_size]; exact h.size, c0 := (puts_ne (by simp)).trans h.c0, c1 := (puts_ne (by simp)).trans h.c1, c2 := by simp [puts, ch12, h.size], c3 := by simp [puts, ch12, h.size], c4 := (puts_ne (by simp)).trans h.c4, c5 := (puts_ne (by simp)).trans h.c5, c6 := (puts_ne (by simp)).trans h.c6, c7 := (puts_ne (by simp)).trans h.c7, c13 := (puts_ne (by simp)).trans h.c13, c14 := (puts_ne (by simp)).trans h.c14, c15 := (puts_ne (by simp)).trans h.c15, c16 := (puts_ne (by simp)).trans h.c16, c17 := (puts_ne (by simp)).trans h.c17, c18 := (puts_ne (by simp)).trans h.c18, c19 := (puts_ne (by simp)).trans h.c19, c20 := (puts_ne (by simp)).trans h.c20, c21 := (puts_ne (by simp)).trans h.c21, c22 := (puts_ne (by simp)).trans h.c22, c30 := (puts_ne (by simp)).trans h.c30, inp := (h.inp.map fun v => hR v _).other fun q h1 h2 => puts_ne (by simp; omega), res := (h.res.map fun v => hR v _).other fun q h1 h2 => puts_ne (by simp; omega) }
theorem ig13 {R R' : Value → Tv → Prop} {cs : Array Value} {s : Sta} (x : Ev) (h : Ig R cs s) (hR : ∀ v t, R v t → R' v t) : Ig R' (puts cs [(2, .int .i64 (wrap64 (s.count + 1))), (3, .int .i64 x.t)]) (ch13 s x) :=
  { size := by rw [puts_size]; exact h.size, c0 := (puts_ne (by simp)).trans h.c0, c1 := (puts_ne (by simp)).trans h.c1, c2 := by simp [puts, ch13, h.size], c3 := by simp [puts, ch13, h.size], c4 := (puts_ne (by simp)).trans h.c4, c5 := (puts_ne (by simp)).trans h.c5, c6 := (puts_ne (by simp)).trans h.c6, c7 := (puts_ne (by simp)).trans h.c7, c13 := (puts_ne (by simp)).trans h.c13, c14 := (puts_ne (by simp)).trans h.c14, c15 := (puts_ne (by simp)).trans h.c15, c16 := (puts_ne (by simp)).trans h.c16, c17 := (puts_ne (by simp)).trans h.c17, c18 := (puts_ne (by simp)).trans h.c18, c19 := (puts_ne (by simp)).trans h.c19, c20 := (puts_ne (by simp)).trans h.c20, c21 := (puts_ne (by simp)).trans h.c21, c22 := (puts_ne (by simp)).trans h.c22, c30 := (puts_ne (by simp)).trans h.c30, inp := (h.inp.map fun v => hR v _).other fun q h1 h2 => puts_ne (by simp; omega), res := (h.res.map fun v => hR v _).other fun q h1 h2 => puts_ne (by simp; omega) }
theorem ig14 {R R' : Value → Tv → Prop} {cs : Array Value} {s : Sta} (x : Ev) (h : Ig R cs s) (hR : ∀ v t, R v t → R' v t) : Ig R' (puts cs [(2, .int .i64 (wrap64 (s.count + 1))), (3, .int .i64 x.t)]) (ch14 s x) :=
  { size := by rw [puts_size]; exact h.size, c0 := (puts_ne (by simp)).trans h.c0, c1 := (puts_ne (by simp)).trans h.c1, c2 := by simp [puts, ch14, h.size], c3 := by simp [puts, ch14, h.size], c4 := (puts_ne (by simp)).trans h.c4, c5 := (puts_ne (by simp)).trans h.c5, c6 := (puts_ne (by simp)).trans h.c6, c7 := (puts_ne (by simp)).trans h.c7, c13 := (puts_ne (by simp)).trans h.c13, c14 := (puts_ne (by simp)).trans h.c14, c15 := (puts_ne (by simp)).trans h.c15, c16 := (puts_ne (by simp)).trans h.c16, c17 := (puts_ne (by simp)).trans h.c17, c18 := (puts_ne (by simp)).trans h.c18, c19 := (puts_ne (by simp)).trans h.c19, c20 := (puts_ne (by simp)).trans h.c20, c21 := (puts_ne (by simp)).trans h.c21, c22 := (puts_ne (by simp)).trans h.c22, c30 := (puts_ne (by simp)).trans h.c30, inp := (h.inp.map fun v => hR v _).other fun q h1 h2 => puts_ne (by simp; omega), res := (h.res.map fun v => hR v _).other fun q h1 h2 => puts_ne (by simp; omega) }
theorem ig15 {R R' : Value → Tv → Prop} {cs : Array Value} {s : Sta} (x : Ev) {k0 x0 b0 : Int} {s0 : ByteArray} {a0 : Option Addr} {m0 n0 : Nat} (hv : R' (.agg #[.int .i64 k0, .int .i64 x0, .int .u64 b0, .string s0, .slice a0 m0 n0]) x.v) (h : Ig R cs s) (hR : ∀ v t, R v t → R' v t) : Ig R' (puts cs [(2, .int .i64 (wrap64 (s.count + 1))), (3, .int .i64 x.t), (16, .int .i64 0), (17, .int .i64 0), (18, .int .i64 0), (19, .int .i64 0), (20, .int .i64 0), (23, .slice none 0 0), (1, .int .i64 2), (25, .int .i64 k0), (26, .int .i64 x0), (27, .int .u64 b0), (28, .string s0), (29, .slice a0 m0 n0)]) (ch15 s x) :=
  { size := by rw [puts_size]; exact h.size, c0 := (puts_ne (by simp)).trans h.c0, c1 := by simp [puts, ch15, h.size], c2 := by simp [puts, ch15, h.size], c3 := by simp [puts, ch15, h.size], c4 := (puts_ne (by simp)).trans h.c4, c5 := (puts_ne (by simp)).trans h.c5, c6 := (puts_ne (by simp)).trans h.c6, c7 := (puts_ne (by simp)).trans h.c7, c13 := (puts_ne (by simp)).trans h.c13, c14 := (puts_ne (by simp)).trans h.c14, c15 := (puts_ne (by simp)).trans h.c15, c16 := by simp [puts, ch15, h.size], c17 := by simp [puts, ch15, h.size], c18 := by simp [puts, ch15, h.size], c19 := by simp [puts, ch15, h.size], c20 := by simp [puts, ch15, h.size], c21 := (puts_ne (by simp)).trans h.c21, c22 := (puts_ne (by simp)).trans h.c22, c30 := (puts_ne (by simp)).trans h.c30, inp := (h.inp.map fun v => hR v _).other fun q h1 h2 => puts_ne (by simp; omega), res := ⟨k0, x0, b0, s0, a0, m0, n0, by simp [puts, h.size], by simp [puts, h.size], by simp [puts, h.size], by simp [puts, h.size], by simp [puts, h.size], hv⟩ }
theorem ig16 {R R' : Value → Tv → Prop} {cs : Array Value} {s : Sta} (x : Ev) (h : Ig R cs s) (hR : ∀ v t, R v t → R' v t) : Ig R' (puts cs [(2, .int .i64 (wrap64 (s.count + 1))), (3, .int .i64 x.t), (16, .int .i64 0), (17, .int .i64 0), (18, .int .i64 0), (19, .int .i64 0), (20, .int .i64 0), (23, .slice none 0 0), (1, .int .i64 3), (30, .string x.s)]) (ch16 s x) :=
  { size := by rw [puts_size]; exact h.size, c0 := (puts_ne (by simp)).trans h.c0, c1 := by simp [puts, ch16, h.size], c2 := by simp [puts, ch16, h.size], c3 := by simp [puts, ch16, h.size], c4 := (puts_ne (by simp)).trans h.c4, c5 := (puts_ne (by simp)).trans h.c5, c6 := (puts_ne (by simp)).trans h.c6, c7 := (puts_ne (by simp)).trans h.c7, c13 := (puts_ne (by simp)).trans h.c13, c14 := (puts_ne (by simp)).trans h.c14, c15 := (puts_ne (by simp)).trans h.c15, c16 := by simp [puts, ch16, h.size], c17 := by simp [puts, ch16, h.size], c18 := by simp [puts, ch16, h.size], c19 := by simp [puts, ch16, h.size], c20 := by simp [puts, ch16, h.size], c21 := (puts_ne (by simp)).trans h.c21, c22 := (puts_ne (by simp)).trans h.c22, c30 := by simp [puts, ch16, h.size], inp := (h.inp.map fun v => hR v _).other fun q h1 h2 => puts_ne (by simp; omega), res := (h.res.map fun v => hR v _).other fun q h1 h2 => puts_ne (by simp; omega) }
theorem ig17 {R R' : Value → Tv → Prop} {cs : Array Value} {s : Sta} (x : Ev) (h : Ig R cs s) (hR : ∀ v t, R v t → R' v t) : Ig R' (puts cs [(2, .int .i64 (wrap64 (s.count + 1))), (3, .int .i64 x.t), (16, .int .i64 0), (17, .int .i64 0), (18, .int .i64 0), (19, .int .i64 0), (20, .int .i64 0), (23, .slice none 0 0), (1, .int .i64 4)]) (ch17 s x) :=
  { size := by rw [puts_size]; exact h.size, c0 := (puts_ne (by simp)).trans h.c0, c1 := by simp [puts, ch17, h.size], c2 := by simp [puts, ch17, h.size], c3 := by simp [puts, ch17, h.size], c4 := (puts_ne (by simp)).trans h.c4, c5 := (puts_ne (by simp)).trans h.c5, c6 := (puts_ne (by simp)).trans h.c6, c7 := (puts_ne (by simp)).trans h.c7, c13 := (puts_ne (by simp)).trans h.c13, c14 := (puts_ne (by simp)).trans h.c14, c15 := (puts_ne (by simp)).trans h.c15, c16 := by simp [puts, ch17, h.size], c17 := by simp [puts, ch17, h.size], c18 := by simp [puts, ch17, h.size], c19 := by simp [puts, ch17, h.size], c20 := by simp [puts, ch17, h.size], c21 := (puts_ne (by simp)).trans h.c21, c22 := (puts_ne (by simp)).trans h.c22, c30 := (puts_ne (by simp)).trans h.c30, inp := (h.inp.map fun v => hR v _).other fun q h1 h2 => puts_ne (by simp; omega), res := (h.res.map fun v => hR v _).other fun q h1 h2 => puts_ne (by simp; omega) }
theorem ig18 {R R' : Value → Tv → Prop} {cs : Array Value} {s : Sta} (x : Ev) (h : Ig R cs s) (hR : ∀ v t, R v t → R' v t) : Ig R' (puts cs [(2, .int .i64 (wrap64 (s.count + 1))), (3, .int .i64 x.t), (16, .int .i64 0), (17, .int .i64 0), (18, .int .i64 0), (19, .int .i64 0), (20, .int .i64 0), (23, .slice none 0 0), (1, .int .i64 5), (30, .string x.s)]) (ch18 s x) :=
  { size := by rw [puts_size]; exact h.size, c0 := (puts_ne (by simp)).trans h.c0, c1 := by simp [puts, ch18, h.size], c2 := by simp [puts, ch18, h.size], c3 := by simp [puts, ch18, h.size], c4 := (puts_ne (by simp)).trans h.c4, c5 := (puts_ne (by simp)).trans h.c5, c6 := (puts_ne (by simp)).trans h.c6, c7 := (puts_ne (by simp)).trans h.c7, c13 := (puts_ne (by simp)).trans h.c13, c14 := (puts_ne (by simp)).trans h.c14, c15 := (puts_ne (by simp)).trans h.c15, c16 := by simp [puts, ch18, h.size], c17 := by simp [puts, ch18, h.size], c18 := by simp [puts, ch18, h.size], c19 := by simp [puts, ch18, h.size], c20 := by simp [puts, ch18, h.size], c21 := (puts_ne (by simp)).trans h.c21, c22 := (puts_ne (by simp)).trans h.c22, c30 := by simp [puts, ch18, h.size], inp := (h.inp.map fun v => hR v _).other fun q h1 h2 => puts_ne (by simp; omega), res := (h.res.map fun v => hR v _).other fun q h1 h2 => puts_ne (by simp; omega) }
theorem ig19 {R R' : Value → Tv → Prop} {cs : Array Value} {s : Sta} (x : Ev) (h : Ig R cs s) (hR : ∀ v t, R v t → R' v t) : Ig R' (puts cs [(2, .int .i64 (wrap64 (s.count + 1))), (3, .int .i64 x.t), (16, .int .i64 0), (17, .int .i64 0), (18, .int .i64 0), (19, .int .i64 0), (20, .int .i64 0), (23, .slice none 0 0), (1, .int .i64 6)]) (ch19 s x) :=
  { size := by rw [puts_size]; exact h.size, c0 := (puts_ne (by simp)).trans h.c0, c1 := by simp [puts, ch19, h.size], c2 := by simp [puts, ch19, h.size], c3 := by simp [puts, ch19, h.size], c4 := (puts_ne (by simp)).trans h.c4, c5 := (puts_ne (by simp)).trans h.c5, c6 := (puts_ne (by simp)).trans h.c6, c7 := (puts_ne (by simp)).trans h.c7, c13 := (puts_ne (by simp)).trans h.c13, c14 := (puts_ne (by simp)).trans h.c14, c15 := (puts_ne (by simp)).trans h.c15, c16 := by simp [puts, ch19, h.size], c17 := by simp [puts, ch19, h.size], c18 := by simp [puts, ch19, h.size], c19 := by simp [puts, ch19, h.size], c20 := by simp [puts, ch19, h.size], c21 := (puts_ne (by simp)).trans h.c21, c22 := (puts_ne (by simp)).trans h.c22, c30 := (puts_ne (by simp)).trans h.c30, inp := (h.inp.map fun v => hR v _).other fun q h1 h2 => puts_ne (by simp; omega), res := (h.res.map fun v => hR v _).other fun q h1 h2 => puts_ne (by simp; omega) }
end Go.Proofs.YtcdhlklmnnmpoaaGreat
namespace Go.Proofs.YtcdhlklmnnmpoaaGreat
open Go.ChangeShapes Go.WideShapes Go.ChangeAt Go.RowKit
theorem vk_to {lo B n : Nat} {w w' : World} {cs cs' : Array Value} (hkeep : ∀ b, b < w.heap.size → b ≠ B → Nb cs b → w'.heap[b]? = w.heap[b]?) (hnb : ∀ b, b < w.heap.size → Nb cs b → Nb cs' b) :
    ∀ v t, IsP (Vk (fun b => b ≠ B) lo w cs) w n v t → IsP (Vk (fun b => b ≠ B) lo w' cs') w' n v t := fun _ _ hv =>
  hv.keep (fun b hb hk => ⟨hk.1, free_keep (hkeep b hb hk.1 hk.2.2) hk.2.1, hnb b hb hk.2.2⟩) (fun b hb hk => hkeep b hb hk.1 hk.2.2)
theorem own_ne {w : World} {lo lo' k k' n n' : Nat} {t t' : TypeId} {u u' : Value} {xs xs' : List Value} (h : w.ownsRow lo t k u n xs) (h' : w.ownsRow lo' t' k' u' n' xs') (ht : t ≠ t') {b : Nat} (hb : u.ownBlock = some b) : u'.ownBlock ≠ some b := fun e => by
  obtain ⟨_, ⟨rfl, _⟩ | ⟨g, cap, cur, rfl, _, hg, _⟩⟩ := h
  · cases hb
  · obtain ⟨_, ⟨rfl, _⟩ | ⟨g', cap', cur', rfl, _, hg', _⟩⟩ := h'
    · cases e
    · cases hb
      cases e
      rw [hg] at hg'
      cases hg'
      exact ht rfl
section
variable {lo B n : Nat} {w w' : World} {cs cs' : Array Value} {s s' : Sta}
theorem og_same (h : Og (fun b => b ≠ B) lo w n cs s) (hg : w.heap[B]? = some (.cells cs 41 (0, 0))) (hk : KB B w w') (e23 : cs'[23]? = cs[23]?) (e24 : cs'[24]? = cs[24]?)
    (hi : (∀ v t, IsP (Vk (fun b => b ≠ B) lo w cs) w n v t → IsP (Vk (fun b => b ≠ B) lo w' cs') w' n v t) → Ig (IsP (Vk (fun b => b ≠ B) lo w' cs') w' n) cs' s') (ht : s'.tm = s.tm) (hu : s'.up = s.up) : Og (fun b => b ≠ B) lo w' n cs' s' := by
  have hR := vk_to (lo := lo) (B := B) (n := n) (w := w) (w' := w') (cs := cs) (cs' := cs') (fun b hb hne _ => ne_blk hk hb hne) (fun b _ hn v hv => hn v (by rw [e23, e24] at hv; exact hv))
  obtain ⟨a, c, t1, t2⟩ := h.tm
  obtain ⟨ua, uc, us, u1, u2, u3, u4⟩ := h.up
  refine ⟨hi hR, ⟨a, c, by rw [e23, ht]; exact t1, ?_⟩, ⟨ua, uc, us, by rw [e24, hu]; exact u1, ?_, by rw [hu]; exact u3, fun i r u hr hu' => (u4 i r u hr (by rw [hu] at hu'; exact hu')).map hR⟩⟩
  · rw [ht]
    exact owns_blk t2 (Nat.le_refl _) fun b hb => ne_blk hk (t2.lt b hb).2 (fun e => box_ne t2 (by decide) hg (by rw [← e]; exact hb))
  · rw [hu]
    exact owns_blk u2 (Nat.le_refl _) fun b hb => ne_blk hk (u2.lt b hb).2 (fun e => box_ne u2 (by decide) hg (by rw [← e]; exact hb))
theorem og_end (h : Og (fun b => b ≠ B) lo w n cs s) (hg : w.heap[B]? = some (.cells cs 41 (0, 0))) (hk : KB B w w') (e23 : cs'[23]? = some (.slice none 0 0)) (e24 : cs'[24]? = cs[24]?)
    (hi : (∀ v t, IsP (Vk (fun b => b ≠ B) lo w cs) w n v t → IsP (Vk (fun b => b ≠ B) lo w' cs') w' n v t) → Ig (IsP (Vk (fun b => b ≠ B) lo w' cs') w' n) cs' s') (ht : s'.tm = []) (hu : s'.up = s.up) : Og (fun b => b ≠ B) lo w' n cs' s' := by
  have hR := vk_to (lo := lo) (B := B) (n := n) (w := w) (w' := w') (cs := cs) (cs' := cs') (fun b hb hne _ => ne_blk hk hb hne) (fun b _ hn v hv => by
    rcases hv with hv | hv
    · rw [e23] at hv; cases hv; exact fun e => by cases e
    · rw [e24] at hv; exact hn v (.inr hv))
  obtain ⟨ua, uc, us, u1, u2, u3, u4⟩ := h.up
  refine ⟨hi hR, ⟨none, 0, by rw [e23, ht]; rfl, ?_⟩, ⟨ua, uc, us, by rw [e24, hu]; exact u1, ?_, by rw [hu]; exact u3, fun i r u hr hu' => (u4 i r u hr (by rw [hu] at hu'; exact hu')).map hR⟩⟩
  · rw [ht]
    exact World.ownsRow_nil _ _ _ _
  · rw [hu]
    exact owns_blk u2 (Nat.le_refl _) fun b hb => ne_blk hk (u2.lt b hb).2 (fun e => box_ne u2 (by decide) hg (by rw [← e]; exact hb))
theorem og_tm {u v : Value} (h : Og (fun b => b ≠ B) lo w n cs s) (hg : w.heap[B]? = some (.cells cs 41 (0, 0))) (c23 : cs[23]? = some u) (hl : Lw lo B 120 2 u (s'.tm.map Tm.cells) w v w') (e23 : cs'[23]? = some v) (e24 : cs'[24]? = cs[24]?)
    (hi : (∀ v t, IsP (Vk (fun b => b ≠ B) lo w cs) w n v t → IsP (Vk (fun b => b ≠ B) lo w' cs') w' n v t) → Ig (IsP (Vk (fun b => b ≠ B) lo w' cs') w' n) cs' s') (hu : s'.up = s.up) : Og (fun b => b ≠ B) lo w' n cs' s' := by
  have hR := vk_to (lo := lo) (B := B) (n := n) (w := w) (w' := w') (cs := cs) (cs' := cs') (fun b hb hne hn => hl.keep b hb hne (hn u (.inl c23))) (fun b hb hn v' hv => by
    rcases hv with hv | hv
    · rw [e23] at hv; cases hv
      rcases hl.blk with e | e
      · rw [e]; exact hn u (.inl c23)
      · intro e'
        have := e b e'
        omega
    · rw [e24] at hv; exact hn v' (.inr hv))
  obtain ⟨a, c, t1, t2⟩ := h.tm
  obtain ⟨ua, uc, us, u1, u2, u3, u4⟩ := h.up
  rw [c23] at t1
  cases t1
  have hO := hl.own
  rw [List.length_map] at hO
  obtain ⟨a', c', rfl⟩ := owns_shape hO
  refine ⟨hi hR, ⟨a', c', e23, hO⟩, ⟨ua, uc, us, by rw [e24, hu]; exact u1, ?_, by rw [hu]; exact u3, fun i r u hr hu' => (u4 i r u hr (by rw [hu] at hu'; exact hu')).map hR⟩⟩
  rw [hu]
  exact owns_blk u2 (Nat.le_refl _) fun b hb => hl.keep b (u2.lt b hb).2 (fun e => box_ne u2 (by decide) hg (by rw [← e]; exact hb)) (own_ne u2 t2 (by decide) hb)
theorem og_up {u v : Value} {rows : List (Array Value)} (h : Og (fun b => b ≠ B) lo w n cs s) (hg : w.heap[B]? = some (.cells cs 41 (0, 0))) (c24 : cs[24]? = some u) (hl : Lw lo B 50 12 u rows w v w') (hrl : rows.length = s'.up.length) (e23 : cs'[23]? = cs[23]?) (e24 : cs'[24]? = some v)
    (hi : (∀ v t, IsP (Vk (fun b => b ≠ B) lo w cs) w n v t → IsP (Vk (fun b => b ≠ B) lo w' cs') w' n v t) → Ig (IsP (Vk (fun b => b ≠ B) lo w' cs') w' n) cs' s') (ht : s'.tm = s.tm)
    (hr : (∀ v t, IsP (Vk (fun b => b ≠ B) lo w cs) w n v t → IsP (Vk (fun b => b ≠ B) lo w' cs') w' n v t) → ∀ (i : Nat) r u, rows[i]? = some r → s'.up[i]? = some u → IsU (IsP (Vk (fun b => b ≠ B) lo w' cs') w' n) r u) : Og (fun b => b ≠ B) lo w' n cs' s' := by
  have hR := vk_to (lo := lo) (B := B) (n := n) (w := w) (w' := w') (cs := cs) (cs' := cs') (fun b hb hne hn => hl.keep b hb hne (hn u (.inr c24))) (fun b hb hn v' hv => by
    rcases hv with hv | hv
    · rw [e23] at hv; exact hn v' (.inl hv)
    · rw [e24] at hv; cases hv
      rcases hl.blk with e | e
      · rw [e]; exact hn u (.inr c24)
      · intro e'
        have := e b e'
        omega)
  obtain ⟨a, c, t1, t2⟩ := h.tm
  obtain ⟨ua, uc, us, u1, u2, _, _⟩ := h.up
  rw [c24] at u1
  cases u1
  have hO := hl.own
  rw [hrl] at hO
  obtain ⟨a', c', rfl⟩ := owns_shape hO
  refine ⟨hi hR, ⟨a, c, by rw [e23, ht]; exact t1, ?_⟩, ⟨a', c', rows, e24, hO, hrl, hr hR⟩⟩
  rw [ht]
  exact owns_blk t2 (Nat.le_refl _) fun b hb => hl.keep b (t2.lt b hb).2 (fun e => box_ne t2 (by decide) hg (by rw [← e]; exact hb)) (own_ne t2 u2 (by decide) hb)
end
/-- What change answers. -/
def ChP (lo B n : Nat) (s' : Sta) (w : World) (e : Ending) (w' : World) : Prop :=
  e = .returned (.tuple #[]) ∧ ∃ cs', w'.heap[B]? = some (.cells cs' 41 (0, 0)) ∧ Og (fun b => b ≠ B) lo w' n cs' s' ∧ Below lo w w'
theorem chP1 (lo B n : Nat) (cs es : Array Value) (s : Sta) (x : Ev) (w : World) (hg : w.heap[B]? = some (.cells cs 41 (0, 0))) (h : Og (fun b => b ≠ B) lo w (n + 1) cs s) (he : IsEv (IsP (Vk (fun b => b ≠ B) lo w cs) w (n + 1)) es x) (hlo : lo ≤ B) (hk : x.k = 1) :
    Calls Tryz.prog 70 #[.pointer (some ⟨B, 0, none⟩), .agg es] w (ChP lo B (n + 1) (ch1 s x) w) := by
  have hBl : B < w.heap.size := (Array.getElem?_eq_some_iff.1 hg).1
  have hlw : lo ≤ w.heap.size := by omega
  have i := h.ig
  have e0 := he.c0
  rw [hk] at e0
  obtain ⟨k0, x0, b0, s0, a0, m0, n0, v5, v6, v7, v8, v9, hv⟩ := he.v
  obtain ⟨k1, x1, b1, s1, a1, l1, n1, d8, d9, d10, d11, d12, _⟩ := i.inp
  refine (chg1 B cs es s.count s.time x.t s.status s.dl x.d x.f s.pf x.m s.pm x.c s.pc s.fresh s.typ x.s k0 x0 b0 s0 a0 m0 n0 k1 x1 b1 s1 a1 l1 n1 w hg i.c1 i.c2 i.c3 i.c4 i.c7 d8 d9 d10 d11 d12 i.c13 i.c14 i.c15 i.c21 e0 he.c1 he.c3 he.c4 v5 v6 v7 v8 v9 he.c10 he.c11 he.c12).mono ?_
  rintro e w' ⟨rfl, hw⟩
  exact ⟨rfl, _, hw.row, og_same h hg hw.kb (puts_ne (by simp)) (puts_ne (by simp)) (fun hR => ig1 x (hR _ _ hv) h.ig hR) rfl rfl, hw.kb.below hlo hlw⟩
theorem chP7 (lo B n : Nat) (cs es : Array Value) (s : Sta) (x : Ev) (w : World) (hg : w.heap[B]? = some (.cells cs 41 (0, 0))) (h : Og (fun b => b ≠ B) lo w (n + 1) cs s) (he : IsEv (IsP (Vk (fun b => b ≠ B) lo w cs) w (n + 1)) es x) (hlo : lo ≤ B) (hk : x.k = 7) :
    Calls Tryz.prog 70 #[.pointer (some ⟨B, 0, none⟩), .agg es] w (ChP lo B (n + 1) (ch7 s x) w) := by
  have hBl : B < w.heap.size := (Array.getElem?_eq_some_iff.1 hg).1
  have hlw : lo ≤ w.heap.size := by omega
  have i := h.ig
  have e0 := he.c0
  rw [hk] at e0
  refine (chg7 B cs es s.count s.time x.t s.sig s.fresh w hg i.c2 i.c3 i.c6 i.c21 e0 he.c1).mono ?_
  rintro e w' ⟨rfl, hw⟩
  exact ⟨rfl, _, hw.row, og_same h hg hw.kb (puts_ne (by simp)) (puts_ne (by simp)) (fun hR => ig7 x h.ig hR) rfl rfl, hw.kb.below hlo hlw⟩
theorem chP8 (lo B n : Nat) (cs es : Array Value) (s : Sta) (x : Ev) (w : World) (hg : w.heap[B]? = some (.cells cs 41 (0, 0))) (h : Og (fun b => b ≠ B) lo w (n + 1) cs s) (he : IsEv (IsP (Vk (fun b => b ≠ B) lo w cs) w (n + 1)) es x) (hlo : lo ≤ B) (hk : x.k = 8) :
    Calls Tryz.prog 70 #[.pointer (some ⟨B, 0, none⟩), .agg es] w (ChP lo B (n + 1) (ch8 s x) w) := by
  have hBl : B < w.heap.size := (Array.getElem?_eq_some_iff.1 hg).1
  have hlw : lo ≤ w.heap.size := by omega
  have i := h.ig
  have e0 := he.c0
  rw [hk] at e0
  refine (chg8 B cs es s.count s.time x.t s.fresh s.cancel w hg i.c2 i.c3 i.c21 i.c22 e0 he.c1).mono ?_
  rintro e w' ⟨rfl, hw⟩
  exact ⟨rfl, _, hw.row, og_same h hg hw.kb (puts_ne (by simp)) (puts_ne (by simp)) (fun hR => ig8 x h.ig hR) rfl rfl, hw.kb.below hlo hlw⟩
theorem chP14 (lo B n : Nat) (cs es : Array Value) (s : Sta) (x : Ev) (w : World) (hg : w.heap[B]? = some (.cells cs 41 (0, 0))) (h : Og (fun b => b ≠ B) lo w (n + 1) cs s) (he : IsEv (IsP (Vk (fun b => b ≠ B) lo w cs) w (n + 1)) es x) (hlo : lo ≤ B) (hk : x.k = 14) :
    Calls Tryz.prog 70 #[.pointer (some ⟨B, 0, none⟩), .agg es] w (ChP lo B (n + 1) (ch14 s x) w) := by
  have hBl : B < w.heap.size := (Array.getElem?_eq_some_iff.1 hg).1
  have hlw : lo ≤ w.heap.size := by omega
  have i := h.ig
  have e0 := he.c0
  rw [hk] at e0
  refine (chg14 B cs es s.count s.time x.t w hg i.c2 i.c3 e0 he.c1).mono ?_
  rintro e w' ⟨rfl, hw⟩
  exact ⟨rfl, _, hw.row, og_same h hg hw.kb (puts_ne (by simp)) (puts_ne (by simp)) (fun hR => ig14 x h.ig hR) rfl rfl, hw.kb.below hlo hlw⟩
theorem chP2 (lo B n : Nat) (cs es : Array Value) (s : Sta) (x : Ev) (w : World) (hg : w.heap[B]? = some (.cells cs 41 (0, 0))) (h : Og (fun b => b ≠ B) lo w (n + 1) cs s) (he : IsEv (IsP (Vk (fun b => b ≠ B) lo w cs) w (n + 1)) es x) (hlo : lo ≤ B) (hk : x.k = 2) :
    Calls Tryz.prog 70 #[.pointer (some ⟨B, 0, none⟩), .agg es] w (ChP lo B (n + 1) (ch2 s x) w) := by
  have hBl : B < w.heap.size := (Array.getElem?_eq_some_iff.1 hg).1
  have hlw : lo ≤ w.heap.size := by omega
  have i := h.ig
  have e0 := he.c0
  rw [hk] at e0
  have o1 : ∀ q, q ≠ 2 → q ≠ 3 → (cs1 cs s.count x.t)[q]? = cs[q]? := fun q h2 h3 => puts_ne (by simp; omega)
  have d2 : (cs1 cs s.count x.t)[2]? = some (.int .i64 (wrap64 (s.count + 1))) := by simp [cs1, puts, i.size]
  have f := fun q v (h2 : q ≠ 2) (h3 : q ≠ 3) (hq : cs[q]? = some v) => (o1 q h2 h3).trans hq
  refine chgC2 B cs es s.count s.time x.t w (PuP B (cs1 cs s.count x.t) [(16, .int .i64 1), (17, .int .i64 x.n), (18, .int .i64 x.d), (19, .int .i64 0), (20, .int .i64 0)]) _ hg i.c2 i.c3 he.size e0 he.c1 (fun W hw => task2 B _ es _ _ _ _ _ x.n x.d W hw.row (f 16 _ (by decide) (by decide) i.c16) (f 17 _ (by decide) (by decide) i.c17) (f 18 _ (by decide) (by decide) i.c18) (f 19 _ (by decide) (by decide) i.c19) (f 20 _ (by decide) (by decide) i.c20) he.c2 he.c3 e0) (fun W e W' hw0 h1 => ?_)
  obtain ⟨rfl, hw⟩ := h1
  have hrow := hw.row
  rw [cs1, ← puts_app] at hrow
  exact ⟨rfl, rfl, _, hrow, og_same h hg (hw0.kb.trans hw.kb) (puts_ne (by simp)) (puts_ne (by simp)) (fun hR => ig2 x h.ig hR) rfl rfl, (hw0.kb.trans hw.kb).below hlo hlw⟩
theorem chP3 (lo B n : Nat) (cs es : Array Value) (s : Sta) (x : Ev) (w : World) (hg : w.heap[B]? = some (.cells cs 41 (0, 0))) (h : Og (fun b => b ≠ B) lo w (n + 1) cs s) (he : IsEv (IsP (Vk (fun b => b ≠ B) lo w cs) w (n + 1)) es x) (hlo : lo ≤ B) (hk : x.k = 3) :
    Calls Tryz.prog 70 #[.pointer (some ⟨B, 0, none⟩), .agg es] w (ChP lo B (n + 1) (ch3 s x) w) := by
  have hBl : B < w.heap.size := (Array.getElem?_eq_some_iff.1 hg).1
  have hlw : lo ≤ w.heap.size := by omega
  have i := h.ig
  have e0 := he.c0
  rw [hk] at e0
  have o1 : ∀ q, q ≠ 2 → q ≠ 3 → (cs1 cs s.count x.t)[q]? = cs[q]? := fun q h2 h3 => puts_ne (by simp; omega)
  have d2 : (cs1 cs s.count x.t)[2]? = some (.int .i64 (wrap64 (s.count + 1))) := by simp [cs1, puts, i.size]
  have f := fun q v (h2 : q ≠ 2) (h3 : q ≠ 3) (hq : cs[q]? = some v) => (o1 q h2 h3).trans hq
  refine chgC3 B cs es s.count s.time x.t w (PuP B (cs1 cs s.count x.t) [(16, .int .i64 2), (17, .int .i64 s.ta), (18, .int .i64 x.d), (19, .int .i64 (wrap64 (s.count + 1))), (20, .int .i64 (wrap64 (s.count + 1))), (21, .bool false)]) _ hg i.c2 i.c3 he.size e0 he.c1 (fun W hw => task3 B _ es _ _ _ _ _ x.d _ _ W hw.row (f 16 _ (by decide) (by decide) i.c16) (f 17 _ (by decide) (by decide) i.c17) (f 18 _ (by decide) (by decide) i.c18) (f 19 _ (by decide) (by decide) i.c19) (f 20 _ (by decide) (by decide) i.c20) d2 (f 21 _ (by decide) (by decide) i.c21) he.c3 e0) (fun W e W' hw0 h1 => ?_)
  obtain ⟨rfl, hw⟩ := h1
  have hrow := hw.row
  rw [cs1, ← puts_app] at hrow
  exact ⟨rfl, rfl, _, hrow, og_same h hg (hw0.kb.trans hw.kb) (puts_ne (by simp)) (puts_ne (by simp)) (fun hR => ig3 x h.ig hR) rfl rfl, (hw0.kb.trans hw.kb).below hlo hlw⟩
theorem chP4a (lo B n : Nat) (cs es : Array Value) (s : Sta) (x : Ev) (w : World) (hg : w.heap[B]? = some (.cells cs 41 (0, 0))) (h : Og (fun b => b ≠ B) lo w (n + 1) cs s) (he : IsEv (IsP (Vk (fun b => b ≠ B) lo w cs) w (n + 1)) es x) (hlo : lo ≤ B) (hk : x.k = 4) (hn : ¬ 0 < x.n) :
    Calls Tryz.prog 70 #[.pointer (some ⟨B, 0, none⟩), .agg es] w (ChP lo B (n + 1) (ch4 s x) w) := by
  have hBl : B < w.heap.size := (Array.getElem?_eq_some_iff.1 hg).1
  have hlw : lo ≤ w.heap.size := by omega
  have i := h.ig
  have e0 := he.c0
  rw [hk] at e0
  have o1 : ∀ q, q ≠ 2 → q ≠ 3 → (cs1 cs s.count x.t)[q]? = cs[q]? := fun q h2 h3 => puts_ne (by simp; omega)
  have d2 : (cs1 cs s.count x.t)[2]? = some (.int .i64 (wrap64 (s.count + 1))) := by simp [cs1, puts, i.size]
  have f := fun q v (h2 : q ≠ 2) (h3 : q ≠ 3) (hq : cs[q]? = some v) => (o1 q h2 h3).trans hq
  refine chgC4 B cs es s.count s.time x.t w (PuP B (cs1 cs s.count x.t) [(16, .int .i64 0), (17, .int .i64 0), (18, .int .i64 0), (19, .int .i64 0), (20, .int .i64 0)]) _ hg i.c2 i.c3 he.size e0 he.c1 (fun W hw => taskEnd B _ es 4 _ _ _ _ _ x.n W hw.row (by decide) (by decide) (f 16 _ (by decide) (by decide) i.c16) (f 17 _ (by decide) (by decide) i.c17) (f 18 _ (by decide) (by decide) i.c18) (f 19 _ (by decide) (by decide) i.c19) (f 20 _ (by decide) (by decide) i.c20) he.c2 hn e0) (fun W e W' hw0 h1 => ?_)
  obtain ⟨rfl, hw⟩ := h1
  have hrow := hw.row
  rw [cs1, ← puts_app] at hrow
  exact ⟨rfl, rfl, _, hrow, og_same h hg (hw0.kb.trans hw.kb) (puts_ne (by simp)) (puts_ne (by simp)) (fun hR => ig4 x h.ig hR) rfl rfl, (hw0.kb.trans hw.kb).below hlo hlw⟩
theorem chP4b (lo B n : Nat) (cs es : Array Value) (s : Sta) (x : Ev) (w : World) (hg : w.heap[B]? = some (.cells cs 41 (0, 0))) (h : Og (fun b => b ≠ B) lo w (n + 1) cs s) (he : IsEv (IsP (Vk (fun b => b ≠ B) lo w cs) w (n + 1)) es x) (hlo : lo ≤ B) (hk : x.k = 4) (hn : 0 < x.n) :
    Calls Tryz.prog 70 #[.pointer (some ⟨B, 0, none⟩), .agg es] w (ChP lo B (n + 1) (ch5 s x) w) := by
  have hBl : B < w.heap.size := (Array.getElem?_eq_some_iff.1 hg).1
  have hlw : lo ≤ w.heap.size := by omega
  have i := h.ig
  have e0 := he.c0
  rw [hk] at e0
  have o1 : ∀ q, q ≠ 2 → q ≠ 3 → (cs1 cs s.count x.t)[q]? = cs[q]? := fun q h2 h3 => puts_ne (by simp; omega)
  have d2 : (cs1 cs s.count x.t)[2]? = some (.int .i64 (wrap64 (s.count + 1))) := by simp [cs1, puts, i.size]
  have f := fun q v (h2 : q ≠ 2) (h3 : q ≠ 3) (hq : cs[q]? = some v) => (o1 q h2 h3).trans hq
  refine chgC4 B cs es s.count s.time x.t w (PuP B (cs1 cs s.count x.t) [(16, .int .i64 0), (17, .int .i64 0), (18, .int .i64 0), (19, .int .i64 0), (20, .int .i64 0), (5, .int .i64 x.n)]) _ hg i.c2 i.c3 he.size e0 he.c1 (fun W hw => taskFrom B _ es 4 _ _ _ _ _ x.n _ W hw.row (by decide) (by decide) (f 16 _ (by decide) (by decide) i.c16) (f 17 _ (by decide) (by decide) i.c17) (f 18 _ (by decide) (by decide) i.c18) (f 19 _ (by decide) (by decide) i.c19) (f 20 _ (by decide) (by decide) i.c20) (f 5 _ (by decide) (by decide) i.c5) he.c2 hn e0) (fun W e W' hw0 h1 => ?_)
  obtain ⟨rfl, hw⟩ := h1
  have hrow := hw.row
  rw [cs1, ← puts_app] at hrow
  exact ⟨rfl, rfl, _, hrow, og_same h hg (hw0.kb.trans hw.kb) (puts_ne (by simp)) (puts_ne (by simp)) (fun hR => ig5 x h.ig hR) rfl rfl, (hw0.kb.trans hw.kb).below hlo hlw⟩
theorem chP5a (lo B n : Nat) (cs es : Array Value) (s : Sta) (x : Ev) (w : World) (hg : w.heap[B]? = some (.cells cs 41 (0, 0))) (h : Og (fun b => b ≠ B) lo w (n + 1) cs s) (he : IsEv (IsP (Vk (fun b => b ≠ B) lo w cs) w (n + 1)) es x) (hlo : lo ≤ B) (hk : x.k = 5) (hn : ¬ 0 < x.n) :
    Calls Tryz.prog 70 #[.pointer (some ⟨B, 0, none⟩), .agg es] w (ChP lo B (n + 1) (ch4 s x) w) := by
  have hBl : B < w.heap.size := (Array.getElem?_eq_some_iff.1 hg).1
  have hlw : lo ≤ w.heap.size := by omega
  have i := h.ig
  have e0 := he.c0
  rw [hk] at e0
  have o1 : ∀ q, q ≠ 2 → q ≠ 3 → (cs1 cs s.count x.t)[q]? = cs[q]? := fun q h2 h3 => puts_ne (by simp; omega)
  have d2 : (cs1 cs s.count x.t)[2]? = some (.int .i64 (wrap64 (s.count + 1))) := by simp [cs1, puts, i.size]
  have f := fun q v (h2 : q ≠ 2) (h3 : q ≠ 3) (hq : cs[q]? = some v) => (o1 q h2 h3).trans hq
  refine chgC5 B cs es s.count s.time x.t w (PuP B (cs1 cs s.count x.t) [(16, .int .i64 0), (17, .int .i64 0), (18, .int .i64 0), (19, .int .i64 0), (20, .int .i64 0)]) _ hg i.c2 i.c3 he.size e0 he.c1 (fun W hw => taskEnd B _ es 5 _ _ _ _ _ x.n W hw.row (by decide) (by decide) (f 16 _ (by decide) (by decide) i.c16) (f 17 _ (by decide) (by decide) i.c17) (f 18 _ (by decide) (by decide) i.c18) (f 19 _ (by decide) (by decide) i.c19) (f 20 _ (by decide) (by decide) i.c20) he.c2 hn e0) (fun W e W' hw0 h1 => ?_)
  obtain ⟨rfl, hw⟩ := h1
  have hrow := hw.row
  rw [cs1, ← puts_app] at hrow
  exact ⟨rfl, rfl, _, hrow, og_same h hg (hw0.kb.trans hw.kb) (puts_ne (by simp)) (puts_ne (by simp)) (fun hR => ig4 x h.ig hR) rfl rfl, (hw0.kb.trans hw.kb).below hlo hlw⟩
theorem chP5b (lo B n : Nat) (cs es : Array Value) (s : Sta) (x : Ev) (w : World) (hg : w.heap[B]? = some (.cells cs 41 (0, 0))) (h : Og (fun b => b ≠ B) lo w (n + 1) cs s) (he : IsEv (IsP (Vk (fun b => b ≠ B) lo w cs) w (n + 1)) es x) (hlo : lo ≤ B) (hk : x.k = 5) (hn : 0 < x.n) :
    Calls Tryz.prog 70 #[.pointer (some ⟨B, 0, none⟩), .agg es] w (ChP lo B (n + 1) (ch5 s x) w) := by
  have hBl : B < w.heap.size := (Array.getElem?_eq_some_iff.1 hg).1
  have hlw : lo ≤ w.heap.size := by omega
  have i := h.ig
  have e0 := he.c0
  rw [hk] at e0
  have o1 : ∀ q, q ≠ 2 → q ≠ 3 → (cs1 cs s.count x.t)[q]? = cs[q]? := fun q h2 h3 => puts_ne (by simp; omega)
  have d2 : (cs1 cs s.count x.t)[2]? = some (.int .i64 (wrap64 (s.count + 1))) := by simp [cs1, puts, i.size]
  have f := fun q v (h2 : q ≠ 2) (h3 : q ≠ 3) (hq : cs[q]? = some v) => (o1 q h2 h3).trans hq
  refine chgC5 B cs es s.count s.time x.t w (PuP B (cs1 cs s.count x.t) [(16, .int .i64 0), (17, .int .i64 0), (18, .int .i64 0), (19, .int .i64 0), (20, .int .i64 0), (5, .int .i64 x.n)]) _ hg i.c2 i.c3 he.size e0 he.c1 (fun W hw => taskFrom B _ es 5 _ _ _ _ _ x.n _ W hw.row (by decide) (by decide) (f 16 _ (by decide) (by decide) i.c16) (f 17 _ (by decide) (by decide) i.c17) (f 18 _ (by decide) (by decide) i.c18) (f 19 _ (by decide) (by decide) i.c19) (f 20 _ (by decide) (by decide) i.c20) (f 5 _ (by decide) (by decide) i.c5) he.c2 hn e0) (fun W e W' hw0 h1 => ?_)
  obtain ⟨rfl, hw⟩ := h1
  have hrow := hw.row
  rw [cs1, ← puts_app] at hrow
  exact ⟨rfl, rfl, _, hrow, og_same h hg (hw0.kb.trans hw.kb) (puts_ne (by simp)) (puts_ne (by simp)) (fun hR => ig5 x h.ig hR) rfl rfl, (hw0.kb.trans hw.kb).below hlo hlw⟩
theorem chP6a (lo B n : Nat) (cs es : Array Value) (s : Sta) (x : Ev) (w : World) (hg : w.heap[B]? = some (.cells cs 41 (0, 0))) (h : Og (fun b => b ≠ B) lo w (n + 1) cs s) (he : IsEv (IsP (Vk (fun b => b ≠ B) lo w cs) w (n + 1)) es x) (hlo : lo ≤ B) (hk : x.k = 6) (hn : ¬ 0 < x.n) :
    Calls Tryz.prog 70 #[.pointer (some ⟨B, 0, none⟩), .agg es] w (ChP lo B (n + 1) (ch4 s x) w) := by
  have hBl : B < w.heap.size := (Array.getElem?_eq_some_iff.1 hg).1
  have hlw : lo ≤ w.heap.size := by omega
  have i := h.ig
  have e0 := he.c0
  rw [hk] at e0
  have o1 : ∀ q, q ≠ 2 → q ≠ 3 → (cs1 cs s.count x.t)[q]? = cs[q]? := fun q h2 h3 => puts_ne (by simp; omega)
  have d2 : (cs1 cs s.count x.t)[2]? = some (.int .i64 (wrap64 (s.count + 1))) := by simp [cs1, puts, i.size]
  have f := fun q v (h2 : q ≠ 2) (h3 : q ≠ 3) (hq : cs[q]? = some v) => (o1 q h2 h3).trans hq
  refine chgC6 B cs es s.count s.time x.t w (PuP B (cs1 cs s.count x.t) [(16, .int .i64 0), (17, .int .i64 0), (18, .int .i64 0), (19, .int .i64 0), (20, .int .i64 0)]) _ hg i.c2 i.c3 he.size e0 he.c1 (fun W hw => taskEnd B _ es 6 _ _ _ _ _ x.n W hw.row (by decide) (by decide) (f 16 _ (by decide) (by decide) i.c16) (f 17 _ (by decide) (by decide) i.c17) (f 18 _ (by decide) (by decide) i.c18) (f 19 _ (by decide) (by decide) i.c19) (f 20 _ (by decide) (by decide) i.c20) he.c2 hn e0) (fun W e W' hw0 h1 => ?_)
  obtain ⟨rfl, hw⟩ := h1
  have hrow := hw.row
  rw [cs1, ← puts_app] at hrow
  exact ⟨rfl, rfl, _, hrow, og_same h hg (hw0.kb.trans hw.kb) (puts_ne (by simp)) (puts_ne (by simp)) (fun hR => ig4 x h.ig hR) rfl rfl, (hw0.kb.trans hw.kb).below hlo hlw⟩
theorem chP6b (lo B n : Nat) (cs es : Array Value) (s : Sta) (x : Ev) (w : World) (hg : w.heap[B]? = some (.cells cs 41 (0, 0))) (h : Og (fun b => b ≠ B) lo w (n + 1) cs s) (he : IsEv (IsP (Vk (fun b => b ≠ B) lo w cs) w (n + 1)) es x) (hlo : lo ≤ B) (hk : x.k = 6) (hn : 0 < x.n) :
    Calls Tryz.prog 70 #[.pointer (some ⟨B, 0, none⟩), .agg es] w (ChP lo B (n + 1) (ch5 s x) w) := by
  have hBl : B < w.heap.size := (Array.getElem?_eq_some_iff.1 hg).1
  have hlw : lo ≤ w.heap.size := by omega
  have i := h.ig
  have e0 := he.c0
  rw [hk] at e0
  have o1 : ∀ q, q ≠ 2 → q ≠ 3 → (cs1 cs s.count x.t)[q]? = cs[q]? := fun q h2 h3 => puts_ne (by simp; omega)
  have d2 : (cs1 cs s.count x.t)[2]? = some (.int .i64 (wrap64 (s.count + 1))) := by simp [cs1, puts, i.size]
  have f := fun q v (h2 : q ≠ 2) (h3 : q ≠ 3) (hq : cs[q]? = some v) => (o1 q h2 h3).trans hq
  refine chgC6 B cs es s.count s.time x.t w (PuP B (cs1 cs s.count x.t) [(16, .int .i64 0), (17, .int .i64 0), (18, .int .i64 0), (19, .int .i64 0), (20, .int .i64 0), (5, .int .i64 x.n)]) _ hg i.c2 i.c3 he.size e0 he.c1 (fun W hw => taskFrom B _ es 6 _ _ _ _ _ x.n _ W hw.row (by decide) (by decide) (f 16 _ (by decide) (by decide) i.c16) (f 17 _ (by decide) (by decide) i.c17) (f 18 _ (by decide) (by decide) i.c18) (f 19 _ (by decide) (by decide) i.c19) (f 20 _ (by decide) (by decide) i.c20) (f 5 _ (by decide) (by decide) i.c5) he.c2 hn e0) (fun W e W' hw0 h1 => ?_)
  obtain ⟨rfl, hw⟩ := h1
  have hrow := hw.row
  rw [cs1, ← puts_app] at hrow
  exact ⟨rfl, rfl, _, hrow, og_same h hg (hw0.kb.trans hw.kb) (puts_ne (by simp)) (puts_ne (by simp)) (fun hR => ig5 x h.ig hR) rfl rfl, (hw0.kb.trans hw.kb).below hlo hlw⟩
theorem chP15 (lo B n : Nat) (cs es : Array Value) (s : Sta) (x : Ev) (w : World) (hg : w.heap[B]? = some (.cells cs 41 (0, 0))) (h : Og (fun b => b ≠ B) lo w (n + 1) cs s) (he : IsEv (IsP (Vk (fun b => b ≠ B) lo w cs) w (n + 1)) es x) (hlo : lo ≤ B) (hk : x.k = 15) :
    Calls Tryz.prog 70 #[.pointer (some ⟨B, 0, none⟩), .agg es] w (ChP lo B (n + 1) (ch15 s x) w) := by
  have hBl : B < w.heap.size := (Array.getElem?_eq_some_iff.1 hg).1
  have hlw : lo ≤ w.heap.size := by omega
  have i := h.ig
  have e0 := he.c0
  rw [hk] at e0
  obtain ⟨ta, tc, t1, _⟩ := h.tm
  obtain ⟨k0, x0, b0, s0, a0, m0, n0, v5, v6, v7, v8, v9, hv⟩ := he.v
  obtain ⟨k1, x1, b1, s1, a1, l1, n1, r5, r6, r7, r8, r9, _⟩ := i.res
  have o1 : ∀ q, q ≠ 2 → q ≠ 3 → (cs1 cs s.count x.t)[q]? = cs[q]? := fun q h2 h3 => puts_ne (by simp; omega)
  have d2 : (cs1 cs s.count x.t)[2]? = some (.int .i64 (wrap64 (s.count + 1))) := by simp [cs1, puts, i.size]
  have f := fun q v (h2 : q ≠ 2) (h3 : q ≠ 3) (hq : cs[q]? = some v) => (o1 q h2 h3).trans hq
  refine chgC15 B cs es s.count s.time x.t w (PuP B (cs1 cs s.count x.t) [(16, .int .i64 0), (17, .int .i64 0), (18, .int .i64 0), (19, .int .i64 0), (20, .int .i64 0), (23, .slice none 0 0), (1, .int .i64 2), (25, .int .i64 k0), (26, .int .i64 x0), (27, .int .u64 b0), (28, .string s0), (29, .slice a0 m0 n0)]) _ hg i.c2 i.c3 he.size e0 he.c1 (fun W hw => end15 B _ es _ _ _ _ _ _ _ _ _ k0 x0 b0 _ _ _ s0 _ a0 _ m0 n0 _ _ W hw.row (f 16 _ (by decide) (by decide) i.c16) (f 17 _ (by decide) (by decide) i.c17) (f 18 _ (by decide) (by decide) i.c18) (f 19 _ (by decide) (by decide) i.c19) (f 20 _ (by decide) (by decide) i.c20) (f 23 _ (by decide) (by decide) t1) (f 1 _ (by decide) (by decide) i.c1) (f 25 _ (by decide) (by decide) r5) (f 26 _ (by decide) (by decide) r6) (f 27 _ (by decide) (by decide) r7) (f 28 _ (by decide) (by decide) r8) (f 29 _ (by decide) (by decide) r9) v5 v6 v7 v8 v9 e0) (fun W e W' hw0 h1 => ?_)
  obtain ⟨rfl, hw⟩ := h1
  have hrow := hw.row
  rw [cs1, ← puts_app] at hrow
  exact ⟨rfl, rfl, _, hrow, og_end h hg (hw0.kb.trans hw.kb) (by simp [puts, i.size]) (puts_ne (by simp)) (fun hR => ig15 x (hR _ _ hv) h.ig hR) rfl rfl, (hw0.kb.trans hw.kb).below hlo hlw⟩
theorem chP16 (lo B n : Nat) (cs es : Array Value) (s : Sta) (x : Ev) (w : World) (hg : w.heap[B]? = some (.cells cs 41 (0, 0))) (h : Og (fun b => b ≠ B) lo w (n + 1) cs s) (he : IsEv (IsP (Vk (fun b => b ≠ B) lo w cs) w (n + 1)) es x) (hlo : lo ≤ B) (hk : x.k = 16) :
    Calls Tryz.prog 70 #[.pointer (some ⟨B, 0, none⟩), .agg es] w (ChP lo B (n + 1) (ch16 s x) w) := by
  have hBl : B < w.heap.size := (Array.getElem?_eq_some_iff.1 hg).1
  have hlw : lo ≤ w.heap.size := by omega
  have i := h.ig
  have e0 := he.c0
  rw [hk] at e0
  obtain ⟨ta, tc, t1, _⟩ := h.tm
  have o1 : ∀ q, q ≠ 2 → q ≠ 3 → (cs1 cs s.count x.t)[q]? = cs[q]? := fun q h2 h3 => puts_ne (by simp; omega)
  have d2 : (cs1 cs s.count x.t)[2]? = some (.int .i64 (wrap64 (s.count + 1))) := by simp [cs1, puts, i.size]
  have f := fun q v (h2 : q ≠ 2) (h3 : q ≠ 3) (hq : cs[q]? = some v) => (o1 q h2 h3).trans hq
  refine chgC16 B cs es s.count s.time x.t w (PuP B (cs1 cs s.count x.t) [(16, .int .i64 0), (17, .int .i64 0), (18, .int .i64 0), (19, .int .i64 0), (20, .int .i64 0), (23, .slice none 0 0), (1, .int .i64 3), (30, .string x.s)]) _ hg i.c2 i.c3 he.size e0 he.c1 (fun W hw => end16 B _ es _ _ _ _ _ _ _ _ _ _ x.s W hw.row (f 16 _ (by decide) (by decide) i.c16) (f 17 _ (by decide) (by decide) i.c17) (f 18 _ (by decide) (by decide) i.c18) (f 19 _ (by decide) (by decide) i.c19) (f 20 _ (by decide) (by decide) i.c20) (f 23 _ (by decide) (by decide) t1) (f 1 _ (by decide) (by decide) i.c1) (f 30 _ (by decide) (by decide) i.c30) he.c4 e0) (fun W e W' hw0 h1 => ?_)
  obtain ⟨rfl, hw⟩ := h1
  have hrow := hw.row
  rw [cs1, ← puts_app] at hrow
  exact ⟨rfl, rfl, _, hrow, og_end h hg (hw0.kb.trans hw.kb) (by simp [puts, i.size]) (puts_ne (by simp)) (fun hR => ig16 x h.ig hR) rfl rfl, (hw0.kb.trans hw.kb).below hlo hlw⟩
theorem chP18 (lo B n : Nat) (cs es : Array Value) (s : Sta) (x : Ev) (w : World) (hg : w.heap[B]? = some (.cells cs 41 (0, 0))) (h : Og (fun b => b ≠ B) lo w (n + 1) cs s) (he : IsEv (IsP (Vk (fun b => b ≠ B) lo w cs) w (n + 1)) es x) (hlo : lo ≤ B) (hk : x.k = 18) :
    Calls Tryz.prog 70 #[.pointer (some ⟨B, 0, none⟩), .agg es] w (ChP lo B (n + 1) (ch18 s x) w) := by
  have hBl : B < w.heap.size := (Array.getElem?_eq_some_iff.1 hg).1
  have hlw : lo ≤ w.heap.size := by omega
  have i := h.ig
  have e0 := he.c0
  rw [hk] at e0
  obtain ⟨ta, tc, t1, _⟩ := h.tm
  have o1 : ∀ q, q ≠ 2 → q ≠ 3 → (cs1 cs s.count x.t)[q]? = cs[q]? := fun q h2 h3 => puts_ne (by simp; omega)
  have d2 : (cs1 cs s.count x.t)[2]? = some (.int .i64 (wrap64 (s.count + 1))) := by simp [cs1, puts, i.size]
  have f := fun q v (h2 : q ≠ 2) (h3 : q ≠ 3) (hq : cs[q]? = some v) => (o1 q h2 h3).trans hq
  refine chgC18 B cs es s.count s.time x.t w (PuP B (cs1 cs s.count x.t) [(16, .int .i64 0), (17, .int .i64 0), (18, .int .i64 0), (19, .int .i64 0), (20, .int .i64 0), (23, .slice none 0 0), (1, .int .i64 5), (30, .string x.s)]) _ hg i.c2 i.c3 he.size e0 he.c1 (fun W hw => end18 B _ es _ _ _ _ _ _ _ _ _ _ x.s W hw.row (f 16 _ (by decide) (by decide) i.c16) (f 17 _ (by decide) (by decide) i.c17) (f 18 _ (by decide) (by decide) i.c18) (f 19 _ (by decide) (by decide) i.c19) (f 20 _ (by decide) (by decide) i.c20) (f 23 _ (by decide) (by decide) t1) (f 1 _ (by decide) (by decide) i.c1) (f 30 _ (by decide) (by decide) i.c30) he.c4 e0) (fun W e W' hw0 h1 => ?_)
  obtain ⟨rfl, hw⟩ := h1
  have hrow := hw.row
  rw [cs1, ← puts_app] at hrow
  exact ⟨rfl, rfl, _, hrow, og_end h hg (hw0.kb.trans hw.kb) (by simp [puts, i.size]) (puts_ne (by simp)) (fun hR => ig18 x h.ig hR) rfl rfl, (hw0.kb.trans hw.kb).below hlo hlw⟩
theorem chP17 (lo B n : Nat) (cs es : Array Value) (s : Sta) (x : Ev) (w : World) (hg : w.heap[B]? = some (.cells cs 41 (0, 0))) (h : Og (fun b => b ≠ B) lo w (n + 1) cs s) (he : IsEv (IsP (Vk (fun b => b ≠ B) lo w cs) w (n + 1)) es x) (hlo : lo ≤ B) (hk : x.k = 17) :
    Calls Tryz.prog 70 #[.pointer (some ⟨B, 0, none⟩), .agg es] w (ChP lo B (n + 1) (ch17 s x) w) := by
  have hBl : B < w.heap.size := (Array.getElem?_eq_some_iff.1 hg).1
  have hlw : lo ≤ w.heap.size := by omega
  have i := h.ig
  have e0 := he.c0
  rw [hk] at e0
  obtain ⟨ta, tc, t1, _⟩ := h.tm
  have o1 : ∀ q, q ≠ 2 → q ≠ 3 → (cs1 cs s.count x.t)[q]? = cs[q]? := fun q h2 h3 => puts_ne (by simp; omega)
  have d2 : (cs1 cs s.count x.t)[2]? = some (.int .i64 (wrap64 (s.count + 1))) := by simp [cs1, puts, i.size]
  have f := fun q v (h2 : q ≠ 2) (h3 : q ≠ 3) (hq : cs[q]? = some v) => (o1 q h2 h3).trans hq
  refine chgC17 B cs es s.count s.time x.t w (PuP B (cs1 cs s.count x.t) [(16, .int .i64 0), (17, .int .i64 0), (18, .int .i64 0), (19, .int .i64 0), (20, .int .i64 0), (23, .slice none 0 0), (1, .int .i64 4)]) _ hg i.c2 i.c3 he.size e0 he.c1 (fun W hw => end17 B _ es _ _ _ _ _ _ _ _ _ W hw.row (f 16 _ (by decide) (by decide) i.c16) (f 17 _ (by decide) (by decide) i.c17) (f 18 _ (by decide) (by decide) i.c18) (f 19 _ (by decide) (by decide) i.c19) (f 20 _ (by decide) (by decide) i.c20) (f 23 _ (by decide) (by decide) t1) (f 1 _ (by decide) (by decide) i.c1) e0) (fun W e W' hw0 h1 => ?_)
  obtain ⟨rfl, hw⟩ := h1
  have hrow := hw.row
  rw [cs1, ← puts_app] at hrow
  exact ⟨rfl, rfl, _, hrow, og_end h hg (hw0.kb.trans hw.kb) (by simp [puts, i.size]) (puts_ne (by simp)) (fun hR => ig17 x h.ig hR) rfl rfl, (hw0.kb.trans hw.kb).below hlo hlw⟩
theorem chP19 (lo B n : Nat) (cs es : Array Value) (s : Sta) (x : Ev) (w : World) (hg : w.heap[B]? = some (.cells cs 41 (0, 0))) (h : Og (fun b => b ≠ B) lo w (n + 1) cs s) (he : IsEv (IsP (Vk (fun b => b ≠ B) lo w cs) w (n + 1)) es x) (hlo : lo ≤ B) (hk : x.k = 19) :
    Calls Tryz.prog 70 #[.pointer (some ⟨B, 0, none⟩), .agg es] w (ChP lo B (n + 1) (ch19 s x) w) := by
  have hBl : B < w.heap.size := (Array.getElem?_eq_some_iff.1 hg).1
  have hlw : lo ≤ w.heap.size := by omega
  have i := h.ig
  have e0 := he.c0
  rw [hk] at e0
  obtain ⟨ta, tc, t1, _⟩ := h.tm
  have o1 : ∀ q, q ≠ 2 → q ≠ 3 → (cs1 cs s.count x.t)[q]? = cs[q]? := fun q h2 h3 => puts_ne (by simp; omega)
  have d2 : (cs1 cs s.count x.t)[2]? = some (.int .i64 (wrap64 (s.count + 1))) := by simp [cs1, puts, i.size]
  have f := fun q v (h2 : q ≠ 2) (h3 : q ≠ 3) (hq : cs[q]? = some v) => (o1 q h2 h3).trans hq
  refine chgC19 B cs es s.count s.time x.t w (PuP B (cs1 cs s.count x.t) [(16, .int .i64 0), (17, .int .i64 0), (18, .int .i64 0), (19, .int .i64 0), (20, .int .i64 0), (23, .slice none 0 0), (1, .int .i64 6)]) _ hg i.c2 i.c3 he.size e0 he.c1 (fun W hw => end19 B _ es _ _ _ _ _ _ _ _ _ W hw.row (f 16 _ (by decide) (by decide) i.c16) (f 17 _ (by decide) (by decide) i.c17) (f 18 _ (by decide) (by decide) i.c18) (f 19 _ (by decide) (by decide) i.c19) (f 20 _ (by decide) (by decide) i.c20) (f 23 _ (by decide) (by decide) t1) (f 1 _ (by decide) (by decide) i.c1) e0) (fun W e W' hw0 h1 => ?_)
  obtain ⟨rfl, hw⟩ := h1
  have hrow := hw.row
  rw [cs1, ← puts_app] at hrow
  exact ⟨rfl, rfl, _, hrow, og_end h hg (hw0.kb.trans hw.kb) (by simp [puts, i.size]) (puts_ne (by simp)) (fun hR => ig19 x h.ig hR) rfl rfl, (hw0.kb.trans hw.kb).below hlo hlw⟩
end Go.Proofs.YtcdhlklmnnmpoaaGreat
namespace Go.Proofs.YtcdhlklmnnmpoaaGreat
open Go.ChangeShapes Go.WideShapes Go.ChangeAt Go.RowKit
theorem ins_rel {α β : Type} {P : β → α → Prop} {us : List β} {l : List α} (hl : us.length = l.length) (h : ∀ (i : Nat) r u, us[i]? = some r → l[i]? = some u → P r u) {i : Nat} (hi : i ≤ l.length) {x : α} {y : β} (hxy : P y x) :
    ∀ (q : Nat) r u, (us.take i ++ y :: us.drop i)[q]? = some r → (l.take i ++ x :: l.drop i)[q]? = some u → P r u := by
  intro q r u hr hu
  have l1 : (us.take i).length = i := by rw [List.length_take]; omega
  have l2 : (l.take i).length = i := by rw [List.length_take]; omega
  rcases Nat.lt_trichotomy q i with hq | hq | hq
  · rw [List.getElem?_append_left (by omega), List.getElem?_take_of_lt hq] at hr hu
    exact h q r u hr hu
  · subst hq
    rw [List.getElem?_append_right (by omega), l1, Nat.sub_self] at hr
    rw [List.getElem?_append_right (by omega), l2, Nat.sub_self] at hu
    cases hr
    cases hu
    exact hxy
  · obtain ⟨k, rfl⟩ : ∃ k, q = i + 1 + k := ⟨q - (i + 1), by omega⟩
    rw [List.getElem?_append_right (by omega), l1, show i + 1 + k - i = k + 1 by omega, List.getElem?_cons_succ, List.getElem?_drop] at hr
    rw [List.getElem?_append_right (by omega), l2, show i + 1 + k - i = k + 1 by omega, List.getElem?_cons_succ, List.getElem?_drop] at hu
    exact h _ r u hr hu
theorem zE_isP (ok : Nat → Prop) (w : World) (n : Nat) : IsP ok w (n + 1) (.agg #[.int .i64 0, .int .i64 0, .int .u64 0, .string ⟨#[]⟩, .slice none 0 0]) zE := by
  obtain ⟨a, c, hv, hf, _⟩ := zE_is w n
  cases hv
  exact ⟨none, 0, rfl, hf, fun i t h => by simp at h⟩
theorem chP9 (lo B n : Nat) (cs es : Array Value) (s : Sta) (x : Ev) (w : World) (hg : w.heap[B]? = some (.cells cs 41 (0, 0))) (h : Og (fun b => b ≠ B) lo w (n + 1) cs s) (he : IsEv (IsP (Vk (fun b => b ≠ B) lo w cs) w (n + 1)) es x) (hlo : lo ≤ B) (hk : x.k = 9) (lt : s.tm.length ≤ 500) :
    Calls Tryz.prog 70 #[.pointer (some ⟨B, 0, none⟩), .agg es] w (ChP lo B (n + 1) (ch9 s x) w) := by
  have hBl : B < w.heap.size := (Array.getElem?_eq_some_iff.1 hg).1
  have hlw : lo ≤ w.heap.size := by omega
  have i := h.ig
  have e0 := he.c0
  rw [hk] at e0
  obtain ⟨a, c, t1, t2⟩ := h.tm
  have o1 : ∀ q, q ≠ 2 → q ≠ 3 → (cs1 cs s.count x.t)[q]? = cs[q]? := fun q h2 h3 => puts_ne (by simp; omega)
  have f := fun q v (h2 : q ≠ 2) (h3 : q ≠ 3) (hq : cs[q]? = some v) => (o1 q h2 h3).trans hq
  have key := fun (W : World) (hw : WrS B w W (cs1 cs s.count x.t)) => timers9 lo B _ es s.tm a c x.s x.d W hw.row (f 23 _ (by decide) (by decide) t1) (owns_blk t2 (Nat.le_refl _) fun b hb => ne_blk hw.kb (t2.lt b hb).2 (fun e => box_ne t2 (by decide) hg (by rw [← e]; exact hb))) lt hlo e0 he.c3 he.c4
  have er : (insL (fun d => gtS d.s x.s) s.tm ⟨x.s, x.d⟩).map Tm.cells = (ch9 s x).tm.map Tm.cells := rfl
  rw [er] at key
  generalize hrw : (ch9 s x).tm.map Tm.cells = rows at key
  refine chgC9 B cs es s.count s.time x.t w (LsP lo B (cs1 cs s.count x.t) 23 120 2 (.slice a s.tm.length c) rows []) _ hg i.c2 i.c3 he.size e0 he.c1 key (fun W e W' hw0 h1 => ?_)
  obtain ⟨rfl, v, hrow, hl⟩ := h1
  have hl' := hl.from hw0.kb hlo hlw
  rw [← hrw] at hl'
  have hrow' : W'.heap[B]? = some (.cells (puts cs [(2, .int .i64 (wrap64 (s.count + 1))), (3, .int .i64 x.t), (23, v)]) 41 (0, 0)) := hrow
  exact ⟨rfl, rfl, _, hrow', og_tm h hg t1 hl' (by simp [puts, i.size]) (puts_ne (by simp)) (fun hR => ig9 x v h.ig hR) rfl, hl'.bel⟩
theorem chP10 (lo B n : Nat) (cs es : Array Value) (s : Sta) (x : Ev) (w : World) (hg : w.heap[B]? = some (.cells cs 41 (0, 0))) (h : Og (fun b => b ≠ B) lo w (n + 1) cs s) (he : IsEv (IsP (Vk (fun b => b ≠ B) lo w cs) w (n + 1)) es x) (hlo : lo ≤ B) (hk : x.k = 10) (lt : s.tm.length ≤ 500) (j : Nat) (hz : tmAt s x.s = (j : Int)) (hj : j < s.tm.length) :
    Calls Tryz.prog 70 #[.pointer (some ⟨B, 0, none⟩), .agg es] w (ChP lo B (n + 1) (ch10 s x) w) := by
  have hBl : B < w.heap.size := (Array.getElem?_eq_some_iff.1 hg).1
  have hlw : lo ≤ w.heap.size := by omega
  have i := h.ig
  have e0 := he.c0
  rw [hk] at e0
  obtain ⟨a, c, t1, t2⟩ := h.tm
  have o1 : ∀ q, q ≠ 2 → q ≠ 3 → (cs1 cs s.count x.t)[q]? = cs[q]? := fun q h2 h3 => puts_ne (by simp; omega)
  have f := fun q v (h2 : q ≠ 2) (h3 : q ≠ 3) (hq : cs[q]? = some v) => (o1 q h2 h3).trans hq
  have hOg : ∀ W, WrS B w W (cs1 cs s.count x.t) → Og (fun b => b ≠ B) lo W (n + 1) (cs1 cs s.count x.t) (ch14 s x) := fun W hw => og_same h hg hw.kb (puts_ne (by simp)) (puts_ne (by simp)) (fun hR => ig14 x h.ig hR) rfl rfl
  have ej : (tmAt s x.s).toNat = j := by rw [hz]; simp
  have hR97 : ∀ W, WrS B w W (cs1 cs s.count x.t) → Hid (∀ W', Below W.heap.size W W' → Calls Tryz.prog 95 #[.agg (cs1 cs s.count x.t), .string x.s] W' (IxP (j : Int) W')) := fun W hw W' hB => by
    have := timerAt_calls (n + 1) (cs1 cs s.count x.t) (ch14 s x) x.s W' ((hOg W hw).ps.rs.below hB) (show s.tm.length ≤ 1000 by omega)
    rw [show tmAt (ch14 s x) x.s = (j : Int) from hz] at this
    exact this
  refine chgC10 B cs es s.count s.time x.t w (LsP lo B (cs1 cs s.count x.t) 23 120 2 (.slice a s.tm.length c) ((delL s.tm j).map Tm.cells) [(21, .bool true)]) _ hg i.c2 i.c3 he.size e0 he.c1 (fun W hw => timers10 lo B _ es s.tm a c x.s j s.fresh W hw.row (by rw [cs1, puts_size]; exact i.size) (f 21 _ (by decide) (by decide) i.c21) (f 23 _ (by decide) (by decide) t1) (owns_blk t2 (Nat.le_refl _) fun b hb => ne_blk hw.kb (t2.lt b hb).2 (fun e => box_ne t2 (by decide) hg (by rw [← e]; exact hb))) lt hlo hj (hR97 W hw) e0 he.c4) (fun W e W' hw0 h1 => ?_)
  obtain ⟨rfl, v, hrow, hl⟩ := h1
  have hl' := hl.from hw0.kb hlo hlw
  rw [← ej] at hl'
  have hrow' : W'.heap[B]? = some (.cells (puts cs [(2, .int .i64 (wrap64 (s.count + 1))), (3, .int .i64 x.t), (23, v), (21, .bool true)]) 41 (0, 0)) := hrow
  exact ⟨rfl, rfl, _, hrow', og_tm h hg t1 hl' (by simp [puts, i.size]) (puts_ne (by simp)) (fun hR => ig10 x v h.ig hR) rfl, hl'.bel⟩
theorem chP11 (lo B n : Nat) (cs es : Array Value) (s : Sta) (x : Ev) (w : World) (hg : w.heap[B]? = some (.cells cs 41 (0, 0))) (h : Og (fun b => b ≠ B) lo w (n + 1) cs s) (he : IsEv (IsP (Vk (fun b => b ≠ B) lo w cs) w (n + 1)) es x) (hlo : lo ≤ B) (hk : x.k = 11) (lt : s.tm.length ≤ 500) (j : Nat) (hz : tmAt s x.s = (j : Int)) (hj : j < s.tm.length) :
    Calls Tryz.prog 70 #[.pointer (some ⟨B, 0, none⟩), .agg es] w (ChP lo B (n + 1) (ch11 s x) w) := by
  have hBl : B < w.heap.size := (Array.getElem?_eq_some_iff.1 hg).1
  have hlw : lo ≤ w.heap.size := by omega
  have i := h.ig
  have e0 := he.c0
  rw [hk] at e0
  obtain ⟨a, c, t1, t2⟩ := h.tm
  have o1 : ∀ q, q ≠ 2 → q ≠ 3 → (cs1 cs s.count x.t)[q]? = cs[q]? := fun q h2 h3 => puts_ne (by simp; omega)
  have f := fun q v (h2 : q ≠ 2) (h3 : q ≠ 3) (hq : cs[q]? = some v) => (o1 q h2 h3).trans hq
  have hOg : ∀ W, WrS B w W (cs1 cs s.count x.t) → Og (fun b => b ≠ B) lo W (n + 1) (cs1 cs s.count x.t) (ch14 s x) := fun W hw => og_same h hg hw.kb (puts_ne (by simp)) (puts_ne (by simp)) (fun hR => ig14 x h.ig hR) rfl rfl
  have ej : (tmAt s x.s).toNat = j := by rw [hz]; simp
  have hR97 : ∀ W, WrS B w W (cs1 cs s.count x.t) → Hid (∀ W', Below W.heap.size W W' → Calls Tryz.prog 95 #[.agg (cs1 cs s.count x.t), .string x.s] W' (IxP (j : Int) W')) := fun W hw W' hB => by
    have := timerAt_calls (n + 1) (cs1 cs s.count x.t) (ch14 s x) x.s W' ((hOg W hw).ps.rs.below hB) (show s.tm.length ≤ 1000 by omega)
    rw [show tmAt (ch14 s x) x.s = (j : Int) from hz] at this
    exact this
  refine chgC11 B cs es s.count s.time x.t w (LsP lo B (cs1 cs s.count x.t) 23 120 2 (.slice a s.tm.length c) ((delL s.tm j).map Tm.cells) []) _ hg i.c2 i.c3 he.size e0 he.c1 (fun W hw => timers11 lo B _ es s.tm a c x.s j s.fresh W hw.row (by rw [cs1, puts_size]; exact i.size) (f 21 _ (by decide) (by decide) i.c21) (f 23 _ (by decide) (by decide) t1) (owns_blk t2 (Nat.le_refl _) fun b hb => ne_blk hw.kb (t2.lt b hb).2 (fun e => box_ne t2 (by decide) hg (by rw [← e]; exact hb))) lt hlo hj (hR97 W hw) e0 he.c4) (fun W e W' hw0 h1 => ?_)
  obtain ⟨rfl, v, hrow, hl⟩ := h1
  have hl' := hl.from hw0.kb hlo hlw
  rw [← ej] at hl'
  have hrow' : W'.heap[B]? = some (.cells (puts cs [(2, .int .i64 (wrap64 (s.count + 1))), (3, .int .i64 x.t), (23, v)]) 41 (0, 0)) := hrow
  exact ⟨rfl, rfl, _, hrow', og_tm h hg t1 hl' (by simp [puts, i.size]) (puts_ne (by simp)) (fun hR => ig11 x v h.ig hR) rfl, hl'.bel⟩
theorem chP12 (lo B n : Nat) (cs es : Array Value) (s : Sta) (x : Ev) (w : World) (hg : w.heap[B]? = some (.cells cs 41 (0, 0))) (h : Og (fun b => b ≠ B) lo w (n + 1) cs s) (he : IsEv (IsP (Vk (fun b => b ≠ B) lo w cs) w (n + 1)) es x) (hlo : lo ≤ B) (hk : x.k = 12) (lu : s.up.length ≤ 500) :
    Calls Tryz.prog 70 #[.pointer (some ⟨B, 0, none⟩), .agg es] w (ChP lo B (n + 1) (ch12 s x) w) := by
  have hBl : B < w.heap.size := (Array.getElem?_eq_some_iff.1 hg).1
  have hlw : lo ≤ w.heap.size := by omega
  have i := h.ig
  have e0 := he.c0
  rw [hk] at e0
  obtain ⟨a, c, us, u1, u2, u3, u4⟩ := h.up
  have hus : ∀ (i : Nat) r, us[i]? = some r → r.size = 12 ∧ ∀ (j : Nat) (v : Value), r[j]? = some v → v.oneCell' = true := fun i r hr => by
    have hi := (List.getElem?_eq_some_iff.1 hr).1
    have := u4 i r _ hr (List.getElem?_eq_getElem (by omega))
    exact ⟨this.size, this.one⟩
  obtain ⟨k0, x0, b0, s0, a0, m0, n0, v5, v6, v7, v8, v9, hv⟩ := he.v
  have o1 : ∀ q, q ≠ 2 → q ≠ 3 → (cs1 cs s.count x.t)[q]? = cs[q]? := fun q h2 h3 => puts_ne (by simp; omega)
  have f := fun q v (h2 : q ≠ 2) (h3 : q ≠ 3) (hq : cs[q]? = some v) => (o1 q h2 h3).trans hq
  refine chgC12 B cs es s.count s.time x.t w (LsP lo B (cs1 cs s.count x.t) 24 50 12 (.slice a s.up.length c) (us.take (insI (fun d => gtS d.s x.s) s.up) ++ #[.string x.s, .int .i64 k0, .int .i64 x0, .int .u64 b0, .string s0, .slice a0 m0 n0, .int .i64 1, .int .i64 0, .int .i64 0, .int .u64 0, .string ⟨#[]⟩, .slice none 0 0] :: us.drop (insI (fun d => gtS d.s x.s) s.up)) []) _ hg i.c2 i.c3 he.size e0 he.c1 (fun W hw => updates12 lo B _ es s.up us a c x.s k0 x0 b0 s0 a0 m0 n0 W hw.row (f 24 _ (by decide) (by decide) u1) (owns_blk u2 (Nat.le_refl _) fun b hb => ne_blk hw.kb (u2.lt b hb).2 (fun e => box_ne u2 (by decide) hg (by rw [← e]; exact hb))) u3 hus (fun i r u hr hu => (u4 i r u hr hu).uh) lu hlo e0 he.c4 v5 v6 v7 v8 v9) (fun W e W' hw0 h1 => ?_)
  obtain ⟨rfl, v, hrow, hl⟩ := h1
  have hl' := hl.from hw0.kb hlo hlw
  have hrow' : W'.heap[B]? = some (.cells (puts cs [(2, .int .i64 (wrap64 (s.count + 1))), (3, .int .i64 x.t), (24, v)]) 41 (0, 0)) := hrow
  have hil := insI_le (fun d : Up => gtS d.s x.s) s.up
  refine ⟨rfl, rfl, _, hrow', og_up h hg u1 hl' ?_ (puts_ne (by simp)) (by simp [puts, i.size]) (fun hR => ig12 x v h.ig hR) rfl (fun hR => ?_), hl'.bel⟩
  · show _ = (insL (fun d => gtS d.s x.s) s.up _).length
    rw [insL_length]
    simp
    omega
  · exact ins_rel u3 (fun i r u hr hu => (u4 i r u hr hu).map hR) hil ⟨rfl, rfl, ⟨k0, x0, b0, s0, a0, m0, n0, rfl, rfl, rfl, rfl, rfl, hR _ _ hv⟩, rfl, ⟨0, 0, 0, ⟨#[]⟩, none, 0, 0, rfl, rfl, rfl, rfl, rfl, zE_isP _ _ _⟩⟩
theorem chP13 (lo B n : Nat) (cs es : Array Value) (s : Sta) (x : Ev) (w : World) (hg : w.heap[B]? = some (.cells cs 41 (0, 0))) (h : Og (fun b => b ≠ B) lo w (n + 1) cs s) (he : IsEv (IsP (Vk (fun b => b ≠ B) lo w cs) w (n + 1)) es x) (hlo : lo ≤ B) (hk : x.k = 13) (lu : s.up.length ≤ 500) (j : Nat) (hz : waAt s x.s = (j : Int)) (hj : j < s.up.length) :
    Calls Tryz.prog 70 #[.pointer (some ⟨B, 0, none⟩), .agg es] w (ChP lo B (n + 1) (ch13 s x) w) := by
  have hBl : B < w.heap.size := (Array.getElem?_eq_some_iff.1 hg).1
  have hlw : lo ≤ w.heap.size := by omega
  have i := h.ig
  have e0 := he.c0
  rw [hk] at e0
  obtain ⟨a, c, us, u1, u2, u3, u4⟩ := h.up
  have hus : ∀ (i : Nat) r, us[i]? = some r → r.size = 12 ∧ ∀ (j : Nat) (v : Value), r[j]? = some v → v.oneCell' = true := fun i r hr => by
    have hi := (List.getElem?_eq_some_iff.1 hr).1
    have := u4 i r _ hr (List.getElem?_eq_getElem (by omega))
    exact ⟨this.size, this.one⟩
  obtain ⟨k0, x0, b0, s0, a0, m0, n0, v5, v6, v7, v8, v9, hv⟩ := he.v
  have o1 : ∀ q, q ≠ 2 → q ≠ 3 → (cs1 cs s.count x.t)[q]? = cs[q]? := fun q h2 h3 => puts_ne (by simp; omega)
  have f := fun q v (h2 : q ≠ 2) (h3 : q ≠ 3) (hq : cs[q]? = some v) => (o1 q h2 h3).trans hq
  have hOg : ∀ W, WrS B w W (cs1 cs s.count x.t) → Og (fun b => b ≠ B) lo W (n + 1) (cs1 cs s.count x.t) (ch14 s x) := fun W hw => og_same h hg hw.kb (puts_ne (by simp)) (puts_ne (by simp)) (fun hR => ig14 x h.ig hR) rfl rfl
  have ej : (waAt s x.s).toNat = j := by rw [hz]; simp
  have hR98 : ∀ W, WrS B w W (cs1 cs s.count x.t) → Hid (∀ W', Below W.heap.size W W' → Calls Tryz.prog 97 #[.agg (cs1 cs s.count x.t), .string x.s] W' (IxP (j : Int) W')) := fun W hw W' hB => by
    have := waitingAt_calls (n + 1) (cs1 cs s.count x.t) (ch14 s x) x.s W' ((hOg W hw).ps.rs.below hB) (show s.up.length ≤ 1000 by omega)
    rw [show waAt (ch14 s x) x.s = (j : Int) from hz] at this
    exact this
  obtain ⟨r, hr⟩ : ∃ r, us[j]? = some r := ⟨_, List.getElem?_eq_getElem (by omega)⟩
  obtain ⟨u, hu⟩ : ∃ u, s.up[j]? = some u := ⟨_, List.getElem?_eq_getElem hj⟩
  have hIU := u4 j r u hr hu
  obtain ⟨k1, x1, b1, s1, a1, l1, n1, r7, r8, r9, r10, r11, _⟩ := hIU.o
  obtain ⟨UB, rfl⟩ : ∃ UB, a = some ⟨UB, 0, none⟩ := by
    obtain ⟨_, ⟨_, h0⟩ | ⟨g, cap, cur, h1, _⟩⟩ := u2
    · omega
    · cases h1
      exact ⟨g, rfl⟩
  refine chgC13 B cs es s.count s.time x.t w (OuP lo B UB s.up.length c (cs1 cs s.count x.t) (us.set j (endU r [.int .i64 2, .int .i64 k0, .int .i64 x0, .int .u64 b0, .string s0, .slice a0 m0 n0]))) _ hg i.c2 i.c3 he.size e0 he.c1 (fun W hw => updates13 lo B UB s.up.length c _ es us x.s j r u.g k1 x1 b1 s1 a1 l1 n1 k0 x0 b0 s0 a0 m0 n0 W hw.row (by rw [cs1, puts_size]; exact i.size) (f 24 _ (by decide) (by decide) u1) (owns_blk u2 (Nat.le_refl _) fun b hb => ne_blk hw.kb (u2.lt b hb).2 (fun e => box_ne u2 (by decide) hg (by rw [← e]; exact hb))) u3 (fun i r hr => (hus i r hr).1) lu hlo hr hIU.c6 r7 r8 r9 r10 r11 (hR98 W hw) e0 he.c4 v5 v6 v7 v8 v9) (fun W e W' hw0 h1 => ?_)
  obtain ⟨rfl, hrow, hown, hbel, hkeep⟩ := h1
  have hs0 := hw0.kb.2.2.2.1
  have hl' : Lw lo B 50 12 (.slice (some ⟨UB, 0, none⟩) s.up.length c) (us.set j (endU r [.int .i64 2, .int .i64 k0, .int .i64 x0, .int .u64 b0, .string s0, .slice a0 m0 n0])) w (.slice (some ⟨UB, 0, none⟩) s.up.length c) W' := ⟨by rw [List.length_set, u3]; exact hown, (hw0.kb.below hlo hlw).trans hbel, fun B' b1 b2 b3 => (hkeep B' (by omega) (fun e => b3 (by rw [e]; rfl))).trans (ne_blk hw0.kb b1 b2), .inl rfl⟩
  have hsz := hIU.size
  refine ⟨rfl, rfl, _, hrow, og_up h hg u1 hl' ?_ (puts_ne (by simp)) ((puts_ne (by simp)).trans u1) (fun hR => ig13 x h.ig hR) rfl (fun hR => ?_), hl'.bel⟩
  · show _ = (s.up.modify _ _).length
    simp [u3]
  · intro q r' u' hr' hu'
    have hu2 : (s.up.modify j (fun u => { u with g := 2, o := x.v }))[q]? = some u' := by
      have : (ch13 s x).up = s.up.modify j (fun u => { u with g := 2, o := x.v }) := by rw [← ej]; rfl
      rw [← this]
      exact hu'
    rw [List.getElem?_set] at hr'
    rw [List.getElem?_modify] at hu2
    by_cases hq : j = q
    · subst hq
      simp only [show j < us.length by omega, if_true, Option.some.injEq] at hr'
      have hue : u' = { u with g := 2, o := x.v } := by simpa [hu, eq_comm] using hu2
      subst hue
      subst hr'
      have o := hIU.map hR
      exact ⟨endU_size hsz rfl, (endU_lo hsz (by decide)).trans o.c0, o.v.other fun q h1 h2 => endU_lo hsz (by omega), endU_hi (j := 0) hsz, ⟨k0, x0, b0, s0, a0, m0, n0, endU_hi (j := 1) hsz, endU_hi (j := 2) hsz, endU_hi (j := 3) hsz, endU_hi (j := 4) hsz, endU_hi (j := 5) hsz, hR _ _ hv⟩⟩
    · rw [if_neg hq] at hr'
      simp only [if_neg hq] at hu2
      exact (u4 q r' u' hr' (by simpa using hu2)).map hR
theorem change_calls (lo B n : Nat) (cs es : Array Value) (s : Sta) (x : Ev) (w : World) (hg : w.heap[B]? = some (.cells cs 41 (0, 0))) (h : Og (fun b => b ≠ B) lo w (n + 1) cs s) (he : IsEv (IsP (Vk (fun b => b ≠ B) lo w cs) w (n + 1)) es x) (hlo : lo ≤ B) (hk : 1 ≤ x.k ∧ x.k ≤ 19) (hf : fitsB s x = true) (lt : s.tm.length ≤ 500) (lu : s.up.length ≤ 500) :
    Calls Tryz.prog 70 #[.pointer (some ⟨B, 0, none⟩), .agg es] w (ChP lo B (n + 1) (chg s x) w) := by
  have hc : x.k = 1 ∨ x.k = 2 ∨ x.k = 3 ∨ (x.k = 4 ∨ x.k = 5 ∨ x.k = 6) ∨ x.k = 7 ∨ x.k = 8 ∨ x.k = 9 ∨ x.k = 10 ∨ x.k = 11 ∨ x.k = 12 ∨ x.k = 13 ∨ x.k = 14 ∨ x.k = 15 ∨ x.k = 16 ∨ x.k = 17 ∨ x.k = 18 ∨ x.k = 19 := by omega
  rcases hc with k | k | k | k | k | k | k | k | k | k | k | k | k | k | k | k | k
  · rw [chg_1 s x k]
    exact chP1 lo B n cs es s x w hg h he hlo k
  · rw [chg_2 s x k]
    exact chP2 lo B n cs es s x w hg h he hlo k
  · rw [chg_3 s x k]
    exact chP3 lo B n cs es s x w hg h he hlo k
  · rw [chg_from s x k]
    by_cases hn : 0 < x.n
    · rw [if_pos hn]
      rcases k with k | k | k
      · exact chP4b lo B n cs es s x w hg h he hlo k hn
      · exact chP5b lo B n cs es s x w hg h he hlo k hn
      · exact chP6b lo B n cs es s x w hg h he hlo k hn
    · rw [if_neg hn]
      rcases k with k | k | k
      · exact chP4a lo B n cs es s x w hg h he hlo k hn
      · exact chP5a lo B n cs es s x w hg h he hlo k hn
      · exact chP6a lo B n cs es s x w hg h he hlo k hn
  · rw [chg_7 s x k]
    exact chP7 lo B n cs es s x w hg h he hlo k
  · rw [chg_8 s x k]
    exact chP8 lo B n cs es s x w hg h he hlo k
  · rw [chg_9 s x k]
    exact chP9 lo B n cs es s x w hg h he hlo k lt
  · rw [chg_10 s x k]
    rcases ixI_cases (fun d : Tm => eqS d.s x.s) s.tm with ⟨j, d, g1, g2, _⟩ | ⟨g1, _⟩
    · exact chP10 lo B n cs es s x w hg h he hlo k lt j g1 (List.getElem?_eq_some_iff.1 g2).1
    · have g1' : tmAt s x.s = -1 := g1
      simp [fitsB, k, g1', dueB] at hf
      revert hf
      cases s.tm[0]? <;> simp
  · rw [chg_11 s x k]
    rcases ixI_cases (fun d : Tm => eqS d.s x.s) s.tm with ⟨j, d, g1, g2, _⟩ | ⟨g1, _⟩
    · exact chP11 lo B n cs es s x w hg h he hlo k lt j g1 (List.getElem?_eq_some_iff.1 g2).1
    · have g1' : tmAt s x.s = -1 := g1
      simp [fitsB, k, g1'] at hf
  · rw [chg_12 s x k]
    exact chP12 lo B n cs es s x w hg h he hlo k lu
  · rw [chg_13 s x k]
    rcases ixI_cases (fun d : Up => eqS d.s x.s && (d.g == 1)) s.up with ⟨j, d, g1, g2, _⟩ | ⟨g1, _⟩
    · exact chP13 lo B n cs es s x w hg h he hlo k lu j g1 (List.getElem?_eq_some_iff.1 g2).1
    · have g1' : waAt s x.s = -1 := g1
      simp [fitsB, k, g1'] at hf
  · rw [chg_14 s x k]
    exact chP14 lo B n cs es s x w hg h he hlo k
  · rw [chg_15 s x k]
    exact chP15 lo B n cs es s x w hg h he hlo k
  · rw [chg_16 s x k]
    exact chP16 lo B n cs es s x w hg h he hlo k
  · rw [chg_17 s x k]
    exact chP17 lo B n cs es s x w hg h he hlo k
  · rw [chg_18 s x k]
    exact chP18 lo B n cs es s x w hg h he hlo k
  · rw [chg_19 s x k]
    exact chP19 lo B n cs es s x w hg h he hlo k
end Go.Proofs.YtcdhlklmnnmpoaaGreat
namespace Go.Proofs.YtcdhlklmnnmpoaaGreat
open Go.ChangeShapes Go.WideShapes Go.ChangeAt Go.RowKit
theorem ret_cell_tmp {fn : Func} {p q : Tmp} {ty : TypeId} (h : fn.results = #[.cell p ty, .tmp q]) (tmps : Array Value) {w : World} {v u : Value} {a : Addr} (hp : tmps.getD p undef = .pointer (some a)) (hq : tmps.getD q undef = u) (hl : (loadVar ty a).run Tryz.prog w = .ok v w) : (results fn tmps).run Tryz.prog w = .ok (.tuple #[v, u]) w := by
  have hp' : tmps[p]?.getD undef = .pointer (some a) := by simpa using hp
  have hq' : tmps[q]?.getD undef = u := by simpa using hq
  simp [results, h, hp', hq', asAddr, hl]
/-- What Step tells: the state and the code. -/
def StR (n : Nat) (s : Sta) (x : Ev) (s' : Sta) (code : Int) : Prop := (MayE n x → code = refC s x) ∧ (¬ MayE n x → code = 1) ∧ s' = if code = 0 then chg s x else s
theorem StR.det {n : Nat} {s s1 s2 : Sta} {x : Ev} {c1 c2 : Int} (h1 : StR n s x s1 c1) (h2 : StR n s x s2 c2) : c1 = c2 ∧ s1 = s2 := by
  obtain ⟨a1, b1, d1⟩ := h1
  obtain ⟨a2, b2, d2⟩ := h2
  have e : c1 = c2 := by
    by_cases hm : MayE n x
    · rw [a1 hm, a2 hm]
    · rw [b1 hm, b2 hm]
  subst e
  exact ⟨rfl, d1.trans d2.symm⟩
def StG (n : Nat) (s : Sta) (x : Ev) (w : World) (e : Ending) (w' : World) : Prop :=
  (∃ cs' code s', e = .returned (.tuple #[.agg cs', .int .i64 code]) ∧ StR (n + 1) s x s' code ∧ Ps (Free w.heap.size w') w' (n + 1) cs' s') ∧ Below w.heap.size w w'
theorem refC_fits {s : Sta} {x : Ev} (h : refC s x = 0) : fitsB s x = true ∧ roomB s x = true ∧ s.count < 120 ∧ inT s x = true ∧ s.time ≤ x.t := by
  unfold refC at h
  split at h
  · omega
  · split at h
    · omega
    · split at h
      · omega
      · split at h
        · omega
        · split at h
          · omega
          · rename_i h1 h2 h3 h4 h5
            exact ⟨by simpa using h4, by simpa using h5, by omega, by simpa using h2, by omega⟩
theorem MayE.kind {n : Nat} {x : Ev} (h : MayE n x) : 1 ≤ x.k ∧ x.k ≤ 19 := by
  have := h.1
  simp [wi] at this
  exact this
/-- A clone ahead of the box B. -/
theorem Og.box {lo B n : Nat} {w w' : World} {cs : Array Value} {s : Sta} (h : Og (fun _ => True) lo w n cs s) (hb : Below w.heap.size w w') (hB : w.heap.size ≤ B) : Og (fun b => b ≠ B) lo w' n cs s := by
  have hR : ∀ v t, IsP (Vk (fun _ => True) lo w cs) w n v t → IsP (Vk (fun b => b ≠ B) lo w' cs) w' n v t := fun v t hv => hv.keep (fun b hlt hk => ⟨by omega, free_keep (hb.block b hlt) hk.2.1, hk.2.2⟩) (fun b hlt _ => hb.block b hlt)
  obtain ⟨a, c, t1, t2⟩ := h.tm
  obtain ⟨ua, uc, us, u1, u2, u3, u4⟩ := h.up
  exact ⟨h.ig.map hR, ⟨a, c, t1, owns_blk t2 (Nat.le_refl _) fun b hb' => hb.block b (t2.lt b hb').2⟩, ⟨ua, uc, us, u1, owns_blk u2 (Nat.le_refl _) fun b hb' => hb.block b (u2.lt b hb').2, u3, fun i r u hr hu => (u4 i r u hr hu).map hR⟩⟩
theorem Og.nb {ok : Nat → Prop} {lo n : Nat} {w : World} {cs : Array Value} {s : Sta} (h : Og ok lo w n cs s) {b : Nat} (hb : w.heap.size ≤ b) : Nb cs b := fun v hv e => by
  obtain ⟨a, c, t1, t2⟩ := h.tm
  obtain ⟨ua, uc, us, u1, u2, _, _⟩ := h.up
  rcases hv with hv | hv
  · rw [t1] at hv; cases hv
    have := (t2.lt b e).2
    omega
  · rw [u1] at hv; cases hv
    have := (u2.lt b e).2
    omega
theorem Ps.low {lo lo' n g : Nat} {w w' : World} {cs : Array Value} {s : Sta} (h : Ps (Free lo w) w n cs s) (hl : lo' ≤ lo) (hk : KB g w w') (hg : g < lo) : Ps (Free lo' w') w' n cs s :=
  h.keep (fun B hB hf => free_keep (ne_blk hk hB (by have := hf.1; omega)) ⟨by have := hf.1; omega, hf.2⟩) fun B hB hf => ne_blk hk hB (by have := hf.1; omega)
set_option maxHeartbeats 4000000 in
set_option maxRecDepth 100000 in
theorem step_calls (n : Nat) (cs es : Array Value) (s : Sta) (x : Ev) (w : World) (h : Rs w (n + 1) cs s) (he : IsEv (Is w (n + 1)) es x) (hc : x.c < 18446744073709551616) (sm : SmS (n + 1) s) (sx : SmallW (n + 1) x.v) (lt : s.tm.length ≤ 500) (lu : s.up.length ≤ 500) :
    Calls Tryz.prog 54 #[.agg cs, .agg es] w (StG n s x w) := by
  have KC : Hid (∀ W, Below w.heap.size w W → Calls Tryz.prog 68 #[.agg cs] W (ClS (n + 1) W s)) := fun W hB => sclone_calls (n + 1) cs s W (h.below hB) sm (by omega) (by omega)
  have KR : Hid (∀ W, Below w.heap.size w W → Calls Tryz.prog 69 #[.agg cs, .agg es] W (RfP (MayE (n + 1) x) s x W)) := fun W hB => refusal_calls n cs es s x W (h.below hB) (he.map fun v t h => h.below hB) hc (by omega) (by omega)
  have KE : Hid (∀ W, Below w.heap.size w W → Calls Tryz.prog 71 #[.agg es] W (EcP (n + 1) W x)) := fun W hB => evcloneA (n + 1) es x W (he.map fun v t h => h.below hB) sx
  have hi33 := info33s cs h.size
  have hi46 := info46s es he.size
  have HQ : Hid (∀ cs' code s' w', StR (n + 1) s x s' code → Ps (Free w.heap.size w') w' (n + 1) cs' s' → Below w.heap.size w w' → StG n s x w (.returned (.tuple #[.agg cs', .int .i64 code])) w') := fun cs' code s' w' a b c => ⟨⟨cs', code, s', rfl, a, b⟩, c⟩
  have HL : Hid (s.tm.length ≤ 500 ∧ s.up.length ≤ 500) := ⟨lt, lu⟩
  clear h he hc sm sx lt lu
  generalize StG n s x w = Q at HQ ⊢
  go_enter Tryz.func54, Tryz.ntmps54
  have b0 : Hid (Below w.heap.size w (((w.alloc (.cells cs 41)).alloc (.cells es 54)).alloc (.cells zS 41))) := bel2 (bel2 (bel1 _ _) (bel1 _ _)) (bel1 _ _)
  have r0 : (((w.alloc (.cells cs 41)).alloc (.cells es 54)).alloc (.cells zS 41)).heap[w.heap.size]? = some (.cells cs 41 (0, 0)) := row_below (bel1 _ _) (heap_alloc2_old _ _ _)
  have r1 : (((w.alloc (.cells cs 41)).alloc (.cells es 54)).alloc (.cells zS 41)).heap[w.heap.size + 1]? = some (.cells es 54 (0, 0)) := row_below (bel1 _ _) (heap_alloc2_new _ _ _)
  have r2 : (((w.alloc (.cells cs 41)).alloc (.cells es 54)).alloc (.cells zS 41)).heap[w.heap.size + 1 + 1]? = some (.cells zS 41 (0, 0)) := by
    have := heap_alloc_new ((w.alloc (.cells cs 41)).alloc (.cells es 54)) (.cells zS 41)
    simpa using this
  go_upto_region 1 with fail
  change Code.wp _ _ _ _ (((w.alloc (.cells cs 41)).alloc (.cells es 54)).alloc (.cells zS 41))
  generalize ((w.alloc (.cells cs 41)).alloc (.cells es 54)).alloc (.cells zS 41) = W0 at b0 r0 r1 r2 ⊢
  go_wp2_with (refine wpList_load_row rfl 41 _ rfl w.heap.size rfl 41 cs (0, 0) _ r0 Tryz.underlying41 rfl hi33 ?_)
  refine (KC.out _ b0.out).mono ?_
  rintro e w1 ⟨⟨c1, rfl, h1⟩, hb⟩
  have hi1 := info33s c1 h1.ig.size
  have z1 : zS.size = c1.size := h1.ig.size.symm
  have a1 := all_one h1.ps.one
  have b1 : Hid (Below w.heap.size w w1) := bel2 b0.out hb
  have s0 := row_below hb r0
  have s1 := row_below hb r1
  have s2 := row_below hb r2
  have H1 : Hid (Og (fun _ => True) W0.heap.size w1 (n + 1) c1 s) := h1
  have n1 : (w1.alloc (.cells zS 41)).heap[w1.heap.size]? = some (.cells zS 41 (0, 0)) := heap_alloc_new w1 _
  have HS1 : Hid (w.heap.size + 1 + 1 < W0.heap.size) := (Array.getElem?_eq_some_iff.1 r2).1
  have HL1 : Hid (W0.heap.size ≤ w1.heap.size) := hb.size
  clear hb r0 r1 r2 h1 KC
  go_upto_region 2 with (refine wpList_store_row rfl 41 _ _ rfl w1.heap.size c1 rfl rfl 41 zS n1 hi1 z1 a1 ?_)
  rw [World.setRow_alloc_new]
  have hb := bel1 w1 (.cells c1 41)
  have t0 := row_below hb s0
  have t1 := row_below hb s1
  have t2 := row_below hb s2
  have t3 : (w1.alloc (.cells c1 41)).heap[w1.heap.size]? = some (.cells c1 41 (0, 0)) := heap_alloc_new w1 _
  have b2 : Hid (Below w.heap.size w (w1.alloc (.cells c1 41))) := bel2 b1.out hb
  have H2 : Hid (Below w1.heap.size w1 (w1.alloc (.cells c1 41))) := hb
  have HZ2 : Hid (w1.heap.size < (w1.alloc (.cells c1 41)).heap.size) := by show _ < _; simp
  clear hb s0 s1 s2 n1
  generalize w1.alloc (.cells c1 41) = W2 at t0 t1 t2 t3 b2 H2 HZ2 ⊢
  go_wp2_with (first | refine wpList_load_row rfl 41 _ rfl w.heap.size rfl 41 cs (0, 0) _ t0 Tryz.underlying41 rfl hi33 ?_ | refine wpList_load_row rfl 54 _ rfl (w.heap.size + 1) rfl 54 es (0, 0) _ t1 Tryz.underlying54 rfl hi46 ?_)
  refine (KR.out _ b2.out).mono ?_
  rintro e w3 ⟨⟨r, rfl, hr1, hr2⟩, hb⟩
  have HRc : Hid ((MayE (n + 1) x → r = refC s x) ∧ (¬ MayE (n + 1) x → r = 1)) := ⟨hr1, hr2⟩
  have u1 := row_below hb t1
  have u2 := row_below hb t2
  have u3 := row_below hb t3
  have b3 : Hid (Below w.heap.size w w3) := bel2 b2.out hb
  have H3 : Hid (Below w1.heap.size w1 w3) := bel2 H2.out hb
  have HZ3 : Hid (w1.heap.size < w3.heap.size) := Nat.lt_of_lt_of_le HZ2.out hb.size
  clear hb t0 t1 t2 t3 H2 HZ2 hr1 hr2
  by_cases hr : r = 0
  · subst hr
    have HM : Hid (MayE (n + 1) x) := by
      show MayE (n + 1) x
      by_cases hm : MayE (n + 1) x
      · exact hm
      · have := HRc.out.2 hm
        omega
    go_wp2_with (refine wpList_load_row rfl 54 _ rfl (w.heap.size + 1) rfl 54 es (0, 0) _ u1 Tryz.underlying54 rfl hi46 ?_)
    refine (KE.out _ b3.out).mono ?_
    rintro e w4 ⟨⟨e1, rfl, h4⟩, hb⟩
    have v2 := row_below hb u2
    have v3 := row_below hb u3
    have b4 : Hid (Below w.heap.size w w4) := bel2 b3.out hb
    have H4 : Below w1.heap.size w1 w4 := bel2 H3.out hb
    have hz := HZ3.out
    have hn := H1.out
    have KG := change_calls W0.heap.size w1.heap.size n c1 e1 s x w4 v3 (H1.out.box H4 (Nat.le_refl _)) (h4.map fun v t hv => hv.keep (fun b _ hf => ⟨by have := hf.1; omega, ⟨by have := hf.1; have := HL1.out; omega, hf.2⟩, hn.nb (by have := hf.1; omega)⟩) (fun _ _ _ => rfl)) HL1.out HM.out.kind (refC_fits (HRc.out.1 HM.out).symm).1 HL.out.1 HL.out.2
    have KG2 : Hid (Calls Tryz.prog 70 #[.pointer (some ⟨w1.heap.size, 0, none⟩), .agg e1] w4 (ChP W0.heap.size w1.heap.size (n + 1) (chg s x) w4)) := KG
    have HW : Hid (W0.heap.size ≤ w4.heap.size) := Nat.le_trans HL1.out H4.size
    have HW0 : Hid (w.heap.size ≤ W0.heap.size) := b0.out.size
    clear hb u1 u2 u3 h4 H4 hz hn KG v3
    go_wp2_with fail
    refine KG2.out.mono ?_
    rintro e w5 ⟨rfl, c5, r5, o5, hb5⟩
    have v5 : w5.heap[w.heap.size + 1 + 1]? = some (.cells zS 41 (0, 0)) := by rw [hb5.block _ HS1.out]; exact v2
    have b5 : Hid (Below w.heap.size w w5) := b4.out.trans (hb5.mono HW0.out)
    have hi5 := info33s c5 o5.ig.size
    have z5 : zS.size = c5.size := o5.ig.size.symm
    have a5 := all_one o5.ps.one
    have HP5 : Hid (Ps (Free W0.heap.size w5) w5 (n + 1) c5 (chg s x)) := o5.ps
    clear KG2 v2 hb5 o5
    go_wp2_with (first | refine wpList_load_row rfl 41 _ rfl w1.heap.size rfl 41 c5 (0, 0) _ r5 Tryz.underlying41 rfl hi5 ?_ | refine wpList_store_row rfl 41 _ _ rfl (w.heap.size + 1 + 1) c5 rfl rfl 41 zS v5 hi5 z5 a5 ?_)
    have k9 := setRow_heap w5 (w.heap.size + 1 + 1) zS c5 41 (0, 0) v5
    have hl : (loadVar 41 ⟨w.heap.size + 1 + 1, 0, none⟩).run Tryz.prog (w5.setRow (w.heap.size + 1 + 1) c5) = .ok (.agg c5) (w5.setRow (w.heap.size + 1 + 1) c5) := run_loadVar_row _ (w.heap.size + 1 + 1) 41 41 c5 (0, 0) _ k9 Tryz.underlying41 rfl hi5
    exact bodyPost_ret (v := .tuple #[.agg c5, .int .i64 0]) (ret_cell_tmp Tryz.results54 _ rfl rfl hl) rfl (HQ.out c5 0 (chg s x) _ ⟨HRc.out.1, HRc.out.2, by rw [if_pos rfl]⟩ (HP5.out.low HW0.out (setRow_kb _ _ _) HS1.out) (below_setRow b5.out (by omega) _))
  · have HN : Hid (r ≠ 0) := hr
    have hre : (r == 0) = false := by simpa using hr
    have HP3 : Hid (Ps (Free W0.heap.size w3) w3 (n + 1) c1 s) := (H1.out.box H3.out (Nat.le_refl _)).ps
    have HW0 : Hid (w.heap.size ≤ W0.heap.size) := b0.out.size
    go_wp2_with (first | refine wpList_load_row rfl 41 _ rfl w1.heap.size rfl 41 c1 (0, 0) _ u3 Tryz.underlying41 rfl hi1 ?_ | refine wpList_store_row rfl 41 _ _ rfl (w.heap.size + 1 + 1) c1 rfl rfl 41 zS u2 hi1 z1 a1 ?_)
    have k9 := setRow_heap w3 (w.heap.size + 1 + 1) zS c1 41 (0, 0) u2
    have hl : (loadVar 41 ⟨w.heap.size + 1 + 1, 0, none⟩).run Tryz.prog (w3.setRow (w.heap.size + 1 + 1) c1) = .ok (.agg c1) (w3.setRow (w.heap.size + 1 + 1) c1) := run_loadVar_row _ (w.heap.size + 1 + 1) 41 41 c1 (0, 0) _ k9 Tryz.underlying41 rfl hi1
    exact bodyPost_ret (v := .tuple #[.agg c1, .int .i64 r]) (ret_cell_tmp Tryz.results54 _ rfl rfl hl) rfl (HQ.out c1 r s _ ⟨HRc.out.1, HRc.out.2, by rw [if_neg HN.out]⟩ (HP3.out.low HW0.out (setRow_kb _ _ _) HS1.out) (below_setRow b3.out (by omega) _))
end Go.Proofs.YtcdhlklmnnmpoaaGreat
