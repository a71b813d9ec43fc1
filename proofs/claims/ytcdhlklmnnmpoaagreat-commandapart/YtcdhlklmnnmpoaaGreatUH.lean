/- The contracts of changeTimers. -/
import Derived.Test.YtcdhlklmnnmpoaaGreatUF
import Derived.Test.YtcdhlklmnnmpoaaGreatUG
namespace Go.Proofs.YtcdhlklmnnmpoaaGreat
open Go.ChangeShapes Go.WideShapes Go.ChangeAt Go.RowKit
/-- A list of the box at B became v, which is its own; then the writes ps. -/
structure Lw (lo B : Nat) (t : TypeId) (k : Nat) (u : Value) (rows : List (Array Value)) (w : World) (v : Value) (W : World) : Prop where
  own : W.ownsRow lo t k v rows.length (rows.flatMap Array.toList)
  bel : Below lo w W
  keep : ∀ B', B' < w.heap.size → B' ≠ B → u.ownBlock ≠ some B' → W.heap[B']? = w.heap[B']?
  blk : v.ownBlock = u.ownBlock ∨ ∀ B', v.ownBlock = some B' → w.heap.size ≤ B'
def LsP (lo B : Nat) (cs : Array Value) (j : Nat) (t : TypeId) (k : Nat) (u : Value) (rows : List (Array Value)) (ps : List (Nat × Value)) (w : World) (e : Ending) (w' : World) : Prop :=
  e = .returned (.tuple #[]) ∧ ∃ v, w'.heap[B]? = some (.cells (puts (cs.setIfInBounds j v) ps) 41 (0, 0)) ∧ Lw lo B t k u rows w v w'
theorem Lw.kb {lo B : Nat} {t : TypeId} {k : Nat} {u : Value} {rows : List (Array Value)} {w W W' : World} {v : Value} {cs : Array Value} (h : Lw lo B t k u rows w v W) (hB : W.heap[B]? = some (.cells cs 41 (0, 0))) (ht : t ≠ 41) (hlo : lo ≤ B) (hk : KB B W W') : Lw lo B t k u rows w v W' :=
  ⟨owns_blk h.own (Nat.le_refl _) fun B' hB' => ne_blk hk (h.own.lt B' hB').2 (fun e => by
      obtain ⟨_, ⟨rfl, _⟩ | ⟨g, cap, cur, rfl, _, hg, _⟩⟩ := h.own
      · cases hB'
      · cases hB'
        have e : g = B := e
        rw [e] at hg
        rw [hB] at hg
        cases hg
        exact ht rfl), h.bel.trans (hk.below hlo (by have := (Array.getElem?_eq_some_iff.1 hB).1; omega)), fun B' h1 h2 h3 => (ne_blk hk (by have := h.bel.size; omega) h2).trans (h.keep B' h1 h2 h3), h.blk⟩
theorem box_ne {w : World} {lo B k n : Nat} {t : TypeId} {u : Value} {xs : List Value} {cs : Array Value} (h : w.ownsRow lo t k u n xs) (ht : t ≠ 41) (hB : w.heap[B]? = some (.cells cs 41 (0, 0))) : u.ownBlock ≠ some B := fun e => by
  obtain ⟨_, ⟨rfl, _⟩ | ⟨g, cap, cur, rfl, _, hg, _⟩⟩ := h
  · cases e
  · cases e
    rw [hB] at hg
    cases hg
    exact ht rfl
theorem ad_lw {lo B k : Nat} {t : TypeId} {u : Value} {rows : List (Array Value)} {w w1 : World} {es cs : Array Value} {v : Value} (hu : ∀ B', u.ownBlock = some B' → B' < w.heap.size) (hne : u.ownBlock ≠ some B) (hB : w.heap[B]? = some (.cells cs 41 (0, 0))) (hlo : lo ≤ w.heap.size)
    (h1 : w1.ownsRow lo t k v rows.length (rows.flatMap Array.toList)) (h2 : Below lo (w.alloc (.cells es 54)).drew w1) (h3 : ∀ B', B' < (w.alloc (.cells es 54)).drew.heap.size → u.ownBlock ≠ some B' → w1.heap[B']? = (w.alloc (.cells es 54)).drew.heap[B']?) (h4 : v.ownBlock = u.ownBlock ∨ ∀ B', v.ownBlock = some B' → (w.alloc (.cells es 54)).drew.heap.size ≤ B') :
    Lw lo B t k u rows w v w1 ∧ w1.heap[B]? = some (.cells cs 41 (0, 0)) ∧ w1.heap[w.heap.size]? = some (.cells es 54 (0, 0)) := by
  have hb := bel1 w (.cells es 54)
  have hlt := (Array.getElem?_eq_some_iff.1 hB).1
  have hsz : w.heap.size < (w.alloc (.cells es 54)).drew.heap.size := by show _ < (w.alloc (.cells es 54)).heap.size; simp
  refine ⟨⟨h1, ((hb.mono hlo).drew).trans h2, fun B' b1 _ b3 => (h3 B' (by omega) b3).trans (hb.block B' b1), h4.imp id fun h B' hB' => ?_⟩, ?_, ?_⟩
  · have := h B' hB'
    omega
  · rw [h3 B (by omega) hne]
    exact row_below hb hB
  · rw [h3 w.heap.size hsz (fun e => by have := hu _ e; omega)]
    exact heap_alloc_last w _
set_option maxHeartbeats 4000000 in
set_option maxRecDepth 100000 in
theorem timers9 (lo B : Nat) (cs es : Array Value) (l : List Tm) (a : Option Addr) (c : Nat) (q : ByteArray) (d : Int) (w : World) (hg : w.heap[B]? = some (.cells cs 41 (0, 0))) (c23 : cs[23]? = some (.slice a l.length c)) (hO : w.ownsRow lo 120 2 (.slice a l.length c) l.length ((l.map Tm.cells).flatMap Array.toList)) (hn : l.length ≤ 500) (hlo : lo ≤ B)
    (e0 : es[0]? = some (.int .i64 9)) (e3 : es[3]? = some (.int .i64 d)) (e4 : es[4]? = some (.string q)) :
    Calls Tryz.prog 84 #[.pointer (some ⟨B, 0, none⟩), .agg es] w (LsP lo B cs 23 120 2 (.slice a l.length c) ((insL (fun x => gtS x.s q) l ⟨q, d⟩).map Tm.cells) [] w) := by
  have hBl : B < w.heap.size := (Array.getElem?_eq_some_iff.1 hg).1
  have hlw : lo ≤ w.heap.size := by omega
  have hne : (Value.slice a l.length c).ownBlock ≠ some B := box_ne hO (by decide) hg
  have hub : ∀ B', (Value.slice a l.length c).ownBlock = some B' → B' < w.heap.size := fun B' h => (hO.lt B' h).2
  have hO2 : (w.alloc (.cells es 54)).drew.ownsRow lo 120 2 (.slice a l.length c) l.length ((l.map Tm.cells).flatMap Array.toList) := owns_blk hO (Nat.le_refl _) fun B' h => (bel1 w (.cells es 54)).block B' (hub B' h)
  have hc4 : (w.alloc (.cells es 54)).drew.cell? ⟨w.heap.size, 4, none⟩ = some (.string q) := row_cell (heap_alloc_last w _) e4
  have key := addT_calls lo l (.slice a l.length c) ⟨q, d⟩ q w.heap.size (w.alloc (.cells es 54)).drew hO2 hn hc4 (Nat.le_trans hlw (bel1 w (.cells es 54)).size)
  have HQ : Hid (∀ v W, W.heap[B]? = some (.cells (cs.setIfInBounds 23 v) 41 (0, 0)) → Lw lo B 120 2 (.slice a l.length c) ((insL (fun x => gtS x.s q) l ⟨q, d⟩).map Tm.cells) w v W → LsP lo B cs 23 120 2 (.slice a l.length c) ((insL (fun x => gtS x.s q) l ⟨q, d⟩).map Tm.cells) [] w (.returned (.tuple #[])) W) := fun v W h1 h2 => ⟨rfl, v, h1, h2⟩
  generalize LsP lo B cs 23 120 2 (.slice a l.length c) ((insL (fun x => gtS x.s q) l ⟨q, d⟩).map Tm.cells) [] w = Q at HQ ⊢
  generalize (insL (fun x => gtS x.s q) l ⟨q, d⟩).map Tm.cells = rows at key HQ
  have KA : Hid (Calls Tryz.prog 99 #[.slice a l.length c, .agg #[.string q, .int .i64 d], .func (.func 100) #[] #[.pointer (some ⟨w.heap.size, 0, none⟩)]] (w.alloc (.cells es 54)).drew (fun e w1 => ∃ v, e = .returned v ∧ Lw lo B 120 2 (.slice a l.length c) rows w v w1 ∧ w1.heap[B]? = some (.cells cs 41 (0, 0)) ∧ w1.heap[w.heap.size]? = some (.cells es 54 (0, 0)))) :=
    key.mono fun e w1 ⟨v, h0, h1, h2, h3, h4⟩ => ⟨v, h0, ad_lw hub hne hg hlw h1 h2 h3 h4⟩
  have HNe : Hid (B < w.heap.size) := hBl
  have HLo : Hid (lo ≤ B) := hlo
  have x23 : (w.alloc (.cells es 54)).cell? ⟨B, 23, none⟩ = some (.slice a l.length c) := row_cell (row_below (bel1 _ _) hg) c23
  have x4 : (w.alloc (.cells es 54)).cell? ⟨w.heap.size, 4, none⟩ = some (.string q) := row_cell (heap_alloc_last w _) e4
  have x3 : (w.alloc (.cells es 54)).cell? ⟨w.heap.size, 3, none⟩ = some (.int .i64 d) := row_cell (heap_alloc_last w _) e3
  have xf : (w.alloc (.cells es 54)).frozen? ⟨B, 23, none⟩ = false := frozen_of_row _ B 23 _ 41 (row_below (bel1 _ _) hg)
  clear hO hn hlw hne hub hO2 hc4 key hg hlo hBl
  generalize l.length = m at KA HQ c23 x23 ⊢
  clear l
  go_enter Tryz.func84, Tryz.ntmps84
  go_wp2_with fail
  generalize w.alloc (.cells es 54) = W0 at KA x23 x4 x3 xf ⊢
  refine wp_region_held_drew (S := (fun w' => w'.cell? ⟨w.heap.size, 4, none⟩ = some (.string q) ∧ w'.cell? ⟨w.heap.size, 3, none⟩ = some (.int .i64 d))) (by kernel_rfl) ⟨x4, x3⟩ (fun hHeld => ?_)
  change wpAnyH _ _ _ _ _ _ _ _ (World.drew _)
  refine wpAnyH_take (i := 0) (oi := { dst := some 8, op := Go.Op.move (Go.Operand.tmp 0), type := 113, pos := "step.go:136", after := #[], guard := none }) (v := ?_) rfl (by kernel_rfl) (by kernel_rfl) (by kernel_rfl) (fun _ _ _ h => h) (Or.inl ⟨by rfl, ?_⟩) hHeld ?_
  rotate_left 1
  · (intro w hSw; (try dsimp only at hSw); go_simp <;> with_reducible rfl)
  simp only [Act.put, List.setIfInBounds_toArray, List.set_cons_zero, List.set_cons_succ]
  refine wpAnyH_take (i := 1) (oi := { dst := some 9, op := Go.Op.move (Go.Operand.tmp 0), type := 113, pos := "step.go:136", after := #[], guard := none }) (v := ?_) rfl (by kernel_rfl) (by kernel_rfl) (by kernel_rfl) (fun _ _ _ h => h) (Or.inl ⟨by rfl, ?_⟩) hHeld ?_
  rotate_left 1
  · (intro w hSw; (try dsimp only at hSw); go_simp <;> with_reducible rfl)
  simp only [Act.put, List.setIfInBounds_toArray, List.set_cons_zero, List.set_cons_succ]
  refine wpAnyH_take (i := 2) (oi := { dst := some 10, op := Go.Op.nilCheck (Go.Operand.tmp 9), type := 0, pos := "step.go:136", after := #[{ on := 1, ground := Go.Ground.data }], guard := none }) (v := ?_) rfl (by kernel_rfl) (by kernel_rfl) (by kernel_rfl) (fun _ _ _ h => h) (Or.inl ⟨by rfl, ?_⟩) hHeld ?_
  rotate_left 1
  · (intro w hSw; (try dsimp only at hSw); go_simp <;> with_reducible rfl)
  simp only [Act.put, List.setIfInBounds_toArray, List.set_cons_zero, List.set_cons_succ]
  refine wpAnyH_take (i := 3) (oi := { dst := some 11, op := Go.Op.fieldAddr 41 (Go.Operand.tmp 10) 13, type := 0, pos := "step.go:136", after := #[{ on := 2, ground := Go.Ground.data }], guard := none }) (v := ?_) rfl (by kernel_rfl) (by kernel_rfl) (by kernel_rfl) (fun _ _ _ h => h) (Or.inl ⟨by rfl, ?_⟩) hHeld ?_
  rotate_left 1
  · (intro w hSw; (try dsimp only at hSw); go_simp <;> with_reducible rfl)
  simp only [Act.put, List.setIfInBounds_toArray, List.set_cons_zero, List.set_cons_succ]
  refine wpAnyH_take (i := 5) (oi := { dst := some 13, op := Go.Op.fieldAddr 54 (Go.Operand.tmp 3) 4, type := 0, pos := "step.go:136", after := #[], guard := none }) (v := ?_) rfl (by kernel_rfl) (by kernel_rfl) (by kernel_rfl) (fun _ _ _ h => h) (Or.inl ⟨by rfl, ?_⟩) hHeld ?_
  rotate_left 1
  · (intro w hSw; (try dsimp only at hSw); go_simp <;> with_reducible rfl)
  simp only [Act.put, List.setIfInBounds_toArray, List.set_cons_zero, List.set_cons_succ]
  refine wpAnyH_take (i := 6) (oi := { dst := some 14, op := Go.Op.load 9 (Go.Operand.tmp 13), type := 9, pos := "step.go:136", after := #[{ on := 5, ground := Go.Ground.data }], guard := none }) (v := ?_) rfl (by kernel_rfl) (by kernel_rfl) (by kernel_rfl) (fun _ _ _ h => h) (Or.inl ⟨by rfl, ?_⟩) hHeld ?_
  rotate_left 1
  · (intro w hSw; (try dsimp only at hSw); go_simp <;> with_reducible rfl)
  simp only [Act.put, List.setIfInBounds_toArray, List.set_cons_zero, List.set_cons_succ]
  refine wpAnyH_take (i := 7) (oi := { dst := some 15, op := Go.Op.fieldAddr 54 (Go.Operand.tmp 3) 3, type := 0, pos := "step.go:136", after := #[], guard := none }) (v := ?_) rfl (by kernel_rfl) (by kernel_rfl) (by kernel_rfl) (fun _ _ _ h => h) (Or.inl ⟨by rfl, ?_⟩) hHeld ?_
  rotate_left 1
  · (intro w hSw; (try dsimp only at hSw); go_simp <;> with_reducible rfl)
  simp only [Act.put, List.setIfInBounds_toArray, List.set_cons_zero, List.set_cons_succ]
  refine wpAnyH_take (i := 8) (oi := { dst := some 16, op := Go.Op.load 3 (Go.Operand.tmp 15), type := 3, pos := "step.go:136", after := #[{ on := 7, ground := Go.Ground.data }], guard := none }) (v := ?_) rfl (by kernel_rfl) (by kernel_rfl) (by kernel_rfl) (fun _ _ _ h => h) (Or.inl ⟨by rfl, ?_⟩) hHeld ?_
  rotate_left 1
  · (intro w hSw; (try dsimp only at hSw); go_simp <;> with_reducible rfl)
  simp only [Act.put, List.setIfInBounds_toArray, List.set_cons_zero, List.set_cons_succ]
  refine wpAnyH_take (i := 9) (oi := { dst := some 17, op := Go.Op.build 120 #[(0, Go.Operand.tmp 14), (1, Go.Operand.tmp 16)], type := 120, pos := "step.go:136", after := #[{ on := 6, ground := Go.Ground.data }, { on := 8, ground := Go.Ground.data }], guard := none }) (v := ?_) rfl (by kernel_rfl) (by kernel_rfl) (by kernel_rfl) (fun _ _ _ h => h) (Or.inl ⟨by rfl, ?_⟩) hHeld ?_
  rotate_left 1
  · (intro w hSw; (try dsimp only at hSw); go_simp <;> with_reducible rfl)
  simp only [Act.put, List.setIfInBounds_toArray, List.set_cons_zero, List.set_cons_succ]
  refine wpAnyH_take (i := 10) (oi := { dst := some 18, op := Go.Op.makeFunc (Go.Fn.func 100) #[] #[Go.Operand.tmp 3], type := 131, pos := "step.go:136", after := #[], guard := none }) (v := ?_) rfl (by kernel_rfl) (by kernel_rfl) (by kernel_rfl) (fun _ _ _ h => h) (Or.inl ⟨by rfl, ?_⟩) hHeld ?_
  rotate_left 1
  · (intro w hSw; (try dsimp only at hSw); go_simp <;> with_reducible rfl)
  simp only [Act.put, List.setIfInBounds_toArray, List.set_cons_zero, List.set_cons_succ]
  refine wpAnyH_ready (rs := [4]) (by kernel_rfl) (by simp) ?_
  refine AllReadyH.cons (o := { dst := some 12, op := Go.Op.load 38 (Go.Operand.tmp 11), type := 38, pos := "step.go:136", after := #[{ on := 3, ground := Go.Ground.data }], guard := none }) rfl (fun K hK => ?_) AllReadyH.nil
  go_simp
  refine hK.out _ _ hHeld (fun hHeld => ?_)
  clear hK K
  refine wpAnyH_ready (rs := [11]) (by kernel_rfl) (by simp) ?_
  refine AllReadyH.cons (o := { dst := some 19, op := Go.Op.call { callee := Go.Callee.value (Go.Operand.func 99), args := #[Go.Operand.tmp 12, Go.Operand.tmp 17, Go.Operand.tmp 18], argTypes := #[38, 120, 131] }, type := 38, pos := "step.go:136", after := #[{ on := 4, ground := Go.Ground.data }, { on := 9, ground := Go.Ground.data }, { on := 10, ground := Go.Ground.data }], guard := none }) rfl (fun K hK => ?_) AllReadyH.nil
  go_simp
  refine KA.out.mono ?_
  rintro e w1 ⟨v, rfl, hl, hb1, hg1⟩
  obtain ⟨a1, c1, rfl⟩ := owns_shape hl.own
  have HL : Hid (Lw lo B 120 2 (.slice a m c) rows w (.slice a1 rows.length c1) w1) := hl
  have HB1 : Hid (w1.heap[B]? = some (.cells cs 41 (0, 0))) := hb1
  have s23 : w1.cell? ⟨B, 23, none⟩ = some (.slice a m c) := row_cell hb1 c23
  have s4 : w1.cell? ⟨w.heap.size, 4, none⟩ = some (.string q) := row_cell hg1 e4
  have s3 : w1.cell? ⟨w.heap.size, 3, none⟩ = some (.int .i64 d) := row_cell hg1 e3
  have sf : w1.frozen? ⟨B, 23, none⟩ = false := frozen_of_row w1 B 23 _ 41 hb1
  have HG1 : Hid (w1.heap[w.heap.size]? = some (.cells es 54 (0, 0))) := hg1
  clear hl hb1 hg1
  refine hK.out _ _ ⟨s4, s3⟩ (fun hHeld => ?_)
  clear hK K
  refine wpAnyH_take (i := 12) (oi := { dst := some 20, op := Go.Op.nilCheck (Go.Operand.tmp 8), type := 0, pos := "step.go:136", after := #[{ on := 0, ground := Go.Ground.data }, { on := 0, ground := Go.Ground.phase }, { on := 1, ground := Go.Ground.phase }, { on := 2, ground := Go.Ground.phase }, { on := 3, ground := Go.Ground.phase }, { on := 4, ground := Go.Ground.phase }, { on := 5, ground := Go.Ground.phase }, { on := 6, ground := Go.Ground.phase }, { on := 7, ground := Go.Ground.phase }, { on := 8, ground := Go.Ground.phase }, { on := 9, ground := Go.Ground.phase }, { on := 10, ground := Go.Ground.phase }, { on := 11, ground := Go.Ground.phase }], guard := none }) (v := ?_) rfl (by kernel_rfl) (by kernel_rfl) (by kernel_rfl) (fun _ _ _ h => h) (Or.inl ⟨by rfl, ?_⟩) hHeld ?_
  rotate_left 1
  · (intro w hSw; (try dsimp only at hSw); go_simp <;> with_reducible rfl)
  simp only [Act.put, List.setIfInBounds_toArray, List.set_cons_zero, List.set_cons_succ]
  refine wpAnyH_take (i := 13) (oi := { dst := some 21, op := Go.Op.fieldAddr 41 (Go.Operand.tmp 20) 13, type := 0, pos := "step.go:136", after := #[{ on := 12, ground := Go.Ground.data }, { on := 0, ground := Go.Ground.phase }, { on := 1, ground := Go.Ground.phase }, { on := 2, ground := Go.Ground.phase }, { on := 3, ground := Go.Ground.phase }, { on := 4, ground := Go.Ground.phase }, { on := 5, ground := Go.Ground.phase }, { on := 6, ground := Go.Ground.phase }, { on := 7, ground := Go.Ground.phase }, { on := 8, ground := Go.Ground.phase }, { on := 9, ground := Go.Ground.phase }, { on := 10, ground := Go.Ground.phase }, { on := 11, ground := Go.Ground.phase }], guard := none }) (v := ?_) rfl (by kernel_rfl) (by kernel_rfl) (by kernel_rfl) (fun _ _ _ h => h) (Or.inl ⟨by rfl, ?_⟩) hHeld ?_
  rotate_left 1
  · (intro w hSw; (try dsimp only at hSw); go_simp <;> with_reducible rfl)
  simp only [Act.put, List.setIfInBounds_toArray, List.set_cons_zero, List.set_cons_succ]
  refine wpAnyH_ready (rs := [14]) (by kernel_rfl) (by simp) ?_
  refine AllReadyH.cons (o := { dst := none, op := Go.Op.store 38 (Go.Operand.tmp 21) (Go.Operand.tmp 19), type := 0, pos := "step.go:136", after := #[{ on := 13, ground := Go.Ground.data }, { on := 11, ground := Go.Ground.data }, { on := 11, ground := Go.Ground.chain }, { on := 0, ground := Go.Ground.phase }, { on := 1, ground := Go.Ground.phase }, { on := 2, ground := Go.Ground.phase }, { on := 3, ground := Go.Ground.phase }, { on := 4, ground := Go.Ground.phase }, { on := 5, ground := Go.Ground.phase }, { on := 6, ground := Go.Ground.phase }, { on := 7, ground := Go.Ground.phase }, { on := 8, ground := Go.Ground.phase }, { on := 9, ground := Go.Ground.phase }, { on := 10, ground := Go.Ground.phase }, { on := 11, ground := Go.Ground.phase }], guard := none }) rfl (fun K hK => ?_) AllReadyH.nil
  have k1 := KB.setCell B w1 23 (.slice a1 rows.length c1)
  have hx := row_kb HG1.out k1 (by have := HNe.out; omega)
  have hy := heap_setCell_same w1 B 23 cs 41 (.slice a1 rows.length c1) HB1.out
  have HX : Hid ((w1.setCell ⟨B, 23, none⟩ (.slice a1 rows.length c1)).heap[w.heap.size]? = some (.cells es 54 (0, 0))) := hx
  have HY : Hid ((w1.setCell ⟨B, 23, none⟩ (.slice a1 rows.length c1)).heap[B]? = some (.cells (cs.setIfInBounds 23 (.slice a1 rows.length c1)) 41 (0, 0))) := hy
  have HLk : Hid (Lw lo B 120 2 (.slice a m c) rows w (.slice a1 rows.length c1) (w1.setCell ⟨B, 23, none⟩ (.slice a1 rows.length c1))) := HL.out.kb HB1.out (by decide) HLo.out k1
  clear k1 hx hy
  go_simp
  refine hK.out _ _ ⟨row_cell HX.out e4, row_cell HX.out e3⟩ (fun hHeld => ?_)
  clear hK K
  refine wpAnyH_done (by kernel_rfl) ?_ _
  go_wp2_with fail
  go_end0
  exact HQ.out _ _ HY.out HLk.out
end Go.Proofs.YtcdhlklmnnmpoaaGreat
