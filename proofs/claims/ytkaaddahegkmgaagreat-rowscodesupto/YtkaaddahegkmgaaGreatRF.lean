/- Rows of the call's own; the contract of cloneRows. -/
import Derived.Test.YtkaaddahegkmgaaGreatRE
import Derived.Deep.Cut
import Derived.Deep.RegionHeld3
import Derived.Deep.QuietTactic
import Derived.BigQuiet
namespace Go.Proofs.YtkaaddahegkmgaaGreat
open Go.ChangeShapes Go.WideShapes Go.ChangeAt Go.RowKit
theorem Gr.lo {α : Type} {E : El α} {lo lo' : Nat} {Q : Nat → Prop} {w : World} {u : Value} {xs : List α} (h : Gr E lo Q w u xs) (hl : lo' ≤ lo) : Gr E lo' Q w u xs := by
  obtain ⟨cells, ⟨h1, h2⟩, hc⟩ := h
  refine ⟨cells, ⟨h1, ?_⟩, hc⟩
  rcases h2 with h2 | ⟨g, cap, cur, hu, hB, r⟩
  · exact .inl h2
  · exact .inr ⟨g, cap, cur, hu, Nat.le_trans hl hB, r⟩
/-- u and b are the lists of the rows r, each in a block of the call's own. -/
structure OwnD (lo : Nat) (w : World) (u b : Value) (r : Db) : Prop where
  rows : Gr rowE lo (fun B => lo ≤ B ∧ b.ownBlock ≠ some B) w u r.rows
  brs : Gr brE lo (fun B => lo ≤ B ∧ u.ownBlock ≠ some B) w b r.brs
  ne : ∀ B, u.ownBlock = some B → b.ownBlock ≠ some B
theorem OwnD.keep {lo : Nat} {w w' : World} {u b : Value} {r : Db} (h : OwnD lo w u b r) (hk : ∀ B, lo ≤ B → B < w.heap.size → w'.heap[B]? = w.heap[B]?) : OwnD lo w' u b r :=
  ⟨h.rows.keep (fun B hB => hk B (h.rows.lt B hB).1 (h.rows.lt B hB).2) (fun B hB hl => ⟨hk B hB.1 hl, hB⟩), h.brs.keep (fun B hB => hk B (h.brs.lt B hB).1 (h.brs.lt B hB).2) (fun B hB hl => ⟨hk B hB.1 hl, hB⟩), h.ne⟩
theorem OwnD.lo {lo lo' : Nat} {w : World} {u b : Value} {r : Db} (h : OwnD lo w u b r) (hl : lo' ≤ lo) : OwnD lo' w u b r :=
  ⟨(h.rows.keep (fun _ _ => rfl) (fun _B hB _ => ⟨rfl, Nat.le_trans hl hB.1, hB.2⟩)).lo hl, (h.brs.keep (fun _ _ => rfl) (fun _B hB _ => ⟨rfl, Nat.le_trans hl hB.1, hB.2⟩)).lo hl, h.ne⟩
theorem OwnD.below {lo : Nat} {w w' : World} {u b : Value} {r : Db} (h : OwnD lo w u b r) (hb : Below w.heap.size w w') : OwnD lo w' u b r := h.keep fun B _ hl => hb.block B hl
theorem OwnD.isR {lo : Nat} {w : World} {u b : Value} {r : Db} (h : OwnD lo w u b r) : IsR (fun B => lo ≤ B) w (.agg #[u, b]) r :=
  ⟨u, b, rfl, h.rows.sl (fun _B h => h.elim (fun h => h.1) id), h.brs.sl (fun _B h => h.elim (fun h => h.1) id)⟩
theorem OwnD.mk1 {w1 w2 w3 : World} {u b : Value} {r : Db} (hb2 : Below w1.heap.size w1 w2) (g2 : Gr rowE w1.heap.size (fun B => w1.heap.size ≤ B) w2 u r.rows) (g3 : Gr brE w2.heap.size (fun B => w2.heap.size ≤ B) w3 b r.brs) (hb3 : Below w2.heap.size w2 w3) : OwnD w1.heap.size w3 u b r := by
  have l2 := g2.lt
  have l3 := g3.lt
  have s2 := hb2.size
  exact ⟨g2.keep (fun B hB => hb3.block B (l2 B hB).2) (fun B hB hl => ⟨hb3.block B hl, hB, fun e => by have := l3 B e; omega⟩),
    (g3.keep (fun _ _ => rfl) (fun B hB _ => ⟨rfl, Nat.le_trans s2 hB, fun e => by have h1 := l2 B e; have h2 : w2.heap.size ≤ B := hB; omega⟩)).lo s2,
    fun B h1 h2 => by have := l2 B h1; have := l3 B h2; omega⟩
theorem OwnD.mk2 {w1 w2 w3 : World} {u b : Value} {r : Db} (hb2 : Below w1.heap.size w1 w2) (g2 : Gr brE w1.heap.size (fun B => w1.heap.size ≤ B) w2 b r.brs) (g3 : Gr rowE w2.heap.size (fun B => w2.heap.size ≤ B) w3 u r.rows) (hb3 : Below w2.heap.size w2 w3) : OwnD w1.heap.size w3 u b r := by
  have l2 := g2.lt
  have l3 := g3.lt
  have s2 := hb2.size
  exact ⟨(g3.keep (fun _ _ => rfl) (fun B hB _ => ⟨rfl, Nat.le_trans s2 hB, fun e => by have h1 := l2 B e; have h2 : w2.heap.size ≤ B := hB; omega⟩)).lo s2,
    g2.keep (fun B hB => hb3.block B (l2 B hB).2) (fun B hB hl => ⟨hb3.block B hl, hB, fun e => by have := l3 B e; omega⟩),
    fun B h1 h2 => by have := l3 B h1; have := l2 B h2; omega⟩
/-- What rows may be, so that they can be copied. -/
structure SmD (r : Db) : Prop where
  r0 : r.rows.length ≤ 100000
  r1 : ∀ e ∈ r.rows, e.row.length ≤ 70368744177664
  b0 : r.brs.length ≤ 100000
  b1 : ∀ e ∈ r.brs, SmB e
theorem size25 : (Tryz.prog.info? 25).map (·.size) = some 2 := by kernel_rfl
theorem ret_db {fn : Func} {p : Tmp} (h : fn.results = #[.cell p 25]) (tmps : Array Value) {w : World} {g : Nat} {x y : Value} (hp : tmps.getD p undef = .pointer (some ⟨g, 0, none⟩)) (hg : w.heap[g]? = some (.cells #[x, y] 25 (0, 0))) (a b : Value) :
    (results fn tmps).run Tryz.prog ((w.setCell ⟨g, 0, none⟩ a).setCell ⟨g, 1, none⟩ b) = .ok (.agg #[a, b]) ((w.setCell ⟨g, 0, none⟩ a).setCell ⟨g, 1, none⟩ b) :=
  results_cell_row h tmps _ g 25 #[a, b] (0, 0) _ hp (set2 hg a b) Tryz.underlying25 rfl size25
theorem set_other2 (w : World) {g B : Nat} (a b : Value) (h : B ≠ g) : ((w.setCell ⟨g, 0, none⟩ a).setCell ⟨g, 1, none⟩ b).heap[B]? = w.heap[B]? := (Below.heap_setCell _ _ _ _ h).trans (Below.heap_setCell _ _ _ _ h)
theorem set_cell2 (w : World) {g B o : Nat} (a b : Value) (h : B ≠ g) : ((w.setCell ⟨g, 0, none⟩ a).setCell ⟨g, 1, none⟩ b).cell? ⟨B, o, none⟩ = w.cell? ⟨B, o, none⟩ := World.cell?_of_block (set_other2 w a b h)
theorem drewB {w w' : World} (h : Below w.drew.heap.size w.drew w') : Below w.heap.size w w' := ((Below.refl _ w).drew).trans h
set_option maxHeartbeats 4000000 in
set_option maxRecDepth 100000 in
theorem cloneRows_calls (v : Value) (r : Db) (w : World) (hv : IsR (fun _ => True) w v r) (hs : SmD r) :
    Calls Tryz.prog 36 #[v] w fun e w' => ∃ u b, e = .returned (.agg #[u, b]) ∧ OwnD w.heap.size w' u b r ∧ Below w.heap.size w w' := by
  obtain ⟨u, b, rfl, hu, hb⟩ := hv
  obtain ⟨pu, cu, rfl, _⟩ := hu.shape
  obtain ⟨pb, cb, rfl, _⟩ := hb.shape
  have HU : Hid (Sl rowE (fun _ => True) w (.slice pu r.rows.length cu) r.rows) := hu
  have HBR : Hid (Sl brE (fun _ => True) w (.slice pb r.brs.length cb) r.brs) := hb
  have HS : Hid (SmD r) := hs
  clear hu hb hs
  go_enter Tryz.func36, Tryz.ntmps36
  go_upto_region 1 with fail
  have HA : Hid (Below w.heap.size w ((w.alloc (.cells #[.slice pu r.rows.length cu, .slice pb r.brs.length cb] 25)).alloc (.cells #[.slice none 0 0, .slice none 0 0] 25))) := bel2 (bel1 _ _) (bel1 _ _)
  have HO := old2 w (.cells #[.slice pu r.rows.length cu, .slice pb r.brs.length cb] 25) (.cells #[.slice none 0 0, .slice none 0 0] 25)
  have HO2 := new2 w (.cells #[.slice pu r.rows.length cu, .slice pb r.brs.length cb] 25) (.cells #[.slice none 0 0, .slice none 0 0] 25)
  generalize (w.alloc (.cells #[.slice pu r.rows.length cu, .slice pb r.brs.length cb] 25)).alloc (.cells #[.slice none 0 0, .slice none 0 0] 25) = w1 at HA HO HO2 ⊢
  have HL1 : Hid (w.heap.size + 1 < w1.heap.size) := lt_of_row HO2
  have HLT : Hid (w.heap.size < w1.heap.size) := lt_of_row HO
  have e0 := row_cell HO (j := 0) rfl
  have e1 : w1.cell? ⟨w.heap.size, 0 + 1, none⟩ = _ := row_cell HO (j := 1) rfl
  have CR : Hid (∀ W, Below w1.heap.size w1 W → Calls Tryz.prog 62 _ W _) := fun W hB => cloneAllrow_calls _ r.rows W (HU.out.below (bel2 HA.out hB)) HS.out.r0 HS.out.r1
  have CB : Hid (∀ W, Below w1.heap.size w1 W → Calls Tryz.prog 63 _ W _) := fun W hB => cloneAllbr_calls _ r.brs W (HBR.out.below (bel2 HA.out hB)) HS.out.b0 HS.out.b1
  refine wp_region_held_drew (S := (fun W => W.cell? ⟨w.heap.size, 0, none⟩ = some (.slice pu r.rows.length cu) ∧ W.cell? ⟨w.heap.size, 0 + 1, none⟩ = some (.slice pb r.brs.length cb))) (by kernel_rfl) ⟨e0, e1⟩ (fun hHeld => ?_)
  change wpAnyH _ _ _ _ _ _ _ _ (World.drew _)
  refine wpAnyH_take (i := 0) (oi := { dst := some 3, op := Go.Op.fieldAddr 25 (Go.Operand.tmp 1) 0, type := 0, pos := "rows.go:62", after := #[], guard := none }) (v := ?_) rfl (by kernel_rfl) (by kernel_rfl) (by kernel_rfl) (fun _ _ _ h => h) (Or.inl ⟨by rfl, ?_⟩) hHeld ?_
  rotate_left 1
  · (intro w hSw; (try dsimp only at hSw); go_simp <;> with_reducible rfl)
  simp only [Act.put, List.setIfInBounds_toArray, List.set_cons_zero, List.set_cons_succ]
  refine wpAnyH_take (i := 1) (oi := { dst := some 4, op := Go.Op.load 22 (Go.Operand.tmp 3), type := 22, pos := "rows.go:62", after := #[{ on := 0, ground := Go.Ground.data }], guard := none }) (v := ?_) rfl (by kernel_rfl) (by kernel_rfl) (by kernel_rfl) (fun _ _ _ h => h) (Or.inl ⟨by rfl, ?_⟩) hHeld ?_
  rotate_left 1
  · (intro w hSw; (try dsimp only at hSw); go_simp <;> with_reducible rfl)
  simp only [Act.put, List.setIfInBounds_toArray, List.set_cons_zero, List.set_cons_succ]
  refine wpAnyH_take (i := 3) (oi := { dst := some 6, op := Go.Op.fieldAddr 25 (Go.Operand.tmp 1) 1, type := 0, pos := "rows.go:62", after := #[], guard := none }) (v := ?_) rfl (by kernel_rfl) (by kernel_rfl) (by kernel_rfl) (fun _ _ _ h => h) (Or.inl ⟨by rfl, ?_⟩) hHeld ?_
  rotate_left 1
  · (intro w hSw; (try dsimp only at hSw); go_simp <;> with_reducible rfl)
  simp only [Act.put, List.setIfInBounds_toArray, List.set_cons_zero, List.set_cons_succ]
  refine wpAnyH_take (i := 4) (oi := { dst := some 7, op := Go.Op.load 23 (Go.Operand.tmp 6), type := 23, pos := "rows.go:62", after := #[{ on := 3, ground := Go.Ground.data }], guard := none }) (v := ?_) rfl (by kernel_rfl) (by kernel_rfl) (by kernel_rfl) (fun _ _ _ h => h) (Or.inl ⟨by rfl, ?_⟩) hHeld ?_
  rotate_left 1
  · (intro w hSw; (try dsimp only at hSw); go_simp <;> with_reducible rfl)
  simp only [Act.put, List.setIfInBounds_toArray, List.set_cons_zero, List.set_cons_succ]
  refine wpAnyH_ready (rs := [2]) (by kernel_rfl) (by simp) ?_
  refine AllReadyH.cons (o := { dst := some 5, op := Go.Op.call { callee := Go.Callee.value (Go.Operand.func 62), args := #[Go.Operand.tmp 4], argTypes := #[22] }, type := 22, pos := "rows.go:62", after := #[{ on := 1, ground := Go.Ground.data }], guard := none }) rfl (fun K hK => ?_) AllReadyH.nil
  go_simp
  refine (CR.out w1.drew ((Below.refl _ w1).drew)).mono ?_
  rintro e w2 ⟨u', rfl, g2, hb2⟩
  clear hHeld
  refine hK.out _ _ (⟨((drewB hb2).cell (p := ⟨w.heap.size, 0, none⟩) HLT.out).trans e0, ((drewB hb2).cell (p := ⟨w.heap.size, 0 + 1, none⟩) HLT.out).trans e1⟩) (fun hHeld => ?_)
  clear hK K
  refine wpAnyH_ready (rs := [5]) (by kernel_rfl) (by simp) ?_
  refine AllReadyH.cons (o := { dst := some 8, op := Go.Op.call { callee := Go.Callee.value (Go.Operand.func 63), args := #[Go.Operand.tmp 7], argTypes := #[23] }, type := 23, pos := "rows.go:62", after := #[{ on := 4, ground := Go.Ground.data }, { on := 2, ground := Go.Ground.chain }], guard := none }) rfl (fun K hK => ?_) AllReadyH.nil
  go_simp
  refine (CB.out w2 ((drewB hb2))).mono ?_
  rintro e w3 ⟨b', rfl, g3, hb3⟩
  obtain ⟨au, ku, rfl, _⟩ := g2.shape
  obtain ⟨ab, kb, rfl, _⟩ := g3.shape
  have HD : Hid (OwnD w1.heap.size w3 (.slice au r.rows.length ku) (.slice ab r.brs.length kb) r) := OwnD.mk1 (drewB hb2) g2 g3 hb3
  have hb13 : Below w1.heap.size w1 w3 := bel2 (drewB hb2) hb3
  have r2 := row_below hb13 HO2
  have HRW : Hid (w3.heap[w.heap.size + 1]? = _) := r2
  have y0 := row_cell r2 (j := 0) rfl
  have y1 := row_cell r2 (j := 1) rfl
  have f2 := row_frozen r2
  have HB3 : Hid (Below w.heap.size w w3) := bel2 HA.out hb13
  clear hHeld
  refine hK.out _ _ (⟨(hb13.cell (p := ⟨w.heap.size, 0, none⟩) HLT.out).trans e0, (hb13.cell (p := ⟨w.heap.size, 0 + 1, none⟩) HLT.out).trans e1⟩) (fun hHeld => ?_)
  clear hK K
  refine wpAnyH_ready (rs := [6]) (by kernel_rfl) (by simp) ?_
  refine AllReadyH.cons (o := { dst := some 9, op := Go.Op.build 25 #[(0, Go.Operand.tmp 5), (1, Go.Operand.tmp 8)], type := 25, pos := "rows.go:62", after := #[{ on := 2, ground := Go.Ground.data }, { on := 5, ground := Go.Ground.data }], guard := none }) rfl (fun K hK => ?_) AllReadyH.nil
  go_simp
  clear hHeld
  refine hK.out _ _ (⟨(hb13.cell (p := ⟨w.heap.size, 0, none⟩) HLT.out).trans e0, (hb13.cell (p := ⟨w.heap.size, 0 + 1, none⟩) HLT.out).trans e1⟩) (fun hHeld => ?_)
  clear hK K
  clear r2
  refine wpAnyH_ready (rs := [7]) (by kernel_rfl) (by simp) ?_
  refine AllReadyH.cons (o := { dst := none, op := Go.Op.store 25 (Go.Operand.tmp 2) (Go.Operand.tmp 9), type := 0, pos := "rows.go:62", after := #[{ on := 6, ground := Go.Ground.data }, { on := 5, ground := Go.Ground.chain }, { on := 0, ground := Go.Ground.phase }, { on := 1, ground := Go.Ground.phase }, { on := 2, ground := Go.Ground.phase }, { on := 3, ground := Go.Ground.phase }, { on := 4, ground := Go.Ground.phase }, { on := 5, ground := Go.Ground.phase }, { on := 6, ground := Go.Ground.phase }], guard := none }) rfl (fun K hK => ?_) AllReadyH.nil
  go_simp
  clear hHeld
  refine hK.out _ _ (⟨(set_cell2 w3 _ _ (Nat.ne_of_lt (Nat.lt_succ_self _))).trans ((hb13.cell (p := ⟨w.heap.size, 0, none⟩) HLT.out).trans e0), (set_cell2 w3 _ _ (Nat.ne_of_lt (Nat.lt_succ_self _))).trans ((hb13.cell (p := ⟨w.heap.size, 0 + 1, none⟩) HLT.out).trans e1)⟩) (fun hHeld => ?_)
  clear hK K
  refine wpAnyH_done (by kernel_rfl) ?_ _
  go_wp2_with fail
  refine bodyPost_ret (ret_db Tryz.results36 _ rfl HRW.out _ _) rfl ?_
  have hz := HL1.out
  exact ⟨_, _, rfl, ((HD.out.keep (fun B hB _ => set_other2 w3 _ _ (fun e => by subst e; omega))).lo (by omega)), below_set (below_set HB3.out (by omega)) (by omega)⟩
end Go.Proofs.YtkaaddahegkmgaaGreat
