/- The contracts of the reference's of, Drop, Add, Find. -/
import Derived.Test.YtocjgcjechhehaaP
import Derived.Test.YtocjgcjechhehaaEF
namespace Go.Proofs.Ytocjgcjechhehaa
open Go.ChangeAt Go.ChangeShapes Go.Deep Go.RowKit Go.WideShapes
/-- Does it wait for that run, as a query or as an update? -/
def ofB (x : Wt) (flow : ByteArray) (run : Int) (q : Bool) : Bool := (x.query == q) && opn x flow run
set_option maxHeartbeats 1000000 in
theorem of_calls {R : Value → Tv → Prop} (r : Array Value) (x : Wt) (h : IsW R r x) (flow : ByteArray) (run : Int) (q : Bool) (w : World) :
    Calls Try.prog 39 #[.agg r, .string flow, .int .i64 run, .bool q] w fun e w' => e = .returned (.bool (ofB x flow run q)) ∧ Below w.heap.size w w' := by
  have HB : Hid (Below w.heap.size w (w.alloc (.cells r 29))) := bel1 w _
  have hrow : (w.alloc (.cells r 29)).heap[w.heap.size]? = some (.cells r 29 (0, 0)) := heap_alloc_new w _
  have e16 : (w.alloc (.cells r 29)).cell? ⟨w.heap.size, 16, none⟩ = some (.bool x.query) := row_cell hrow h.c16
  have e17 : (w.alloc (.cells r 29)).cell? ⟨w.heap.size, 17, none⟩ = some (.bool x.over) := row_cell hrow h.c17
  have e4 : (w.alloc (.cells r 29)).cell? ⟨w.heap.size, 4, none⟩ = some (.string x.flow) := row_cell hrow h.c4
  have e1 : (w.alloc (.cells r 29)).cell? ⟨w.heap.size, 1, none⟩ = some (.int .i64 x.run) := row_cell hrow h.c1
  have HO : Hid (ofB x flow run q = ((x.query == q) && (!x.over && (decide (x.flow = flow) && decide (x.run = run))))) := rfl
  generalize ofB x flow run q = z at HO ⊢
  generalize x.query = qu at *
  generalize x.over = ov at *
  generalize x.flow = fl at *
  generalize x.run = rn at *
  clear h hrow
  go_enter Try.func39, Try.ntmps39
  go_upto_region 1 with fail
  generalize w.alloc (.cells r 29) = W at HB e16 e17 e4 e1 ⊢
  by_cases hq : qu = q
  · subst hq
    cases ov with
    | true =>
      go_wp2_with fail
      go_ret
      exact ⟨by rw [HO.out]; simp, HB.out⟩
    | false =>
      by_cases h4 : fl = flow
      · subst h4
        by_cases h1 : rn = run
        · subst h1
          go_wp2_with fail
          go_ret
          exact ⟨by rw [HO.out]; simp, HB.out⟩
        · have f1 : (rn == run) = false := by simpa using h1
          go_wp2_with fail
          go_ret
          exact ⟨by rw [HO.out]; simp [h1], HB.out⟩
      · have f4 := tl_ne h4
        go_wp2_with fail
        go_ret
        exact ⟨by rw [HO.out]; simp [h4], HB.out⟩
  · have f0 : (qu == q) = false := by simpa using hq
    go_wp2_with fail
    go_ret
    exact ⟨by rw [HO.out, f0]; rfl, HB.out⟩
set_option maxHeartbeats 4000000 in
set_option maxRecDepth 100000 in
theorem rdrop_calls (n : Nat) (a : Option Addr) (c N : Nat) (ws : List Wt) (hN : ws.length = N) (hl : N ≤ 1000) (op : Int) (w : World) (hR : LsW w n a ws) (hs : ∀ x ∈ ws, SmX n x) :
    Calls Try.prog 26 #[.slice a N c, .int .i64 op] w fun e W' => ∃ v, e = .returned v ∧ GrW w.heap.size n W' v (dropL op ws) ∧ Below w.heap.size w W' := by
  have HR : Hid (LsW w n a ws) := hR
  have HS : Hid (∀ x ∈ ws, SmX n x) := hs
  have HN : Hid (ws.length = N) := hN
  have HL : Hid (N ≤ 1000) := hl
  clear hR hs hN hl
  go_enter Try.func26, Try.ntmps26
  go_wp2_with fail
  go_loopw [5, 6] (fun v i wr => ∃ j : Nat, j ≤ N ∧ i = .int .i64 (j : Int) ∧ Hid (GrW w.heap.size n wr v (dropL op (ws.take j))) ∧ Hid (Below w.heap.size w wr)) (fun _ i _ => N - (intOf i).toNat)
  case atStart => exact ⟨0, Nat.zero_le _, rfl, GrW.nil _ _ _, Below.refl _ _⟩
  case round =>
    obtain ⟨j, hj, rfl, HG, HB⟩ := hrel
    obtain ⟨va, vc, hva, _, _⟩ := HG.out.shape
    generalize hvl : (dropL op (ws.take j)).length = vl at hva
    have HVL : Hid (_ = vl) := hvl
    subst hva
    clear hvl
    by_cases hlt : j < N
    · obtain ⟨x, hx⟩ : ∃ x, ws[j]? = some x := ⟨_, List.getElem?_eq_getElem (by rw [HN.out]; exact hlt)⟩
      obtain ⟨B, o, cs, rfl, hli, hi⟩ := (HR.out.below HB.out) j x hx
      have HX : Hid (ws[j]? = some x) := hx
      have HI : Hid (IsW (Is wr n) cs x) := hi
      have hrng := lies_range hli
      have hi29 : (Try.prog.info? 29).map (·.size) = some cs.toList.length := by rw [Array.length_toList]; exact info29s cs hi.size
      have hjl : (j : Int) < (N : Int) := by omega
      have HW : Hid (wrap64 ((j : Int) + 1) = ((j + 1 : Nat) : Int)) := wr1 hlt (by have := HL.out; omega)
      have e0 : wr.cell? ⟨B, o + j * 19, none⟩ = some (.int .i64 x.op) := hli 0 _ hi.c0
      clear hx hi hli
      by_cases he : x.op = op
      · have HG1 : Hid (GrW w.heap.size n wr (.slice va vl vc) (dropL op (ws.take (j + 1)))) := by rw [dropL_take_eq HX.out he]; exact HG.out
        clear hrng hi29 HG
        rw [he] at e0
        go_wp2_with fail
        exact ⟨⟨j + 1, hlt, by first | rw [HW.out] | exact congrArg _ (Int.natCast_succ j).symm, HG1, HB⟩, by first | exact meas hlt HW.out | exact meas hlt (Int.natCast_succ j).symm⟩
      · have hne : (x.op != op) = true := by simpa using he
        have KC : Hid (Calls Try.prog 34 #[.agg cs] wr (ClW n wr x)) := rclone_calls n cs x wr HI.out (HS.out x (List.mem_of_getElem? HX.out))
        go_wp2_with (refine wpList_load_mid rfl 29 _ rfl B (o + j * 19) rfl cs.toList _ hrng Try.underlying29 rfl hi29 ?_)
        refine KC.out.mono ?_
        rintro e w1 ⟨⟨us', rfl, hi1⟩, hb1⟩
        have hlen : (dropL op (ws.take j)).length ≤ 1000 := by
          have := dropL_len op (ws.take j)
          have := HN.out
          have := HL.out
          simp only [List.length_take] at *
          omega
        have hbp : 0 < wr.heap.size := by have := cell_lt e0; omega
        obtain ⟨a2, c2, w2, hrun, hg2, hb2, _⟩ := HG.out.push HB.out.size hb1 (b := wr.heap.size) (Nat.le_refl _) hbp hi1 hlen
        rw [← dropL_take_ne HX.out he] at hg2
        rw [HVL.out] at hrun hg2
        have HRun : Hid (∀ ty, _) := hrun
        have HG2 : Hid (GrW w.heap.size n w2 _ (dropL op (ws.take (j + 1)))) := hg2
        have HB2 : Hid (Below w.heap.size w w2) := HB.out.trans hb2
        have hsl := slice1 us' hi1.size w1
        clear hrun hg2 hb2 hlen HG hi1 hb1 hi29 KC hne hrng e0 hbp
        go_wp2_with (first | refine wpList_slice_run rfl 22 _ rfl (.agg us') rfl _ _ hsl ?_ | (at_builtin; refine Lib.wpList_append_run _ rfl _ _ 22 22 rfl _ _ rfl rfl _ _ (HRun.out _) ?_))
        exact ⟨⟨j + 1, hlt, by first | rw [HW.out] | exact congrArg _ (Int.natCast_succ j).symm, HG2, HB2⟩, by first | exact meas hlt HW.out | exact meas hlt (Int.natCast_succ j).symm⟩
    · obtain rfl : j = N := by omega
      have ht : ws.take j = ws := List.take_of_length_le (by rw [HN.out]; exact Nat.le_refl _)
      have HG1 : Hid (GrW w.heap.size n wr (.slice va vl vc) (dropL op ws)) := by have h := HG.out; rw [ht] at h; exact h
      clear ht HG
      go_wp2_with fail
      go_ret
      exact ⟨_, rfl, HG1.out, HB.out⟩
set_option maxHeartbeats 4000000 in
set_option maxRecDepth 100000 in
theorem radd_calls (n : Nat) (a : Option Addr) (c N : Nat) (ws : List Wt) (hN : ws.length = N) (hl : N ≤ 1000) (cs : Array Value) (x : Wt) (w : World) (hR : LsW w n a ws) (hs : ∀ y ∈ ws, SmX n y) (hi : IsW (Is w n) cs x) (hx : SmX n x) :
    Calls Try.prog 25 #[.slice a N c, .agg cs] w (RetW n w (addL x ws)) := by
  have HQ : Hid (∀ v W', GrW (w.heap.size + 1) n W' v (addL x ws) → Below w.heap.size w W' → RetW n w (addL x ws) (.returned v) W') := fun v W' h hb => h.ret hb
  generalize RetW n w (addL x ws) = Q at HQ ⊢
  have HB0 : Hid (Below w.heap.size w (w.alloc (.cells cs 29))) := bel1 w _
  have KD : Hid (∀ W, Below w.heap.size w W → _) := fun W (hW : Below w.heap.size w W) => rdrop_calls n a c N ws hN hl x.op W (hR.below hW) hs
  have KC : Hid (∀ W, Below (w.alloc (.cells cs 29)).heap.size (w.alloc (.cells cs 29)) W → _) := fun W (hW : Below (w.alloc (.cells cs 29)).heap.size (w.alloc (.cells cs 29)) W) => rclone_calls n cs x W (hi.map fun _ _ h => h.below (bel2 (bel1 w _) hW)) hx
  have hrow : (w.alloc (.cells cs 29)).heap[w.heap.size]? = some (.cells cs 29 (0, 0)) := heap_alloc_new w _
  have e0 : (w.alloc (.cells cs 29)).cell? ⟨w.heap.size, 0, none⟩ = some (.int .i64 x.op) := row_cell hrow hi.c0
  have hi29 : (Try.prog.info? 29).map (·.size) = some cs.toList.length := by rw [Array.length_toList]; exact info29s cs hi.size
  have HSZ : Hid ((w.alloc (.cells cs 29)).heap.size = w.heap.size + 1) := by show _ = _; simp
  have HN : Hid (ws.length ≤ 1000) := by show _ ≤ _; omega
  clear hR hs hi hx hN hl
  go_enter Try.func25, Try.ntmps25
  go_upto_region 1 with fail
  generalize w.alloc (.cells cs 29) = W0 at HB0 KC hrow e0 HSZ ⊢
  refine wp_region_held_drew (S := (fun w' => w'.rangeAt w.heap.size 0 cs.toList ∧ w'.cell? ⟨w.heap.size, 0, none⟩ = some (.int .i64 x.op))) (by kernel_rfl) ⟨lies_range (Lies.row hrow), e0⟩ (fun hHeld => ?_)
  change wpAnyH _ _ _ _ _ _ _ _ (World.drew _)
  refine wpAnyH_take (i := 0) (oi := { dst := some 5, op := Go.Op.move (Go.Operand.tmp 0), type := 22, pos := "ref.go:27", after := #[], guard := none }) (v := ?_) rfl (by kernel_rfl) (by kernel_rfl) (by kernel_rfl) (fun _ _ _ h => h) (Or.inl ⟨by rfl, ?_⟩) hHeld ?_
  rotate_left 1
  · (intro w hSw; (try dsimp only at hSw); go_simp <;> with_reducible rfl)
  simp only [Act.put, List.setIfInBounds_toArray, List.set_cons_zero, List.set_cons_succ]
  refine wpAnyH_take (i := 1) (oi := { dst := some 6, op := Go.Op.fieldAddr 29 (Go.Operand.tmp 3) 0, type := 0, pos := "ref.go:27", after := #[], guard := none }) (v := ?_) rfl (by kernel_rfl) (by kernel_rfl) (by kernel_rfl) (fun _ _ _ h => h) (Or.inl ⟨by rfl, ?_⟩) hHeld ?_
  rotate_left 1
  · (intro w hSw; (try dsimp only at hSw); go_simp <;> with_reducible rfl)
  simp only [Act.put, List.setIfInBounds_toArray, List.set_cons_zero, List.set_cons_succ]
  refine wpAnyH_take (i := 2) (oi := { dst := some 7, op := Go.Op.load 3 (Go.Operand.tmp 6), type := 3, pos := "ref.go:27", after := #[{ on := 1, ground := Go.Ground.data }], guard := none }) (v := ?_) rfl (by kernel_rfl) (by kernel_rfl) (by kernel_rfl) (fun _ _ _ h => h) (Or.inl ⟨by rfl, ?_⟩) hHeld ?_
  rotate_left 1
  · (intro w hSw; (try dsimp only at hSw); go_simp <;> with_reducible rfl)
  simp only [Act.put, List.setIfInBounds_toArray, List.set_cons_zero, List.set_cons_succ]
  refine wpAnyH_take (i := 4) (oi := { dst := some 9, op := Go.Op.load 29 (Go.Operand.tmp 3), type := 29, pos := "ref.go:27", after := #[], guard := none }) (v := _) rfl (by kernel_rfl) (by kernel_rfl) (by kernel_rfl) (fun _ _ _ h => h) (yieldsIf_load_mid (by rfl) 29 _ rfl w.heap.size 0 rfl cs.toList _ (fun w h => h.1) Try.underlying29 rfl hi29) hHeld ?_
  simp only [Act.put, List.setIfInBounds_toArray, List.set_cons_zero, List.set_cons_succ]
  refine wpAnyH_ready (rs := [3]) (by kernel_rfl) (by simp) ?_
  refine AllReadyH.cons (o := { dst := some 8, op := Go.Op.call { callee := Go.Callee.value (Go.Operand.func 26), args := #[Go.Operand.tmp 5, Go.Operand.tmp 7], argTypes := #[22, 3] }, type := 22, pos := "ref.go:27", after := #[{ on := 0, ground := Go.Ground.data }, { on := 2, ground := Go.Ground.data }], guard := none }) rfl (fun K hK => ?_) AllReadyH.nil
  go_simp
  refine (KD.out _ HB0.out.drew).mono ?_
  rintro e w1 ⟨v, rfl, hg, hb⟩
  have HB1 : Hid (Below W0.heap.size W0 w1) := (Below.refl _ W0).drew.trans hb
  have HG1 : Hid (GrW W0.heap.size n w1 v (dropL x.op ws)) := hg
  clear hg hb hHeld
  have hS1 := fun (W : World) (hW : Below W0.heap.size W0 W) => And.intro (lies_range ((Lies.row hrow).below hW)) (cellW e0 hW)
  refine hK.out _ _ (hS1 _ HB1.out) (fun hHeld => ?_)
  clear hK K
  refine wpAnyH_ready (rs := [5]) (by kernel_rfl) (by simp) ?_
  refine AllReadyH.cons (o := { dst := some 10, op := Go.Op.call { callee := Go.Callee.value (Go.Operand.func 34), args := #[Go.Operand.tmp 9], argTypes := #[29] }, type := 29, pos := "ref.go:27", after := #[{ on := 4, ground := Go.Ground.data }, { on := 3, ground := Go.Ground.chain }], guard := none }) rfl (fun K hK => ?_) AllReadyH.nil
  go_simp
  refine (KC.out _ HB1.out).mono ?_
  rintro e w2 ⟨⟨us', rfl, hi1⟩, hb2⟩
  have HB2 : Hid (Below w1.heap.size w1 w2) := hb2
  have HI1 : Hid (IsW (IsN w1.heap.size w2 n) us' x) := hi1
  have hsl := slice1 us' hi1.size w2
  clear hi1 hb2 hHeld
  obtain ⟨va, vc, rfl, _, _⟩ := HG1.out.shape
  generalize hvl : (dropL x.op ws).length = vl at HG1
  have HVL : Hid ((dropL x.op ws).length = vl) := hvl
  clear hvl
  obtain ⟨a2, c2, w3, hrun, hg2, hb3, _⟩ := HG1.out.push HB1.out.size HB2.out (b := w1.heap.size) (Nat.le_refl _) (by have := HB1.out.size; have := HSZ.out; omega) HI1.out (by have := dropL_len x.op ws; have := HN.out; omega)
  rw [HVL.out] at hrun hg2
  have HRun : Hid (∀ ty, _) := hrun
  have HG2 : Hid (GrW W0.heap.size n w3 (.slice a2 (vl + 1) c2) (addL x ws)) := hg2
  have HB3 : Hid (Below W0.heap.size W0 w3) := HB1.out.trans hb3
  have HSP : Hid (∀ (W : World), Below w2.heap.size w2 W → _) := fun W (hW : Below w2.heap.size w2 W) => hS1 W (bel2 (bel2 HB1.out HB2.out) hW)
  clear hrun hg2 hb3
  refine hK.out _ _ (HSP.out _ (Below.refl _ _)) (fun hHeld => ?_)
  clear hK K hHeld
  refine wpAnyH_ready (rs := [6]) (by kernel_rfl) (by simp) ?_
  refine AllReadyH.cons (o := { dst := some 11, op := Go.Op.buildSlice 22 1 #[(0, Go.Operand.tmp 10)], type := 22, pos := "ref.go:27", after := #[{ on := 5, ground := Go.Ground.data }], guard := none }) rfl (fun K hK => ?_) AllReadyH.nil
  refine step_slice_run rfl 22 _ rfl (.agg us') rfl hsl ?_
  refine hK.out _ _ (HSP.out _ (bel1 _ _)) (fun hHeld => ?_)
  clear hK K hHeld
  simp only [Act.put, List.setIfInBounds_toArray, List.set_cons_zero, List.set_cons_succ]
  refine wpAnyH_ready (rs := [7]) (by kernel_rfl) (by simp) ?_
  refine AllReadyH.cons (o := { dst := some 12, op := Go.Op.call { callee := Go.Callee.builtin Go.Builtin.append, args := #[Go.Operand.tmp 8, Go.Operand.tmp 11], argTypes := #[22, 22] }, type := 22, pos := "ref.go:27", after := #[{ on := 3, ground := Go.Ground.data }, { on := 6, ground := Go.Ground.data }, { on := 5, ground := Go.Ground.chain }], guard := none }) rfl (fun K hK => ?_) AllReadyH.nil
  refine step_app_run rfl _ _ 22 rfl _ _ rfl rfl HRun.out ?_
  refine hK.out _ _ (hS1 w3 HB3.out) (fun hHeld => ?_)
  clear hK K
  simp only [Act.put, List.setIfInBounds_toArray, List.set_cons_zero, List.set_cons_succ]
  refine wpAnyH_take (i := 8) (oi := { dst := some 4, op := Go.Op.assign (Go.Operand.tmp 12), type := 22, pos := "ref.go:27", after := #[{ on := 7, ground := Go.Ground.data }, { on := 7, ground := Go.Ground.chain }, { on := 0, ground := Go.Ground.phase }, { on := 1, ground := Go.Ground.phase }, { on := 2, ground := Go.Ground.phase }, { on := 3, ground := Go.Ground.phase }, { on := 4, ground := Go.Ground.phase }, { on := 5, ground := Go.Ground.phase }, { on := 6, ground := Go.Ground.phase }, { on := 7, ground := Go.Ground.phase }], guard := none }) (v := ?_) rfl (by kernel_rfl) (by kernel_rfl) (by kernel_rfl) (fun _ _ _ h => h) (Or.inl ⟨by rfl, ?_⟩) hHeld ?_
  rotate_left 1
  · (intro w hSw; (try dsimp only at hSw); go_simp <;> with_reducible rfl)
  simp only [Act.put, List.setIfInBounds_toArray, List.set_cons_zero, List.set_cons_succ]
  refine wpAnyH_done (by kernel_rfl) ?_ _
  go_wp2_with fail
  exact HQ.out _ _ (by rw [← HSZ.out]; exact HG2.out) (bel2 HB0.out HB3.out)
theorem take_find {ws : List Wt} {op : Int} {j : Nat} {x : Wt} (h : ws[j]? = some x) (he : ¬ x.op = op) (hn : (ws.take j).find? (fun y => decide (y.op = op)) = none) : (ws.take (j + 1)).find? (fun y => decide (y.op = op)) = none := by
  rw [List.take_add_one, h, List.find?_append, hn]
  simp [he]
theorem hit_find {ws : List Wt} {op : Int} {j : Nat} {x : Wt} (h : ws[j]? = some x) (he : x.op = op) (hn : (ws.take j).find? (fun y => decide (y.op = op)) = none) : ws.find? (fun y => decide (y.op = op)) = some x :=
  find_first h (by simpa using he) fun q y hq hy => by
    have := List.find?_eq_none.1 hn y (List.mem_of_getElem? (i := q) (by rw [List.getElem?_take, if_pos hq]; exact hy))
    simpa using this
set_option maxHeartbeats 4000000 in
set_option maxRecDepth 100000 in
theorem rfind_calls (n : Nat) (a : Option Addr) (c N : Nat) (ws : List Wt) (hN : ws.length = N) (hl : N ≤ 1000) (op : Int) (w : World) (hR : LsW w (n + 1) a ws) (hs : ∀ x ∈ ws, SmX (n + 1) x) :
    Calls Try.prog 12 #[.slice a N c, .int .i64 op] w (FdP n w (ws.find? fun x => decide (x.op = op))) := by
  have HQ : Hid (∀ e w', (∃ cs, e = .returned (.tuple #[.agg cs, .bool (ws.find? fun x => decide (x.op = op)).isSome]) ∧ IsW (Is w' (n + 1)) cs ((ws.find? fun x => decide (x.op = op)).getD zX)) → Below w.heap.size w w' → FdP n w (ws.find? fun x => decide (x.op = op)) e w') := fun e w' h1 h2 => ⟨h1, h2⟩
  have HR : Hid (LsW w (n + 1) a ws) := hR
  have HS : Hid (∀ x ∈ ws, SmX (n + 1) x) := hs
  have HN : Hid (ws.length = N) := hN
  have HL : Hid (N ≤ 1000) := hl
  have HB0 : Hid (Below w.heap.size w (w.alloc (.cells zW 29))) := bel1 w _
  have HZ0 : Hid ((w.alloc (.cells zW 29)).heap[w.heap.size]? = some (.cells zW 29 (0, 0))) := heap_alloc_new w _
  have HSZ : Hid (w.heap.size < (w.alloc (.cells zW 29)).heap.size) := by show _ < _; simp
  generalize FdP n w (ws.find? fun x => decide (x.op = op)) = Q at HQ ⊢
  clear hR hs hN hl
  go_enter Try.func12, Try.ntmps12
  go_upto_region 1 with fail
  change Code.wp _ _ _ _ (w.alloc (.cells zW 29))
  generalize w.alloc (.cells zW 29) = W0 at HB0 HZ0 HSZ ⊢
  go_wp2_with fail
  go_loopw [6] (fun i wr => ∃ j : Nat, j ≤ N ∧ i = .int .i64 (j : Int) ∧ Hid ((ws.take j).find? (fun x => decide (x.op = op)) = none) ∧ Hid (Below W0.heap.size W0 wr)) (fun i _ => N - (intOf i).toNat)
  case atStart => exact ⟨0, Nat.zero_le _, rfl, rfl, Below.refl _ _⟩
  case round =>
    obtain ⟨j, hj, rfl, HF, HB⟩ := hrel
    have hBw := bel2 HB0.out HB.out
    by_cases hlt : j < N
    · obtain ⟨x, hx⟩ : ∃ x, ws[j]? = some x := ⟨_, List.getElem?_eq_getElem (by rw [HN.out]; exact hlt)⟩
      obtain ⟨B, o, cs, rfl, hli, hi⟩ := (HR.out.below hBw) j x hx
      have HX : Hid (ws[j]? = some x) := hx
      have HI : Hid (IsW (Is wr (n + 1)) cs x) := hi
      have hrng := lies_range hli
      have hi29 : (Try.prog.info? 29).map (·.size) = some cs.toList.length := by rw [Array.length_toList]; exact info29s cs hi.size
      have hjl : (j : Int) < (N : Int) := by omega
      have HW : Hid (wrap64 ((j : Int) + 1) = ((j + 1 : Nat) : Int)) := wr1 hlt (by have := HL.out; omega)
      have e0 : wr.cell? ⟨B, o + j * 19, none⟩ = some (.int .i64 x.op) := hli 0 _ hi.c0
      have HBw : Hid (Below w.heap.size w wr) := hBw
      clear hx hi hli hBw
      by_cases he : x.op = op
      · have HFd : Hid (ws.find? (fun y => decide (y.op = op)) = some x) := hit_find HX.out he HF.out
        have KC : Hid (Calls Try.prog 34 #[.agg cs] wr (ClW (n + 1) wr x)) := rclone_calls (n + 1) cs x wr HI.out (HS.out x (List.mem_of_getElem? HX.out))
        rw [HFd.out] at HQ
        rw [he] at e0
        go_wp2_with (refine wpList_load_mid rfl 29 _ rfl B (o + j * 19) rfl cs.toList _ hrng Try.underlying29 rfl hi29 ?_)
        refine KC.out.mono ?_
        rintro e w2 ⟨⟨us, rfl, hi2⟩, hb2⟩
        have hz2 : w2.heap[w.heap.size]? = some (.cells zW 29 (0, 0)) := row_below (bel2 HB.out hb2) HZ0.out
        have hu := info29s us hi2.size
        have ho : zW.size = us.size := hi2.size.symm
        have h1 := all_one hi2.one
        have HB2 : Hid (Below w.heap.size w w2) := bel2 HBw.out hb2
        have HI2 : Hid (IsW (IsN wr.heap.size w2 (n + 1)) us x) := hi2
        have HG2 : Hid (w.heap.size < wr.heap.size) := Nat.lt_of_lt_of_le HSZ.out HB.out.size
        clear hb2 hi2 hrng hi29 KC e0
        go_wp2_with (refine wpList_store_row rfl 29 _ _ rfl w.heap.size us rfl rfl 29 zW hz2 hu ho h1 ?_)
        have hl : (loadVar 29 ⟨w.heap.size, 0, none⟩).run Try.prog (w2.setRow w.heap.size us) = .ok (.agg us) (w2.setRow w.heap.size us) := run_loadVar_row _ w.heap.size 29 29 us (0, 0) _ (setRow_heap w2 w.heap.size zW us 29 (0, 0) hz2) Try.underlying29 rfl hu
        refine bodyPost_ret (v := .tuple #[.agg us, .bool true]) (ret_cell_tmp Try.results12 _ rfl rfl hl) rfl (HQ.out _ _ ⟨us, rfl, ?_⟩ ?_)
        · exact HI2.out.map fun _ _ h => (h.kb (setRow_kb w2 w.heap.size us) HG2.out).is
        · exact below_setRow HB2.out (Nat.le_refl _) us
      · have hne : (x.op == op) = false := by simpa using he
        have HF2 : Hid ((ws.take (j + 1)).find? (fun y => decide (y.op = op)) = none) := take_find HX.out he HF.out
        clear hrng hi29 he
        go_wp2_with fail
        exact ⟨⟨j + 1, hlt, by first | rw [HW.out] | exact congrArg _ (Int.natCast_succ j).symm, HF2, HB⟩, by first | exact meas hlt HW.out | exact meas hlt (Int.natCast_succ j).symm⟩
    · obtain rfl : j = N := by omega
      have ht : ws.take j = ws := List.take_of_length_le (by rw [HN.out]; exact Nat.le_refl _)
      have hf := HF.out
      rw [ht] at hf
      rw [hf] at HQ
      have hz1 : wr.heap[w.heap.size]? = some (.cells zW 29 (0, 0)) := row_below HB.out HZ0.out
      have HB1 : Hid (Below w.heap.size w wr) := hBw
      have hu := info29s zW rfl
      have h1 : zW.all (·.oneCell') = true := by kernel_rfl
      clear ht hf hBw
      go_wp2_with (refine wpList_store_row rfl 29 _ _ rfl w.heap.size zW rfl rfl 29 zW hz1 hu rfl h1 ?_)
      have hl : (loadVar 29 ⟨w.heap.size, 0, none⟩).run Try.prog (wr.setRow w.heap.size zW) = .ok (.agg zW) (wr.setRow w.heap.size zW) := run_loadVar_row _ w.heap.size 29 29 zW (0, 0) _ (setRow_heap wr w.heap.size zW zW 29 (0, 0) hz1) Try.underlying29 rfl hu
      refine bodyPost_ret (v := .tuple #[.agg zW, .bool false]) (ret_cell_tmp Try.results12 _ rfl rfl hl) rfl (HQ.out _ _ ⟨zW, rfl, zX_is _ n⟩ ?_)
      exact below_setRow HB1.out (Nat.le_refl _) zW
end Go.Proofs.Ytocjgcjechhehaa
