/- The contract of Add. -/
import Derived.Test.YtocjgcjechhehaaG
import Derived.Deep.RegionHeld3
namespace Go.Proofs.Ytocjgcjechhehaa
open Go.ChangeAt Go.ChangeShapes Go.Deep Go.RowKit Go.WideShapes
theorem step_app_run {P : Program} {ops : Array Oper} {o : Oper} {a : Act} {w : World} {K : Act → World → Prop} {Q : Exit → Act → World → Prop} {E : Prop}
    (hg : o.guard = none) (s x : Operand) (t : TypeId) (hop : o.op = Op.call { callee := Callee.builtin Builtin.append, args := #[s, x], argTypes := #[t, t] })
    (vs vx : Value) (hs : a.eval s = vs) (hx : a.eval x = vx) {v' : Value} {w' : World} (hr : ∀ ty, (Builtin.append_ #[t, t] ty #[vs, vx]).run P w = .ok v' w') (hK : K (a.put o.dst v') w') :
    if Region.wanted o (yielded ops a.tmps) = true then Oper.wp P o a w K Q else E := by
  have hw : Region.wanted o (yielded ops a.tmps) = true := by simp [Region.wanted, hg]
  rw [if_pos hw]
  have hrun := hr o.type
  unfold Oper.wp
  simp [execOp, hop, resolve, invoke, builtin, hs, hx, hrun, Result.andThen]
  exact hK
theorem step_slice_run {P : Program} {ops : Array Oper} {o : Oper} {a : Act} {w : World} {K : Act → World → Prop} {Q : Exit → Act → World → Prop} {E : Prop}
    (hg : o.guard = none) (t : TypeId) (x : Operand) (hop : o.op = .buildSlice t 1 #[(0, x)])
    (vx : Value) (hx : a.eval x = vx) {v' : Value} {w' : World} (hr : (Instr.buildSlice t 1 #[(0, vx)]).run P w = .ok v' w') (hK : K (a.put o.dst v') w') :
    if Region.wanted o (yielded ops a.tmps) = true then Oper.wp P o a w K Q else E := by
  have hw : Region.wanted o (yielded ops a.tmps) = true := by simp [Region.wanted, hg]
  rw [if_pos hw]
  unfold Oper.wp execOp
  simp only [hop]
  simp [hx, hr, Result.andThen]
  exact hK
/-- A list with one more. -/
def addL (x : Wt) (ws : List Wt) : List Wt := dropL x.op ws ++ [x]
/-- What is told is a list of waits in new memory. -/
def RetW (n : Nat) (w : World) (xs : List Wt) (e : Ending) (W' : World) : Prop := ∃ a c, e = .returned (.slice a xs.length c) ∧ LsW W' n a xs ∧ xs.length ≤ c ∧ c ≤ 9223372036854775807 ∧ Below w.heap.size w W'
theorem GrW.ret {lo n : Nat} {w W' : World} {v : Value} {xs : List Wt} (h : GrW lo n W' v xs) (hb : Below w.heap.size w W') : RetW n w xs (.returned v) W' := by
  obtain ⟨a, c, rfl, h1, h2⟩ := h.shape
  exact ⟨a, c, rfl, h.ls, h1, h2, hb⟩
set_option maxHeartbeats 4000000 in
set_option maxRecDepth 100000 in
theorem add_calls (n : Nat) (a : Option Addr) (c N : Nat) (ws : List Wt) (hN : ws.length = N) (hl : N ≤ 1000) (cs : Array Value) (x : Wt) (w : World) (hR : LsW w n a ws) (hs : ∀ y ∈ ws, SmX n y) (hi : IsW (Is w n) cs x) (hx : SmX n x) :
    Calls Try.prog 20 #[.slice a N c, .agg cs] w (RetW n w (addL x ws)) := by
  have HQ : Hid (∀ v W', GrW (w.heap.size + 1) n W' v (addL x ws) → Below w.heap.size w W' → RetW n w (addL x ws) (.returned v) W') := fun v W' h hb => h.ret hb
  generalize RetW n w (addL x ws) = Q at HQ ⊢
  have HB0 : Hid (Below w.heap.size w (w.alloc (.cells cs 29))) := bel1 w _
  have KD : Hid (∀ W, Below w.heap.size w W → _) := fun W (hW : Below w.heap.size w W) => drop_calls n a c N ws hN hl x.op W (hR.below hW) hs
  have KC : Hid (∀ W, Below (w.alloc (.cells cs 29)).heap.size (w.alloc (.cells cs 29)) W → _) := fun W (hW : Below (w.alloc (.cells cs 29)).heap.size (w.alloc (.cells cs 29)) W) => clone_calls n cs x W (hi.map fun _ _ h => h.below (bel2 (bel1 w _) hW)) hx
  have hrow : (w.alloc (.cells cs 29)).heap[w.heap.size]? = some (.cells cs 29 (0, 0)) := heap_alloc_new w _
  have e0 : (w.alloc (.cells cs 29)).cell? ⟨w.heap.size, 0, none⟩ = some (.int .i64 x.op) := row_cell hrow hi.c0
  have hi29 : (Try.prog.info? 29).map (·.size) = some cs.toList.length := by rw [Array.length_toList]; exact info29s cs hi.size
  have HSZ : Hid ((w.alloc (.cells cs 29)).heap.size = w.heap.size + 1) := by show _ = _; simp
  have HN : Hid (ws.length ≤ 1000) := by show _ ≤ _; omega
  clear hR hs hi hx hN hl
  go_enter Try.func20, Try.ntmps20
  go_upto_region 1 with fail
  generalize w.alloc (.cells cs 29) = W0 at HB0 KC hrow e0 HSZ ⊢
  refine wp_region_held_drew (S := (fun w' => w'.rangeAt w.heap.size 0 cs.toList ∧ w'.cell? ⟨w.heap.size, 0, none⟩ = some (.int .i64 x.op))) (by kernel_rfl) ⟨lies_range (Lies.row hrow), e0⟩ (fun hHeld => ?_)
  change wpAnyH _ _ _ _ _ _ _ _ (World.drew _)
  refine wpAnyH_take (i := 0) (oi := { dst := some 5, op := Go.Op.move (Go.Operand.tmp 0), type := 22, pos := "waits.go:14", after := #[], guard := none }) (v := ?_) rfl (by kernel_rfl) (by kernel_rfl) (by kernel_rfl) (fun _ _ _ h => h) (Or.inl ⟨by rfl, ?_⟩) hHeld ?_
  rotate_left 1
  · (intro w hSw; (try dsimp only at hSw); go_simp <;> with_reducible rfl)
  simp only [Act.put, List.setIfInBounds_toArray, List.set_cons_zero, List.set_cons_succ]
  refine wpAnyH_take (i := 1) (oi := { dst := some 6, op := Go.Op.fieldAddr 29 (Go.Operand.tmp 3) 0, type := 0, pos := "waits.go:14", after := #[], guard := none }) (v := ?_) rfl (by kernel_rfl) (by kernel_rfl) (by kernel_rfl) (fun _ _ _ h => h) (Or.inl ⟨by rfl, ?_⟩) hHeld ?_
  rotate_left 1
  · (intro w hSw; (try dsimp only at hSw); go_simp <;> with_reducible rfl)
  simp only [Act.put, List.setIfInBounds_toArray, List.set_cons_zero, List.set_cons_succ]
  refine wpAnyH_take (i := 2) (oi := { dst := some 7, op := Go.Op.load 3 (Go.Operand.tmp 6), type := 3, pos := "waits.go:14", after := #[{ on := 1, ground := Go.Ground.data }], guard := none }) (v := ?_) rfl (by kernel_rfl) (by kernel_rfl) (by kernel_rfl) (fun _ _ _ h => h) (Or.inl ⟨by rfl, ?_⟩) hHeld ?_
  rotate_left 1
  · (intro w hSw; (try dsimp only at hSw); go_simp <;> with_reducible rfl)
  simp only [Act.put, List.setIfInBounds_toArray, List.set_cons_zero, List.set_cons_succ]
  refine wpAnyH_take (i := 4) (oi := { dst := some 9, op := Go.Op.load 29 (Go.Operand.tmp 3), type := 29, pos := "waits.go:14", after := #[], guard := none }) (v := _) rfl (by kernel_rfl) (by kernel_rfl) (by kernel_rfl) (fun _ _ _ h => h) (yieldsIf_load_mid (by rfl) 29 _ rfl w.heap.size 0 rfl cs.toList _ (fun w h => h.1) Try.underlying29 rfl hi29) hHeld ?_
  simp only [Act.put, List.setIfInBounds_toArray, List.set_cons_zero, List.set_cons_succ]
  refine wpAnyH_ready (rs := [3]) (by kernel_rfl) (by simp) ?_
  refine AllReadyH.cons (o := { dst := some 8, op := Go.Op.call { callee := Go.Callee.value (Go.Operand.func 21), args := #[Go.Operand.tmp 5, Go.Operand.tmp 7], argTypes := #[22, 3] }, type := 22, pos := "waits.go:14", after := #[{ on := 0, ground := Go.Ground.data }, { on := 2, ground := Go.Ground.data }], guard := none }) rfl (fun K hK => ?_) AllReadyH.nil
  go_simp
  refine (KD.out _ HB0.out.drew).mono ?_
  rintro e w1 ⟨v, rfl, hg, hb⟩
  have HB1 : Hid (Below W0.heap.size W0 w1) := (Below.refl _ W0).drew.trans hb
  have HG1 : Hid (GrW W0.heap.size n w1 v (dropL x.op ws)) := hg
  clear hg hb hHeld
  have hS1 := fun (W : World) (hW : Below W0.heap.size W0 W) => And.intro (lies_range ((Lies.row hrow).below hW)) (cellW e0 hW)
  refine hK.out _ _ (hS1 _ HB1.out) (fun hHeld => ?_)
  clear hK K
  refine wpAnyH_ready (rs := [5]) (by kernel_rfl) (by simp) ?_
  refine AllReadyH.cons (o := { dst := some 10, op := Go.Op.call { callee := Go.Callee.value (Go.Operand.func 33), args := #[Go.Operand.tmp 9], argTypes := #[29] }, type := 29, pos := "waits.go:14", after := #[{ on := 4, ground := Go.Ground.data }, { on := 3, ground := Go.Ground.chain }], guard := none }) rfl (fun K hK => ?_) AllReadyH.nil
  go_simp
  refine (KC.out _ HB1.out).mono ?_
  rintro e w2 ⟨⟨us', rfl, hi1⟩, hb2⟩
  have HB2 : Hid (Below w1.heap.size w1 w2) := hb2
  have HI1 : Hid (IsW (IsN w1.heap.size w2 n) us' x) := hi1
  have hsl := slice1 us' hi1.size w2
  clear hi1 hb2 hHeld
  obtain ⟨va, vc, rfl, _, _⟩ := HG1.out.shape
  generalize hvl : (dropL x.op ws).length = vl at HG1
  have HVL : Hid ((dropL x.op ws).length = vl) := hvl
  clear hvl
  obtain ⟨a2, c2, w3, hrun, hg2, hb3, _⟩ := HG1.out.push HB1.out.size HB2.out (b := w1.heap.size) (Nat.le_refl _) (by have := HB1.out.size; have := HSZ.out; omega) HI1.out (by have := dropL_len x.op ws; have := HN.out; omega)
  rw [HVL.out] at hrun hg2
  have HRun : Hid (∀ ty, _) := hrun
  have HG2 : Hid (GrW W0.heap.size n w3 (.slice a2 (vl + 1) c2) (addL x ws)) := hg2
  have HB3 : Hid (Below W0.heap.size W0 w3) := HB1.out.trans hb3
  have HSP : Hid (∀ (W : World), Below w2.heap.size w2 W → _) := fun W (hW : Below w2.heap.size w2 W) => hS1 W (bel2 (bel2 HB1.out HB2.out) hW)
  clear hrun hg2 hb3
  refine hK.out _ _ (HSP.out _ (Below.refl _ _)) (fun hHeld => ?_)
  clear hK K hHeld
  refine wpAnyH_ready (rs := [6]) (by kernel_rfl) (by simp) ?_
  refine AllReadyH.cons (o := { dst := some 11, op := Go.Op.buildSlice 22 1 #[(0, Go.Operand.tmp 10)], type := 22, pos := "waits.go:14", after := #[{ on := 5, ground := Go.Ground.data }], guard := none }) rfl (fun K hK => ?_) AllReadyH.nil
  refine step_slice_run rfl 22 _ rfl (.agg us') rfl hsl ?_
  refine hK.out _ _ (HSP.out _ (bel1 _ _)) (fun hHeld => ?_)
  clear hK K hHeld
  simp only [Act.put, List.setIfInBounds_toArray, List.set_cons_zero, List.set_cons_succ]
  refine wpAnyH_ready (rs := [7]) (by kernel_rfl) (by simp) ?_
  refine AllReadyH.cons (o := { dst := some 12, op := Go.Op.call { callee := Go.Callee.builtin Go.Builtin.append, args := #[Go.Operand.tmp 8, Go.Operand.tmp 11], argTypes := #[22, 22] }, type := 22, pos := "waits.go:14", after := #[{ on := 3, ground := Go.Ground.data }, { on := 6, ground := Go.Ground.data }, { on := 5, ground := Go.Ground.chain }], guard := none }) rfl (fun K hK => ?_) AllReadyH.nil
  refine step_app_run rfl _ _ 22 rfl _ _ rfl rfl HRun.out ?_
  refine hK.out _ _ (hS1 w3 HB3.out) (fun hHeld => ?_)
  clear hK K
  simp only [Act.put, List.setIfInBounds_toArray, List.set_cons_zero, List.set_cons_succ]
  refine wpAnyH_take (i := 8) (oi := { dst := some 4, op := Go.Op.assign (Go.Operand.tmp 12), type := 22, pos := "waits.go:14", after := #[{ on := 7, ground := Go.Ground.data }, { on := 7, ground := Go.Ground.chain }, { on := 0, ground := Go.Ground.phase }, { on := 1, ground := Go.Ground.phase }, { on := 2, ground := Go.Ground.phase }, { on := 3, ground := Go.Ground.phase }, { on := 4, ground := Go.Ground.phase }, { on := 5, ground := Go.Ground.phase }, { on := 6, ground := Go.Ground.phase }, { on := 7, ground := Go.Ground.phase }], guard := none }) (v := ?_) rfl (by kernel_rfl) (by kernel_rfl) (by kernel_rfl) (fun _ _ _ h => h) (Or.inl ⟨by rfl, ?_⟩) hHeld ?_
  rotate_left 1
  · (intro w hSw; (try dsimp only at hSw); go_simp <;> with_reducible rfl)
  simp only [Act.put, List.setIfInBounds_toArray, List.set_cons_zero, List.set_cons_succ]
  refine wpAnyH_done (by kernel_rfl) ?_ _
  go_wp2_with fail
  exact HQ.out _ _ (by rw [← HSZ.out]; exact HG2.out) (bel2 HB0.out HB3.out)
end Go.Proofs.Ytocjgcjechhehaa
