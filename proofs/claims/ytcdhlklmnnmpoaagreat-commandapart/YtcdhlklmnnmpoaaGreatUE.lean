/- The contracts of slices.Delete of one timer, of add of a timer and of an update. -/
import Derived.Test.YtcdhlklmnnmpoaaGreatUD
import Derived.Lib.SliceRun
namespace Go.Proofs.YtcdhlklmnnmpoaaGreat
open Go.ChangeShapes Go.WideShapes Go.ChangeAt Go.RowKit
theorem step_app_run {P : Program} {ops : Array Oper} {o : Oper} {a : Act} {w : World} {K : Act → World → Prop} {Q : Exit → Act → World → Prop} {E : Prop}
    (hg : o.guard = none) (s x : Operand) (t : TypeId) (hop : o.op = Op.call { callee := Callee.builtin Builtin.append, args := #[s, x], argTypes := #[t, t] })
    (vs vx : Value) (hs : a.eval s = vs) (hx : a.eval x = vx) {v' : Value} {w' : World} (hr : ∀ ty, (Builtin.append_ #[t, t] ty #[vs, vx]).run P w = .ok v' w') (hK : K (a.put o.dst v') w') :
    if Region.wanted o (yielded ops a.tmps) = true then Oper.wp P o a w K Q else E := by
  have hw : Region.wanted o (yielded ops a.tmps) = true := by simp [Region.wanted, hg]
  rw [if_pos hw]
  have hrun := hr o.type
  unfold Oper.wp
  simp [execOp, hop, resolve, invoke, builtin, hs, hx, hrun, Result.andThen]
  exact hK
/-- clear of one timer. -/
theorem run_clear_one (w : World) (ty b o c : Nat) (hc : ∀ j, j < 2 → (w.cell? ⟨b, o + j, none⟩).isSome = true) (hf : ∀ j, j < 2 → w.frozen? ⟨b, o + j, none⟩ = false) :
    (Builtin.clear_ #[38] ty #[.slice (some ⟨b, o, none⟩) 1 c]).run Tryz.prog w = .ok (.tuple #[]) (w.setCells b o [.string ⟨#[]⟩, .int .i64 0]) := by
  have hv : ∀ w, (zeroValue 120).run Tryz.prog w = .ok (.agg #[.string ⟨#[]⟩, .int .i64 0]) w := fun w => by kernel_rfl
  have hzc : (Builtin.zeroCells (Value.agg #[.string ⟨#[]⟩, .int .i64 0]).cells 1).toList = [.string ⟨#[]⟩, .int .i64 0] := by kernel_rfl
  have hst := run_storeCells_cells (P := Tryz.prog) b o [.string ⟨#[]⟩, .int .i64 0] 0 w (by simpa using hc) (by simpa using hf) (by intro v hv'; simp at hv'; rcases hv' with rfl | rfl <;> rfl)
  simp only [Nat.add_zero] at hst
  simp [Builtin.clear_, run_underlying Tryz.underlying38, hv, hzc, hst]
theorem del_cells {c n i : Nat} {cur cells : List Value} (hi : i < n) (hroom : n ≤ c) (hsz : cur.length = c * 2) (htk : cur.take (n * 2) = cells) :
    ∀ X1, X1 = cur.take (i * 2) ++ cells.drop ((i + 1) * 2) ++ cur.drop (i * 2 + (cells.drop ((i + 1) * 2)).length) → X1.length = c * 2 ∧ X1.take ((n - 1) * 2) = cells.take (i * 2) ++ cells.drop ((i + 1) * 2) := by
  rintro X1 h1
  have hcl : cells.length = n * 2 := by rw [← htk, List.length_take]; omega
  have hd : (cells.drop ((i + 1) * 2)).length = (n - 1 - i) * 2 := by rw [List.length_drop, hcl]; omega
  have e1 : cur.take (i * 2) = cells.take (i * 2) := by
    rw [← htk, List.take_take]
    congr 1
    omega
  have l3 : (cells.take (i * 2)).length = i * 2 := by rw [List.length_take]; omega
  refine ⟨by rw [h1]; simp [hd, hsz]; omega, ?_⟩
  rw [h1, e1, show (n - 1) * 2 = (cells.take (i * 2) ++ cells.drop ((i + 1) * 2)).length by rw [List.length_append, l3, hd]; omega, List.take_left]
theorem take_set2 {α : Type} (l : List α) (o : Nat) (x y : α) : ((l.set o x).set (o + 1) y).take o = l.take o := by
  apply List.ext_getElem?
  intro j
  by_cases hj : j < o
  · rw [List.getElem?_take_of_lt hj, List.getElem?_take_of_lt hj, List.getElem?_set_ne (by omega), List.getElem?_set_ne (by omega)]
  · simp [List.getElem?_take, hj]
theorem tail_slice (B L c n : Nat) (hn : n ≤ L) (hc : L ≤ c) : ∃ a : Addr, (n < L → a = ⟨B, n * 2, none⟩) ∧ ∀ w, (Instr.slice 38 (.slice (some ⟨B, 0, none⟩) L c) (some (.int .i64 (n : Int))) none none).run Tryz.prog w = .ok (.slice (some a) (L - n) (c - n)) w := by
  refine ⟨if c = n then ⟨B, 0, none⟩ else ⟨B, n * 2, none⟩, fun h => by rw [if_neg (by omega)], fun w => ?_⟩
  rw [run_slice_l w 38 (some ⟨B, 0, none⟩) L c (by rw [InsT.elem30]; exact Tryz.underlying38) .i64 _ (by omega) (by omega), InsT.elem30, InsT.z56]
  by_cases hcn : c = n
  · simp [Result.andThen, sliced, hcn]
  · simp [Result.andThen, sliced, hcn, add_plain]
theorem sub_two (B L c n : Nat) (hn : n + 1 ≤ c) (w : World) : (Instr.slice 38 (.slice (some ⟨B, 0, none⟩) L c) (some (.int .i64 (n : Int))) (some (.int .i64 ((n : Int) + 1))) none).run Tryz.prog w = .ok (.slice (some ⟨B, n * 2, none⟩) 1 (c - n)) w := by
  rw [run_slice_lh w 38 (some ⟨B, 0, none⟩) L c (by rw [InsT.elem30]; exact Tryz.underlying38) .i64 .i64 _ _ (by omega) (by omega) (by omega), InsT.elem30, InsT.z56]
  have h1 : ¬ c = n := by omega
  simp [Result.andThen, sliced, h1, add_plain]
theorem sub_three (B L c n : Nat) (hn : n + 1 ≤ L) (hc : L ≤ c) : ∃ v, ∀ w, (Instr.slice 38 (.slice (some ⟨B, 0, none⟩) L c) (some (.int .i64 (n : Int))) (some (.int .i64 ((n : Int) + 1))) (some (.int .i64 (L : Int)))).run Tryz.prog w = .ok v w := by
  refine ⟨.slice (if L = n then some ⟨B, 0, none⟩ else some ⟨B, n * 2, none⟩) 1 (L - n), fun w => ?_⟩
  rw [run_slice_lhm w 38 (some ⟨B, 0, none⟩) L c (by rw [InsT.elem30]; exact Tryz.underlying38) .i64 .i64 .i64 _ _ _ (by omega) (by omega) (by omega) (by omega), InsT.elem30, InsT.z56]
  by_cases h1 : L = n
  · omega
  · simp [Result.andThen, sliced, h1, add_plain]
/-- What Delete of one answers. -/
def DlP (lo : Nat) (u : Value) (m i : Nat) (cells : List Value) (w : World) (e : Ending) (w' : World) : Prop :=
  ∃ v, e = .returned v ∧ w'.ownsRow lo 120 2 v (m - 1) (cells.take (i * 2) ++ cells.drop ((i + 1) * 2)) ∧ Below lo w w' ∧ (∀ B, B < w.heap.size → u.ownBlock ≠ some B → w'.heap[B]? = w.heap[B]?) ∧ v.ownBlock = u.ownBlock
set_option maxHeartbeats 4000000 in
set_option maxRecDepth 100000 in
theorem delete_calls (lo : Nat) (u : Value) (m i : Nat) (cells : List Value) (w : World) (hO : w.ownsRow lo 120 2 u m cells) (hi : i < m) (hn : m ≤ 1000) (ho1 : ∀ z ∈ cells, z.oneCell' = true) (hlo : lo ≤ w.heap.size) :
    Calls Tryz.prog 101 #[u, .int .i64 (i : Int), .int .i64 ((i : Int) + 1)] w (DlP lo u m i cells w) := by
  obtain ⟨i0, hi0, hz0, hz1, hz2⟩ := info_parts InsT.info56_
  obtain ⟨hcl, ⟨_, h0⟩ | ⟨g, cap, cur, rfl, hg0, hg, hle, hm, hsz, htk⟩⟩ := hO
  · omega
  have hlt := lt_of_row hg
  have hce : ∀ j v, cells[j]? = some v → w.cell? ⟨g, j, none⟩ = some v := fun j v hj => by
    have hl := (List.getElem?_eq_some_iff.1 hj).1
    rw [cell_of_row w g _ cur 120 (0, 0) hg]
    rw [← htk, List.getElem?_take_of_lt (by omega)] at hj
    simpa using hj
  have hd : (cells.drop ((i + 1) * 2)).length = (m - (i + 1)) * 2 := by rw [List.length_drop, hcl]; omega
  obtain ⟨A, hA, hs5⟩ := tail_slice g m cap (i + 1) (by omega) hle
  obtain ⟨X1, hX1⟩ : ∃ X1 : List Value, X1 = cur.toList.take (i * 2) ++ cells.drop ((i + 1) * 2) ++ cur.toList.drop (i * 2 + (cells.drop ((i + 1) * 2)).length) := ⟨_, rfl⟩
  obtain ⟨l1, l2⟩ := del_cells hi hle (by rw [Array.length_toList]; exact hsz) htk X1 hX1
  have hap : ∀ ty, (Builtin.append_ #[38, 38] ty #[.slice (some ⟨g, 0, none⟩) i cap, .slice (some A) (m - (i + 1)) (cap - (i + 1))]).run Tryz.prog w.drew = .ok (.slice (some ⟨g, 0, none⟩) (m - 1) cap) (w.drew.setRow g X1.toArray) := fun ty => by
    have := run_append_room (P := Tryz.prog) w.drew 38 ty 120 i0 Tryz.underlying38 hi0 g i cap cur hg A (m - (i + 1)) (cap - (i + 1)) (cells.drop ((i + 1) * 2)) (by rw [hz1, hd]) (fun j v hj => by
      have hjl := (List.getElem?_eq_some_iff.1 hj).1
      rw [hd] at hjl
      rw [hA (by omega), add_plain]
      rw [List.getElem?_drop] at hj
      exact hce _ _ hj) (fun v hv => ho1 v (List.mem_of_mem_drop hv)) (by omega) (by rw [hz1, hd, hsz]; omega)
    rw [this, hz1, ← hX1, show i + (m - (i + 1)) = m - 1 by omega]
  have hg1 : (w.drew.setRow g X1.toArray).heap[g]? = some (.cells X1.toArray 120 (0, 0)) := setRow_heap w.drew g cur X1.toArray 120 (0, 0) hg
  have kb1 : KB g w (w.drew.setRow g X1.toArray) := (KB.of_below (Below.refl _ w).drew).trans (KB.setRow _ _ _)
  have HAP : Hid (∀ ty, _) := hap
  generalize w.drew.setRow g X1.toArray = W1 at hg1 kb1 HAP
  have hcr : ∀ ty, (Builtin.clear_ #[38] ty #[.slice (some ⟨g, (m - 1) * 2, none⟩) 1 (cap - (m - 1))]).run Tryz.prog W1 = .ok (.tuple #[]) (W1.setCells g ((m - 1) * 2) [.string ⟨#[]⟩, .int .i64 0]) := fun ty => run_clear_one W1 ty g ((m - 1) * 2) _ (fun j hj => by
    rw [cell_of_row W1 g _ _ 120 (0, 0) hg1, Array.getElem?_eq_getElem (by simp [l1]; omega)]; rfl) (fun j _ => frozen_of_row W1 g _ _ 120 hg1)
  have kb2 := setCells_kb g [.string ⟨#[]⟩, .int .i64 0] ((m - 1) * 2) W1
  have hg2 : (W1.setCells g ((m - 1) * 2) [.string ⟨#[]⟩, .int .i64 0]).heap[g]? = some (.cells ((X1.toArray.setIfInBounds ((m - 1) * 2) (.string ⟨#[]⟩)).setIfInBounds ((m - 1) * 2 + 1) (.int .i64 0)) 120 (0, 0)) :=
    heap_setCell_same _ g ((m - 1) * 2 + 1) _ 120 _ (heap_setCell_same W1 g ((m - 1) * 2) _ 120 _ hg1)
  have HQ : Hid (DlP lo (.slice (some ⟨g, 0, none⟩) m cap) m i cells w (.returned (.slice (some ⟨g, 0, none⟩) (m - 1) cap)) (W1.setCells g ((m - 1) * 2) [.string ⟨#[]⟩, .int .i64 0])) := by
    refine ⟨_, rfl, ⟨?_, .inr ⟨g, cap, _, rfl, hg0, hg2, by omega, hm, by simp [l1], ?_⟩⟩, (kb1.trans kb2).below hg0 hlo, fun B hB hne => (kb1.trans kb2).2.2.2.2 B hB (fun e => hne (by rw [e]; rfl)), rfl⟩
    · rw [List.length_append, List.length_take, hd, hcl]; omega
    · rw [← l2]
      simp only [Array.toList_setIfInBounds]
      exact take_set2 X1 _ _ _
  generalize DlP lo (.slice (some ⟨g, 0, none⟩) m cap) m i cells w = Q at HQ ⊢
  have HCR : Hid (∀ ty, _) := hcr
  generalize W1.setCells g ((m - 1) * 2) [.string ⟨#[]⟩, .int .i64 0] = W2 at HQ HCR
  obtain ⟨q3, s3⟩ := sub_three g m cap i (by omega) hle
  have s4 := fun W => InsT.sl_head g m cap i (by omega) W
  have s5 : ∀ W, (Instr.slice 38 (.slice (some ⟨g, 0, none⟩) m cap) (some (.int .i64 ((i : Int) + 1))) none none).run Tryz.prog W = .ok (.slice (some A) (m - (i + 1)) (cap - (i + 1))) W := hs5
  have s6 : ∀ W, (Instr.slice 38 (.slice (some ⟨g, 0, none⟩) (m - 1) cap) (some (.int .i64 ((m - 1 : Nat) : Int))) (some (.int .i64 (m : Int))) none).run Tryz.prog W = .ok (.slice (some ⟨g, (m - 1) * 2, none⟩) 1 (cap - (m - 1))) W := fun W => by
    have := sub_two g (m - 1) cap (m - 1) (by omega) W
    rw [show ((m - 1 : Nat) : Int) + 1 = (m : Int) by omega] at this
    exact this
  have hne : ((i : Int) == (i : Int) + 1) = false := by simp; omega
  have hne2 : ¬ ((i : Int) = (i : Int) + 1) := by omega
  have z1 : (i : Int) ≤ (cap : Int) := by omega
  have z2 : (0 : Int) ≤ (i : Int) + 1 := by omega
  have z3 : (i : Int) + 1 ≤ (m : Int) := by omega
  have z4 : (m : Int) ≤ (cap : Int) := by omega
  clear hi0 hz0 hz1 hz2 hcl hg0 hg hle hm hsz htk hlt hce hd hA hs5 hX1 l1 l2 hap hg1 kb1 hcr kb2 hg2 ho1 hlo hn hi
  generalize (m - (i + 1)) = m1 at HAP s5
  generalize (cap - (i + 1)) = c1 at HAP s5
  generalize (m - 1) = m2 at HAP s6 HQ HCR
  go_enter Tryz.func101, Tryz.ntmps101
  go_wp2_with (simp only [s3])
  go_region_law (refine step_app_run rfl (.tmp 22) (.tmp 25) 38 rfl (.slice (some ⟨g, 0, none⟩) i cap) (.slice (some A) m1 c1) rfl rfl (by exact HAP.out) ?_)
  all_goals
    go_wp2_with (first | simp only [s6] | simp only [HCR.out])
    exact HQ.out
end Go.Proofs.YtcdhlklmnnmpoaaGreat
