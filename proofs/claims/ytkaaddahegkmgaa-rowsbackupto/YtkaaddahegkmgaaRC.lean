/- The contracts of slices.Clone of bytes and of cloneEvents. -/
import Derived.Test.YtkaaddahegkmgaaRB
import Derived.Test.YtkaaddahegkmgaaRI
import Derived.Laws.Rows
namespace Go.Proofs.Ytkaaddahegkmgaa
open Go.ChangeShapes Go.WideShapes Go.ChangeAt Go.RowKit
theorem own_hb {lo : Nat} {w : World} {v : Value} {l : List UInt8} (h : Own lo w v l) : HB (fun B => lo ≤ B) w v l := by
  have ho : w.ownsRow lo 5 1 v l.length (bval l) := by simpa [Own] using h
  have ho2 := ho
  obtain ⟨_, ⟨hu, h2⟩ | ⟨g, cap, cur, hu, hB, _, hle, hm, _⟩⟩ := ho
  · obtain rfl : l = [] := List.eq_nil_of_length_eq_zero h2
    exact ⟨none, 0, hu, Nat.le_refl _, by omega, fun i x h => by simp at h⟩
  · unfold maxLen at hm
    subst hu
    refine ⟨some ⟨g, 0, none⟩, cap, rfl, hle, by omega, fun i x hx => ⟨g, 0, rfl, hB, ?_⟩⟩
    have hlt := (List.getElem?_eq_some_iff.1 hx).1
    rw [Nat.zero_add, World.ownsRow.cellAt ho2 i (by omega)]
    unfold bval eb
    rw [List.getElem?_map, hx]
    rfl
set_option maxHeartbeats 1000000 in
theorem clone_calls (v : Value) (l : List UInt8) (w : World) (hv : Lib.HoldsBytes w v l) (hl : l.length ≤ 70368744177664) :
    Calls Try.prog 53 #[v] w fun e w' => ∃ v', e = .returned v' ∧ HB (fun B => w.heap.size ≤ B) w' v' l ∧ Below w.heap.size w w' := by
  obtain ⟨p, cap, rfl, h1, h2⟩ := hv
  obtain ⟨i0, hi, hz0, hz1, hz2⟩ := info_parts info5
  have q22 : ∀ (w : World) (a : Option Addr) (n c n' c' : Nat), (binOp .eql 26 (.slice a n c) (.slice none n' c')).run Try.prog w = .ok (.bool a.isNone) w := fun w a n c n' c' => Lib.run_eql_slice_nil w _ _ a n c n' c' Try.underlying26
  cases p with
  | none =>
    have hn : l = [] := h1 rfl
    subst hn
    clear h1 h2 hl
    go_enter Try.func53, Try.ntmps53
    go_wp2
    go_ret
    exact ⟨_, rfl, HB.nil _ w, Below.refl _ _⟩
  | some a =>
    have HC : Hid (∀ (i : Nat) x, l[i]? = some x → w.cell? (a.add i) = some (.int .u8 (x.toNat : Int))) := h2 a rfl
    clear h1 h2
    go_enter Try.func53, Try.ntmps53
    go_wp2_with (at_builtin; refine wpList_append_own _ rfl _ _ 26 rfl w.heap.size 5 i0 (.int .u8 0) 1 1 Try.underlying26 hi hz0 hz1 hz2 rfl (by decide) _ _ _ rfl (World.ownsRow_made w #[] 0 (Nat.le_refl _) (Nat.zero_le _) rfl) a l.length cap (bval l) rfl ?qc1 ?qc2 ?qc3 ?qc4 ?qc5 ?qc6 ?_)
    case qc1 => simp [bval]
    case qc2 =>
      intro j u hj
      unfold bval at hj
      rw [List.getElem?_map] at hj
      obtain ⟨x, hx, rfl⟩ := Option.map_eq_some_iff.1 hj
      exact Lib.cell?_alloc_some _ (HC.out j x hx)
    case qc3 => intro u hu; obtain ⟨x, _, rfl⟩ := List.mem_map.1 hu; rfl
    case qc4 => unfold maxLen; omega
    case qc5 => omega
    case qc6 => simp
    intro v' w1 hown hgrow hnil
    have ho : Own w.heap.size w1 v' l := by simpa [Own] using hown
    go_wp2
    go_ret
    refine ⟨v', rfl, own_hb ho, ?_⟩
    exact ((Below.refl _ w).alloc (Nat.le_refl _) _).grown hgrow (by simp) (by intro k hk; simp [Value.ownBlock] at hk; omega)
/-- append of one item that lies at the head of a block. -/
theorem Gr.app {α : Type} {E : El α} {lo src bytes : Nat} {Q : Nat → Prop} {W : World} {u z : Value} {news : List Value} {xs : List α} {x : α} {t : TypeId} {i0 : TypeInfo} (ht : Try.prog.underlying t = some (.slice E.ty)) (hi : Try.prog.info? E.ty = some i0) (hz0 : i0.zero = some z) (hz1 : i0.size = E.K) (hz2 : i0.bytes = bytes) (hzc : z.cells.size = E.K) (hsz : 0 < E.K)
    (h : Gr E lo Q W u xs) (hx : E.I (fun B => Q B ∧ u.ownBlock ≠ some B) W news x) (hnews : ∀ j z, news[j]? = some z → W.cell? ⟨src, j, none⟩ = some z) (hk : (xs.length + 1) * bytes ≤ 140737488355328) (hk2 : xs.length ≤ 4611686018427387904) (hB : lo ≤ W.heap.size) :
    ∃ u' w', (∀ ty, (Builtin.append_ #[t, t] ty #[u, .slice (some ⟨src, 0, none⟩) 1 1]).run Try.prog W = .ok u' w') ∧ Gr E lo Q w' u' (xs ++ [x]) ∧ Below lo W w' ∧ (∀ B, B < W.heap.size → u.ownBlock ≠ some B → w'.heap[B]? = W.heap[B]?) ∧ (u'.ownBlock = u.ownBlock ∨ u'.ownBlock = some W.heap.size) := by
  obtain ⟨cells, hown, hc⟩ := h
  obtain ⟨u', w', hr, hown', hbel, hkeep, hblk⟩ := app2 ht hi hz0 hz1 hz2 hzc hsz hown (E.len hx) (fun j z hz => by rw [add_plain, Nat.zero_add]; exact hnews j z hz) (E.one hx) hk2 hk hB
  refine ⟨u', w', hr, ?_, hbel, hkeep, hblk⟩
  have hcl : cells.length = xs.length * E.K := hown.1
  have key := Gr.ins (i := xs.length) hown hc (Nat.le_refl _) hx (w' := w') (v := u') (by
    rw [List.take_of_length_le (by omega), List.drop_of_length_le (by omega), List.append_nil]
    exact hown') hkeep hblk
  rwa [List.take_length, List.drop_length] at key
theorem info26_ : (Try.prog.info? 26).map (fun i => (i.zero, i.size, i.bytes)) = some (some (.slice none 0 0), 1, 24) := by kernel_rfl
theorem cell_new (w : World) (cs : Array Value) (t : TypeId) (j : Nat) : (w.alloc (.cells cs t)).cell? ⟨w.heap.size, j, none⟩ = cs[j]? := cell_of_row _ _ _ _ _ _ (heap_alloc_last w _)
/-- A slice literal of one event, and append of it. -/
theorem app_ev {lo : Nat} {W : World} {u v : Value} {xs : List (List UInt8)} {x : List UInt8} (h : Gr evE lo (fun B => lo ≤ B) W u xs) (hx : HB (fun B => lo ≤ B ∧ u.ownBlock ≠ some B) W v x) (hk : xs.length ≤ 100000) (hB : lo ≤ W.heap.size) :
    ∃ u' w', (∀ ty, (Builtin.append_ #[40, 40] ty #[u, .slice (some ⟨W.heap.size, 0, none⟩) 1 1]).run Try.prog (W.alloc (.cells #[v] 26)) = .ok u' w') ∧ Gr evE lo (fun B => lo ≤ B) w' u' (xs ++ [x]) ∧ Below lo W w' := by
  obtain ⟨i0, hi, hz0, hz1, hz2⟩ := info_parts info26_
  obtain ⟨u', w', hr, hg, hb, _, _⟩ := Gr.app (E := evE) (src := W.heap.size) (news := [v]) (x := x) (Q := fun B => lo ≤ B) (lo := lo) Try.underlying40 hi hz0 hz1 hz2 rfl (by decide) (h.below (bel1 W (.cells #[v] 26))) ⟨v, rfl, hx.below (bel1 W _)⟩ (fun j z hj => by
    rw [cell_new]
    simpa using hj) (by omega) (by omega) (by simp; omega)
  exact ⟨u', w', hr, hg, ((Below.refl _ W).alloc hB _).trans hb⟩
set_option maxHeartbeats 2000000 in
set_option maxRecDepth 100000 in
theorem cloneEvents_calls (v : Value) (ls : List (List UInt8)) (w : World) (hv : Sl evE (fun _ => True) w v ls) (hn : ls.length ≤ 100000) (hl : ∀ e ∈ ls, e.length ≤ 70368744177664) :
    Calls Try.prog 85 #[v] w fun e w' => ∃ v', e = .returned v' ∧ Gr evE w.heap.size (fun B => w.heap.size ≤ B) w' v' ls ∧ Below w.heap.size w w' := by
  obtain ⟨a, c, rfl, h1, h2, h3⟩ := hv
  have HV : Hid (Ls evE (fun _ => True) w a ls) := h3
  have HN : Hid (ls.length ≤ 100000) := hn
  have HL : Hid (∀ e ∈ ls, e.length ≤ 70368744177664) := hl
  clear h1 h2 h3 hn hl
  go_enter Try.func85, Try.ntmps85
  go_wp2_with fail
  go_loopw [3, 5, 8] (fun u _ i wr => ∃ j : Nat, j ≤ ls.length ∧ i = .int .i64 (j : Int) ∧ Hid (Gr evE w.heap.size (fun B => w.heap.size ≤ B) wr u (ls.take j)) ∧ Hid (Below w.heap.size w wr)) (fun _ _ i _ => ls.length - (intOf i).toNat)
  case atStart => exact ⟨0, Nat.zero_le _, rfl, Gr.nil _ _ _, Below.refl _ _⟩
  case round =>
    obtain ⟨j, hj, rfl, HG, HB⟩ := hrel
    by_cases hlt : j < ls.length
    · obtain ⟨B, o, vb, rfl, _, hc, hv⟩ := (HV.out.below HB.out).ev j _ (List.getElem?_eq_getElem hlt)
      have HW : Hid (wrap64 ((j : Int) + 1) = ((j + 1 : Nat) : Int)) := wr1 hlt (by have := HN.out; omega)
      have hjl : (j : Int) < (ls.length : Int) := by omega
      obtain ⟨pv, cv, rfl, _⟩ := hv.shape
      have CC : Hid (Calls Try.prog 53 _ wr _) := clone_calls _ ls[j] wr hv.bytes (HL.out _ (List.getElem_mem hlt))
      obtain ⟨pu, cu, hu, _⟩ := HG.out.shape
      have hnj : (ls.take j).length = j := by rw [List.length_take]; omega
      rw [hnj] at hu
      subst hu
      clear hv
      go_wp2_with fail
      refine CC.out.mono ?_
      rintro e w2 ⟨v2, rfl, hv2, hb2⟩
      obtain ⟨p2, c2, rfl, _⟩ := hv2.shape
      have hlu := HG.out.lt
      have s1 := HB.out.size
      have s2 := hb2.size
      have hk2 : (ls.take j).length ≤ 100000 := by have := HN.out; omega
      have hx2 := hv2.all (P' := fun B => w.heap.size ≤ B ∧ (Value.slice pu j cu).ownBlock ≠ some B) (fun B hB => ⟨Nat.le_trans s1 hB, fun e => Nat.lt_irrefl _ (Nat.lt_of_lt_of_le (hlu B e).2 hB)⟩)
      obtain ⟨u', w3, hr, hg3, hb3⟩ := app_ev (HG.out.below hb2) hx2 hk2 (Nat.le_trans s1 s2)
      have HG3 : Hid (Gr evE w.heap.size (fun B => w.heap.size ≤ B) w3 u' (ls.take (j + 1))) := by
        show Gr _ _ _ _ _ _
        rw [List.take_add_one, List.getElem?_eq_getElem hlt]
        exact hg3
      have HB3 : Hid (Below w.heap.size w w3) := (bel2 HB.out hb2).trans hb3
      obtain ⟨pu', cu', hu', _⟩ := HG3.out.shape
      have hnn : (ls.take (j + 1)).length = j + 1 := by rw [List.length_take]; omega
      rw [hnn] at hu'
      subst hu'
      clear hg3 hb3 hv2 hb2 hlu hc hx2 s1 s2 hk2
      go_wp2_with (at_builtin; refine Lib.wpList_append_run _ rfl _ _ 40 40 rfl _ _ rfl rfl _ _ (hr _) ?_)
      exact ⟨⟨j + 1, hlt, rfl, HG3, HB3⟩, meas hlt rfl⟩
    · obtain rfl : j = ls.length := by omega
      go_wp2_with fail
      go_ret
      have hg := HG.out
      rw [List.take_length] at hg
      exact ⟨_, rfl, hg, HB.out⟩
end Go.Proofs.Ytkaaddahegkmgaa
