/- The contracts of clone of a branch, cloneAll of rows and of branches. -/
import Derived.Test.YtkaaddahegkmgaaGreatMC
import Derived.Test.YtkaaddahegkmgaaGreatRJ
namespace Go.Proofs.YtkaaddahegkmgaaGreat
open Go.ChangeShapes Go.WideShapes Go.ChangeAt Go.RowKit
theorem Sl.shape {α : Type} {E : El α} {P : Nat → Prop} {w : World} {v : Value} {l : List α} (h : Sl E P w v l) : ∃ a c, v = .slice a l.length c ∧ l.length ≤ c ∧ c ≤ 9223372036854775807 := by
  obtain ⟨p, c, hv, h1, h2, _⟩ := h
  exact ⟨p, c, hv, h1, h2⟩
theorem Sl.all' {α : Type} {E : El α} {P P' : Nat → Prop} {w : World} {v : Value} {l : List α} (h : Sl E P w v l) (hk : ∀ B, P B → P' B) : Sl E P' w v l := h.keep fun B hB _ => ⟨rfl, hk B hB⟩
theorem HB.all' {P P' : Nat → Prop} {w : World} {v : Value} {l : List UInt8} (h : HB P w v l) (hk : ∀ B, P B → P' B) : HB P' w v l := h.all hk
theorem Sl.set {α : Type} {E : El α} {lo : Nat} {P : Nat → Prop} {w : World} {u v : Value} {l : List α} {g o : Nat} (h : Sl E P w v l) (hP : ∀ B, P B → lo ≤ B) (hg : g < lo) : Sl E P (w.setCell ⟨g, o, none⟩ u) v l :=
  h.keep fun B hB _ => ⟨Below.heap_setCell _ _ _ _ (fun e => by have := hP B hB; have e2 : B = g := e; omega), hB⟩
/-- What a branch's list of events may be, so that it can be copied. -/
def SmB (x : Bn) : Prop := x.ev.length ≤ 100000 ∧ ∀ e ∈ x.ev, e.length ≤ 70368744177664
set_option maxHeartbeats 1000000 in
set_option maxRecDepth 100000 in
theorem cloneBr_calls (x : Bn) (v : Value) (w : World) (hv : Sl evE (fun _ => True) w v x.ev) (hl : SmB x) :
    Calls Tryz.prog 82 #[.agg #[.string x.key, v]] w fun e w' => (∃ v', e = .returned (.agg #[.string x.key, v']) ∧ Sl evE (fun B => w.heap.size ≤ B) w' v' x.ev) ∧ Below w.heap.size w w' := by
  obtain ⟨key, ev⟩ := x
  unfold SmB at hl
  dsimp only at hv hl ⊢
  obtain ⟨p, c, rfl, _⟩ := hv.shape
  have HV : Hid (Sl evE (fun _ => True) w (.slice p ev.length c) ev) := hv
  have HL : Hid (ev.length ≤ 100000 ∧ ∀ e ∈ ev, e.length ≤ 70368744177664) := hl
  clear hv hl
  go_enter Tryz.func82, Tryz.ntmps82
  go_wp2_with (simp only [ta98, ta9n])
  have HA : Hid (Below w.heap.size w ((w.alloc (.cells #[.string key, .slice p ev.length c] 39)).alloc (.cells #[.string ⟨#[]⟩, .slice none 0 0] 39))) := bel2 (bel1 _ _) (bel1 _ _)
  have HO := old2 w (.cells #[.string key, .slice p ev.length c] 39) (.cells #[.string ⟨#[]⟩, .slice none 0 0] 39)
  have HO2 := new2 w (.cells #[.string key, .slice p ev.length c] 39) (.cells #[.string ⟨#[]⟩, .slice none 0 0] 39)
  generalize (w.alloc (.cells #[.string key, .slice p ev.length c] 39)).alloc (.cells #[.string ⟨#[]⟩, .slice none 0 0] 39) = w1 at HA HO HO2 ⊢
  refine (cloneEvents_calls _ ev w1 (HV.out.below HA.out) HL.out.1 HL.out.2).mono ?_
  rintro e w2 ⟨v2, rfl, hg2, hb2⟩
  have hv2 : Sl evE (fun B => w1.heap.size ≤ B) w2 v2 ev := hg2.sl (fun B h => h.elim id id)
  obtain ⟨p2, c2, rfl, _⟩ := hv2.shape
  have r1 := row_below hb2 HO
  have r2 := row_below hb2 HO2
  have HB2 : Hid (Below w.heap.size w w2) := bel2 HA.out hb2
  have HV2 : Hid (Sl evE (fun B => w1.heap.size ≤ B) w2 (.slice p2 ev.length c2) ev) := hv2
  have HL1 : Hid (w.heap.size + 1 < w1.heap.size) := lt_of_row HO2
  have c10 := row_cell r1 (j := 0) rfl
  have c11 := row_cell r1 (j := 1) rfl
  have c20 := row_cell r2 (j := 0) rfl
  have c21 := row_cell r2 (j := 1) rfl
  have f1 := row_frozen r1
  have f2 := row_frozen r2
  have HR : Hid ((w2.setCell ⟨w.heap.size, 1, none⟩ (.slice p2 ev.length c2)).heap[w.heap.size + 1]? = _) := (Below.heap_setCell _ _ _ _ (fun e => Nat.succ_ne_self _ e)).trans r2
  clear hv2 hg2 hb2 HO HO2 r1 r2
  go_wp2_with (simp only)
  refine bodyPost_ret (ret_br Tryz.results82 _ rfl HR.out _ _) rfl ?_
  have hz := HL1.out
  exact ⟨⟨_, rfl, (((HV2.out.set (lo := w1.heap.size) (fun _ h => h) (by omega)).set (lo := w1.heap.size) (fun _ h => h) hz).set (lo := w1.heap.size) (fun _ h => h) hz).all' (fun B hB => by omega)⟩,
    below_set (below_set (below_set HB2.out (Nat.le_refl _)) (by omega)) (by omega)⟩
theorem app_row {lo : Nat} {W : World} {u v : Value} {xs : List Rw} {x : Rw} (h : Gr rowE lo (fun B => lo ≤ B) W u xs) (hx : rowE.I (fun B => lo ≤ B ∧ u.ownBlock ≠ some B) W [.string x.key, .int .i64 x.ver, v] x) (hk : xs.length ≤ 100000) (hB : lo ≤ W.heap.size) :
    ∃ u' w', (∀ ty, (Builtin.append_ #[22, 22] ty #[u, .slice (some ⟨W.heap.size, 0, none⟩) 1 1]).run Tryz.prog (W.alloc (.cells #[.string x.key, .int .i64 x.ver, v] 47)) = .ok u' w') ∧ Gr rowE lo (fun B => lo ≤ B) w' u' (xs ++ [x]) ∧ Below lo W w' := by
  obtain ⟨i0, hi, hz0, hz1, hz2⟩ := info_parts InsR.info37_
  obtain ⟨u', w', hr, hg, hb, _, _⟩ := Gr.app (E := rowE) (src := W.heap.size) (news := [.string x.key, .int .i64 x.ver, v]) (x := x) (Q := fun B => lo ≤ B) (lo := lo) Tryz.underlying22 hi hz0 hz1 hz2 rfl (by decide) (h.below (bel1 W (.cells #[.string x.key, .int .i64 x.ver, v] 47))) (rowE.keep hx (fun B hB hl => ⟨(bel1 W (.cells #[.string x.key, .int .i64 x.ver, v] 47)).block B hl, hB⟩)) (fun j z hj => by
    rw [cell_new]
    simpa using hj) (by omega) (by omega) (by simp; omega)
  exact ⟨u', w', hr, hg, ((Below.refl _ W).alloc hB _).trans hb⟩
set_option maxHeartbeats 4000000 in
set_option maxRecDepth 100000 in
theorem cloneAllrow_calls (v : Value) (ls : List Rw) (w : World) (hv : Sl rowE (fun _ => True) w v ls) (hn : ls.length ≤ 100000) (hl : ∀ e ∈ ls, e.row.length ≤ 70368744177664) :
    Calls Tryz.prog 62 #[v] w fun e w' => ∃ v', e = .returned v' ∧ Gr rowE w.heap.size (fun B => w.heap.size ≤ B) w' v' ls ∧ Below w.heap.size w w' := by
  obtain ⟨a, c, rfl, h1, h2, h3⟩ := hv
  have HV : Hid (Ls rowE (fun _ => True) w a ls) := h3
  have HN : Hid (ls.length ≤ 100000) := hn
  have HL : Hid (∀ e ∈ ls, e.row.length ≤ 70368744177664) := hl
  clear h1 h2 h3 hn hl
  go_enter Tryz.func62, Tryz.ntmps62
  go_wp2_with fail
  go_loopw [3, 5, 8] (fun u _ i wr => ∃ j : Nat, j ≤ ls.length ∧ i = .int .i64 (j : Int) ∧ Hid (Gr rowE w.heap.size (fun B => w.heap.size ≤ B) wr u (ls.take j)) ∧ Hid (Below w.heap.size w wr)) (fun _ _ i _ => ls.length - (intOf i).toNat)
  case atStart => exact ⟨0, Nat.zero_le _, rfl, Gr.nil _ _ _, Below.refl _ _⟩
  case round =>
    obtain ⟨j, hj, rfl, HG, HB⟩ := hrel
    by_cases hlt : j < ls.length
    · obtain ⟨B, o, vb, rfl, _, k0, k1, k2, hv⟩ := (HV.out.below HB.out).row j _ (List.getElem?_eq_getElem hlt)
      have hjl : (j : Int) < (ls.length : Int) := by omega
      have HLj := HL.out _ (List.getElem_mem hlt)
      have HXj : Hid ((ls.take (j + 1)) = ls.take j ++ [ls[j]]) := by
        show _ = _
        rw [List.take_add_one, List.getElem?_eq_getElem hlt]
        rfl
      generalize ls[j] = x at hv HLj HXj k0 k1 k2
      obtain ⟨pv, cv, rfl, _⟩ := hv.shape
      have CC : Hid (∀ W, Below wr.heap.size wr W → Calls Tryz.prog 70 #[.agg #[.string x.key, .int .i64 x.ver, .slice pv x.row.length cv]] W _) := fun W hB => cloneRow_calls x _ W (hv.below hB) HLj
      obtain ⟨pu, cu, hu, _⟩ := HG.out.shape
      have hnj : (ls.take j).length = j := by rw [List.length_take]; omega
      rw [hnj] at hu
      subst hu
      clear hv HLj
      go_wp2_with fail
      refine (CC.out _ (bel1 _ _)).mono ?_
      rintro e w2 ⟨⟨v2, rfl, hv2⟩, hb2⟩
      have hbw : Below wr.heap.size wr w2 := bel2 (bel1 _ _) hb2
      have hlu := HG.out.lt
      have s1 := HB.out.size
      have s2 := hbw.size
      have s3 : wr.heap.size ≤ (wr.alloc (.cells #[.string x.key, .int .i64 x.ver, .slice pv x.row.length cv] 47)).heap.size := by simp
      have hk2 : (ls.take j).length ≤ 100000 := by have := HN.out; omega
      have hx2 : rowE.I (fun B => w.heap.size ≤ B ∧ (Value.slice pu j cu).ownBlock ≠ some B) w2 [.string x.key, .int .i64 x.ver, v2] x := ⟨v2, rfl, hv2.all' (fun B hB => ⟨Nat.le_trans s1 (Nat.le_trans s3 hB), fun e => Nat.lt_irrefl _ (Nat.lt_of_lt_of_le (hlu B e).2 (Nat.le_trans s3 hB))⟩)⟩
      obtain ⟨p2, c2, rfl, _⟩ := hv2.shape
      obtain ⟨u', w3, hr, hg3, hb3⟩ := app_row (HG.out.below hbw) hx2 hk2 (Nat.le_trans s1 s2)
      have HG3 : Hid (Gr rowE w.heap.size (fun B => w.heap.size ≤ B) w3 u' (ls.take (j + 1))) := by
        show Gr _ _ _ _ _ _
        rw [HXj.out]
        exact hg3
      have HB3 : Hid (Below w.heap.size w w3) := (bel2 HB.out hbw).trans hb3
      obtain ⟨pu', cu', hu', _⟩ := HG3.out.shape
      have hnn : (ls.take (j + 1)).length = j + 1 := by rw [List.length_take]; omega
      rw [hnn] at hu'
      subst hu'
      clear hg3 hb3 hv2 hb2 hlu k0 k1 k2 hx2 s1 s2 s3 hk2 hbw
      go_wp2_with (at_builtin; refine Lib.wpList_append_run _ rfl _ _ 22 22 rfl _ _ rfl rfl _ _ (hr _) ?_)
      exact ⟨⟨j + 1, hlt, rfl, HG3, HB3⟩, meas hlt rfl⟩
    · obtain rfl : j = ls.length := by omega
      go_wp2_with fail
      go_ret
      have hg := HG.out
      rw [List.take_length] at hg
      exact ⟨_, rfl, hg, HB.out⟩
theorem app_br {lo : Nat} {W : World} {u v : Value} {xs : List Bn} {x : Bn} (h : Gr brE lo (fun B => lo ≤ B) W u xs) (hx : brE.I (fun B => lo ≤ B ∧ u.ownBlock ≠ some B) W [.string x.key, v] x) (hk : xs.length ≤ 100000) (hB : lo ≤ W.heap.size) :
    ∃ u' w', (∀ ty, (Builtin.append_ #[23, 23] ty #[u, .slice (some ⟨W.heap.size, 0, none⟩) 1 1]).run Tryz.prog (W.alloc (.cells #[.string x.key, v] 39)) = .ok u' w') ∧ Gr brE lo (fun B => lo ≤ B) w' u' (xs ++ [x]) ∧ Below lo W w' := by
  obtain ⟨i0, hi, hz0, hz1, hz2⟩ := info_parts InsB.info56_
  obtain ⟨u', w', hr, hg, hb, _, _⟩ := Gr.app (E := brE) (src := W.heap.size) (news := [.string x.key, v]) (x := x) (Q := fun B => lo ≤ B) (lo := lo) Tryz.underlying23 hi hz0 hz1 hz2 rfl (by decide) (h.below (bel1 W (.cells #[.string x.key, v] 39))) (brE.keep hx (fun B hB hl => ⟨(bel1 W (.cells #[.string x.key, v] 39)).block B hl, hB⟩)) (fun j z hj => by
    rw [cell_new]
    simpa using hj) (by omega) (by omega) (by simp; omega)
  exact ⟨u', w', hr, hg, ((Below.refl _ W).alloc hB _).trans hb⟩
set_option maxHeartbeats 4000000 in
set_option maxRecDepth 100000 in
theorem cloneAllbr_calls (v : Value) (ls : List Bn) (w : World) (hv : Sl brE (fun _ => True) w v ls) (hn : ls.length ≤ 100000) (hl : ∀ e ∈ ls, SmB e) :
    Calls Tryz.prog 63 #[v] w fun e w' => ∃ v', e = .returned v' ∧ Gr brE w.heap.size (fun B => w.heap.size ≤ B) w' v' ls ∧ Below w.heap.size w w' := by
  obtain ⟨a, c, rfl, h1, h2, h3⟩ := hv
  have HV : Hid (Ls brE (fun _ => True) w a ls) := h3
  have HN : Hid (ls.length ≤ 100000) := hn
  have HL : Hid (∀ e ∈ ls, SmB e) := hl
  clear h1 h2 h3 hn hl
  go_enter Tryz.func63, Tryz.ntmps63
  go_wp2_with fail
  go_loopw [3, 5, 8] (fun u _ i wr => ∃ j : Nat, j ≤ ls.length ∧ i = .int .i64 (j : Int) ∧ Hid (Gr brE w.heap.size (fun B => w.heap.size ≤ B) wr u (ls.take j)) ∧ Hid (Below w.heap.size w wr)) (fun _ _ i _ => ls.length - (intOf i).toNat)
  case atStart => exact ⟨0, Nat.zero_le _, rfl, Gr.nil _ _ _, Below.refl _ _⟩
  case round =>
    obtain ⟨j, hj, rfl, HG, HB⟩ := hrel
    by_cases hlt : j < ls.length
    · obtain ⟨B, o, vb, rfl, _, k0, k1, hv⟩ := (HV.out.below HB.out).br j _ (List.getElem?_eq_getElem hlt)
      have hjl : (j : Int) < (ls.length : Int) := by omega
      have HLj := HL.out _ (List.getElem_mem hlt)
      have HXj : Hid ((ls.take (j + 1)) = ls.take j ++ [ls[j]]) := by
        show _ = _
        rw [List.take_add_one, List.getElem?_eq_getElem hlt]
        rfl
      generalize ls[j] = x at hv HLj HXj k0 k1
      obtain ⟨pv, cv, rfl, _⟩ := hv.shape
      have CC : Hid (∀ W, Below wr.heap.size wr W → Calls Tryz.prog 82 #[.agg #[.string x.key, .slice pv x.ev.length cv]] W _) := fun W hB => cloneBr_calls x _ W (hv.below hB) HLj
      obtain ⟨pu, cu, hu, _⟩ := HG.out.shape
      have hnj : (ls.take j).length = j := by rw [List.length_take]; omega
      rw [hnj] at hu
      subst hu
      clear hv HLj
      go_wp2_with fail
      refine (CC.out _ (bel1 _ _)).mono ?_
      rintro e w2 ⟨⟨v2, rfl, hv2⟩, hb2⟩
      have hbw : Below wr.heap.size wr w2 := bel2 (bel1 _ _) hb2
      have hlu := HG.out.lt
      have s1 := HB.out.size
      have s2 := hbw.size
      have s3 : wr.heap.size ≤ (wr.alloc (.cells #[.string x.key, .slice pv x.ev.length cv] 39)).heap.size := by simp
      have hk2 : (ls.take j).length ≤ 100000 := by have := HN.out; omega
      have hx2 : brE.I (fun B => w.heap.size ≤ B ∧ (Value.slice pu j cu).ownBlock ≠ some B) w2 [.string x.key, v2] x := ⟨v2, rfl, hv2.all' (fun B hB => ⟨Nat.le_trans s1 (Nat.le_trans s3 hB), fun e => Nat.lt_irrefl _ (Nat.lt_of_lt_of_le (hlu B e).2 (Nat.le_trans s3 hB))⟩)⟩
      obtain ⟨p2, c2, rfl, _⟩ := hv2.shape
      obtain ⟨u', w3, hr, hg3, hb3⟩ := app_br (HG.out.below hbw) hx2 hk2 (Nat.le_trans s1 s2)
      have HG3 : Hid (Gr brE w.heap.size (fun B => w.heap.size ≤ B) w3 u' (ls.take (j + 1))) := by
        show Gr _ _ _ _ _ _
        rw [HXj.out]
        exact hg3
      have HB3 : Hid (Below w.heap.size w w3) := (bel2 HB.out hbw).trans hb3
      obtain ⟨pu', cu', hu', _⟩ := HG3.out.shape
      have hnn : (ls.take (j + 1)).length = j + 1 := by rw [List.length_take]; omega
      rw [hnn] at hu'
      subst hu'
      clear hg3 hb3 hv2 hb2 hlu k0 k1 hx2 s1 s2 s3 hk2 hbw
      go_wp2_with (at_builtin; refine Lib.wpList_append_run _ rfl _ _ 23 23 rfl _ _ rfl rfl _ _ (hr _) ?_)
      exact ⟨⟨j + 1, hlt, rfl, HG3, HB3⟩, meas hlt rfl⟩
    · obtain rfl : j = ls.length := by omega
      go_wp2_with fail
      go_ret
      have hg := HG.out
      rw [List.take_length] at hg
      exact ⟨_, rfl, hg, HB.out⟩
end Go.Proofs.YtkaaddahegkmgaaGreat
