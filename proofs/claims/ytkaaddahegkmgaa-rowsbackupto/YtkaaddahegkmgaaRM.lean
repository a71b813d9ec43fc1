/- The contracts of slices.Grow at nil and of slices.Concat of two lists of events. -/
import Derived.Test.YtkaaddahegkmgaaRL
import Derived.Test.YtkaaddahegkmgaaOA
namespace Go.Proofs.Ytkaaddahegkmgaa
open Go.ChangeShapes Go.WideShapes Go.ChangeAt Go.RowKit
theorem growE_calls (N : Nat) (hN : N ≤ 100000) (w : World) : Calls Try.prog 104 #[.slice none 0 0, .int .i64 (N : Int)] w fun e w' => (∃ v, e = .returned v ∧ ∀ Q, Gr evE w.heap.size Q w' v []) ∧ Below w.heap.size w w' := by
  obtain ⟨i0, hi, hz0, hz1, hz2⟩ := info_parts info26_
  by_cases h0 : N = 0
  · subst h0
    clear hN
    go_enter Try.func104, Try.ntmps104
    go_wp2
    go_ret
    exact ⟨⟨_, rfl, fun Q => Gr.nil _ _ _⟩, Below.refl _ _⟩
  · have hrz : ∀ ty, (Builtin.append_ #[40, 3] ty #[.slice none 0 0, .int .i64 (N : Int)]).run Try.prog w = _ := fun ty =>
      Lib.run_append_grow_zeros (P := Try.prog) w 40 3 ty 26 i0 (.slice none 0 0) .i64 .i64 Try.underlying40 Try.underlying3 hi hz0 none 0 0 [] (run_firstCells_none w.drew i0.size 0 0 0) N (by omega) (by omega) (by omega) (by omega) (by rw [hz2]; omega)
        (by rw [hz2, Nat.zero_add, nextslicecap_zero (by omega)]; omega)
    simp only [Nat.zero_add] at hrz
    have hGn : N ≤ grownCap w N 0 26 := grownCap_ge w _ _ _
    have hGm := grownCap_le_maxLen w N 0 26 (by unfold maxLen; omega)
    generalize grownCap w N 0 26 = G at hrz hGn hGm
    have hsz : (([] : List Value).toArray ++ Builtin.zeroCells (Value.slice none 0 0).cells N ++ Builtin.zeroCells (Value.slice none 0 0).cells (G - N)).size = G := by simp [size_zeroCells, Value.cells]; omega
    generalize ([] : List Value).toArray ++ Builtin.zeroCells (Value.slice none 0 0).cells N ++ Builtin.zeroCells (Value.slice none 0 0).cells (G - N) = cur at hrz hsz
    have HA : Hid (∀ Q, Gr evE w.heap.size Q (w.alloc (.cells cur 26)).drew (.slice (some ⟨w.heap.size, 0, none⟩) 0 G) []) :=
      fun Q => ⟨[], ⟨rfl, .inr ⟨w.heap.size, G, cur, rfl, Nat.le_refl _, row_last w _, Nat.zero_le _, hGm, by rw [hsz]; exact (Nat.mul_one _).symm, by simp⟩⟩, fun i t h => by simp at h⟩
    have HB : Hid (Below w.heap.size w (w.alloc (.cells cur 26)).drew) := ((Below.refl _ w).alloc (Nat.le_refl _) _).drew
    have d0 : decide ((N : Int) < 0) = false := decide_eq_false (by omega)
    have d1 : 0 < N := by omega
    have hw : wrap64 (N : Int) = (N : Int) := by unfold wrap64; omega
    rw [← hw] at hrz
    have HR : Hid (∀ ty, _) := hrz
    clear hrz h0 hN hGn hi hz0 hz1 hz2 hGm hsz
    go_enter Try.func104, Try.ntmps104
    go_wp2_with (at_builtin; go_must (refine Lib.wpList_append_run w rfl _ _ 40 3 rfl (.slice none 0 0) (.int .i64 (wrap64 (N : Int))) rfl rfl _ _ (HR.out _) ?_))
    all_goals go_ret
    all_goals exact ⟨⟨_, rfl, HA.out⟩, HB.out⟩
/-- append of a list of events to one of the call's own. -/
theorem app_evs {lo : Nat} {Q : Nat → Prop} {W : World} {u x : Value} {xs ys : List (List UInt8)} (h : Gr evE lo Q W u xs) (hQ : ∀ B, Q B → B < lo) (hx : Sl evE Q W x ys) (hk : xs.length + ys.length ≤ 100000) (hB : lo ≤ W.heap.size) :
    ∃ u' w', (∀ ty, (Builtin.append_ #[40, 40] ty #[u, x]).run Try.prog W = .ok u' w') ∧ Gr evE lo Q w' u' (xs ++ ys) ∧ Below lo W w' := by
  obtain ⟨i0, hi, hz0, hz1, hz2⟩ := info_parts info26_
  obtain ⟨a, c, rfl, h1, h2, h3⟩ := hx
  cases a with
  | none =>
    have hys : ys = [] := by
      cases ys with
      | nil => rfl
      | cons y ys => obtain ⟨B, o, v, ha, _⟩ := h3.ev 0 y rfl; cases ha
    subst hys
    refine ⟨u, W, fun ty => ?_, by rw [List.append_nil]; exact h, Below.refl _ _⟩
    obtain ⟨cells, ⟨_, ⟨rfl, h0⟩ | ⟨g, cap, cur, rfl, _, _, hle, _⟩⟩, _⟩ := h
    · simp [Builtin.append_, run_underlying Try.underlying40, sizeOf, typeInfo, hi, Builtin.lenOf, Builtin.firstCells]
    · simp [Builtin.append_, run_underlying Try.underlying40, sizeOf, typeInfo, hi, Builtin.lenOf, Builtin.firstCells, hle, storeCells]
  | some a =>
    have each : ∀ i, i < ys.length → ∃ v : Value, W.cell? (a.add i) = some v ∧ ∀ y, ys[i]? = some y → HB Q W v y := fun i hl => by
      obtain ⟨B, o, v, ha, _, hc, hv⟩ := h3.ev i _ (List.getElem?_eq_getElem hl)
      cases ha
      exact ⟨v, by rw [add_plain]; exact hc, fun y hy => by rw [List.getElem?_eq_getElem hl] at hy; cases hy; exact hv⟩
    have inh : Inhabited Value := ⟨undef⟩
    obtain ⟨F, hF⟩ := Go.Deep.choose_lt each
    obtain ⟨news, hnews⟩ : ∃ news : List Value, news = (List.range ys.length).map F := ⟨_, rfl⟩
    have hnl : news.length = ys.length := by rw [hnews]; simp
    have hget : ∀ j, j < ys.length → news[j]? = some (F j) := fun j hj => by rw [hnews, List.getElem?_map, List.getElem?_range hj]; rfl
    have hone : ∀ z ∈ news, z.oneCell' = true := fun z hz => by
      rw [hnews] at hz
      obtain ⟨j, hj, rfl⟩ := List.mem_map.1 hz
      have hj := List.mem_range.1 hj
      exact ((hF j hj).2 _ (List.getElem?_eq_getElem hj)).one
    obtain ⟨cells, hown, hc⟩ := h
    have hcl : cells.length = xs.length := by have := hown.1; simpa [evE] using this
    have key : ∀ ty, ∃ v' w', (Builtin.append_ #[40, 40] ty #[u, .slice (some a) ys.length c]).run Try.prog W = .ok v' w' ∧ w'.ownsRow lo 26 1 v' (xs.length + ys.length) (cells ++ news) ∧ W.grownBy w' u.ownBlock ∧ _ := fun ty =>
      run_append_own (P := Try.prog) (w := W) lo 40 ty 26 i0 _ 1 24 Try.underlying40 hi hz0 hz1 hz2 rfl (by decide) u xs.length cells hown a ys.length c news (by rw [hnl, Nat.mul_one]) (fun j z hj => by
        have hlt : j < ys.length := by have := (List.getElem?_eq_some_iff.1 hj).1; omega
        rw [hget j hlt] at hj
        cases hj
        exact (hF j hlt).1) hone (by unfold maxLen; omega) (by omega) hB
    obtain ⟨u', w', hr, hown', hgrow, _⟩ := key 40
    refine ⟨u', w', fun ty => hr, ?_, (Below.refl _ W).grown hgrow hB (fun k hk2 => (World.ownsRow.lt hown k hk2).1)⟩
    have hlu := World.ownsRow.lt hown
    have hlu' := World.ownsRow.lt hown'
    have hold : ∀ {v : Value} {y : List UInt8}, HB Q W v y → HB (fun B => Q B ∧ u'.ownBlock ≠ some B) w' v y := fun h => h.keep fun B hB hl => ⟨hgrow.block B hl (fun e => by have := hlu B e.symm; have := hQ B hB; omega), hB, fun e => by have := hlu' B e; have := hQ B hB; omega⟩
    refine ⟨cells ++ news, by rw [List.length_append]; exact hown', fun i y hy => ?_⟩
    by_cases hlt : i < xs.length
    · rw [List.getElem?_append_left hlt] at hy
      obtain ⟨cs, e0, v, rfl, hq⟩ := hc i y hy
      refine ⟨[v], fun r z hz => ?_, v, rfl, hold (hq.all fun B hB => hB.1)⟩
      have hr : r < 1 := (List.getElem?_eq_some_iff.1 hz).1
      have hEK : evE.K = 1 := rfl
      rw [List.getElem?_append_left (by rw [hEK]; omega)]
      exact e0 r z hz
    · rw [List.getElem?_append_right (by omega)] at hy
      have hj : i - xs.length < ys.length := (List.getElem?_eq_some_iff.1 hy).1
      refine ⟨[F (i - xs.length)], fun r z hz => ?_, _, rfl, hold ((hF _ hj).2 y hy)⟩
      have hr : r < 1 := (List.getElem?_eq_some_iff.1 hz).1
      obtain rfl : r = 0 := by omega
      cases hz
      have hEK : evE.K = 1 := rfl
      rw [hEK, Nat.mul_one, Nat.add_zero, List.getElem?_append_right (by omega), hcl]
      exact hget _ hj
set_option maxHeartbeats 4000000 in
set_option maxRecDepth 100000 in
/-- Concat of two lists of events. -/
theorem concatE_calls (P : Nat → Prop) (b c : Nat) (v0 v1 : Value) (l0 l1 : List (List UInt8)) (w : World) (c0 : w.cell? ⟨b, 0, none⟩ = some v0) (c1 : w.cell? ⟨b, 0 + 1, none⟩ = some v1) (h0 : Sl evE P w v0 l0) (h1 : Sl evE P w v1 l1) (hn : l0.length + l1.length ≤ 100000) :
    Calls Try.prog 84 #[.slice (some ⟨b, 0, none⟩) 2 c] w fun e w' => (∃ v, e = .returned v ∧ Gr evE w.heap.size (fun B => P B ∧ B < w.heap.size) w' v (l0 ++ l1)) ∧ Below w.heap.size w w' := by
  obtain ⟨p0, k0, rfl, _⟩ := h0.shape
  obtain ⟨p1, k1, rfl, _⟩ := h1.shape
  have H0 : Hid (Sl evE (fun B => P B ∧ B < w.heap.size) w (.slice p0 l0.length k0) l0) := h0.keep fun B hB hl => ⟨rfl, hB, hl⟩
  have H1 : Hid (Sl evE (fun B => P B ∧ B < w.heap.size) w (.slice p1 l1.length k1) l1) := h1.keep fun B hB hl => ⟨rfl, hB, hl⟩
  have HN : Hid (l0.length + l1.length ≤ 100000) := hn
  have GC : Hid (Calls Try.prog 104 #[.slice none 0 0, .int .i64 (((l0.length + l1.length : Nat)) : Int)] w _) := growE_calls (l0.length + l1.length) hn w
  have C0 : Hid (w.cell? ⟨b, 0, none⟩ = some (.slice p0 l0.length k0)) := c0
  have C1 : Hid (w.cell? ⟨b, 0 + 1, none⟩ = some (.slice p1 l1.length k1)) := c1
  have n0 : (0 : Int) ≤ (l0.length : Int) := by omega
  have n1 : (0 : Int) ≤ (l1.length : Int) := by omega
  have q0 : (l0.length : Int) ≤ 100000 := by omega
  have q1 : (l0.length : Int) + (l1.length : Int) ≤ 100000 := by omega
  clear h0 h1 hn
  go_enter Try.func84, Try.ntmps84
  go_wp2_with fail
  go_loopw [3, 11] (fun s i wr => wr = w ∧ ((i = .int .i64 0 ∧ s = .int .i64 0) ∨ (i = .int .i64 1 ∧ s = .int .i64 (l0.length : Int)) ∨ (i = .int .i64 2 ∧ s = .int .i64 ((l0.length : Int) + (l1.length : Int))))) (fun _ i _ => 2 - (intOf i).toNat)
  case atStart => exact ⟨rfl, .inl ⟨rfl, rfl⟩⟩
  case round =>
    obtain ⟨hwr, hrel⟩ := hrel
    have hwr := hwr.symm
    subst hwr
    obtain ⟨rfl, rfl⟩ | ⟨rfl, rfl⟩ | ⟨rfl, rfl⟩ := hrel
    · have hw0 : wrap64 (l0.length : Int) = (l0.length : Int) := by unfold wrap64; omega
      have hd0 : decide ((l0.length : Int) < 0) = false := decide_eq_false (by omega)
      go_wp2_with fail
      exact ⟨⟨by trivial, .inr (.inl ⟨rfl, rfl⟩)⟩, by decide⟩
    · have hw0 : wrap64 ((l0.length : Int) + (l1.length : Int)) = (l0.length : Int) + (l1.length : Int) := by unfold wrap64; omega
      have hd0 : decide ((l0.length : Int) + (l1.length : Int) < 0) = false := decide_eq_false (by omega)
      go_wp2_with fail
      exact ⟨⟨by trivial, .inr (.inr ⟨rfl, rfl⟩)⟩, by decide⟩
    · clear n0 n1 q0 q1
      go_wp2_with fail
      refine GC.out.mono ?_
      rintro e w1 ⟨⟨v1, rfl, hg1⟩, hb1⟩
      have HG1 : Hid (Gr evE w.heap.size (fun B => P B ∧ B < w.heap.size) w1 v1 []) := hg1 _
      have HB1 : Hid (Below w.heap.size w w1) := hb1
      obtain ⟨pv, cv, rfl, _⟩ := HG1.out.shape
      clear hg1 hb1 GC c0 c1
      go_wp2_with fail
      go_loopw [6, 27] (fun v i wx => Hid (Below w.heap.size w wx) ∧ ((i = .int .i64 0 ∧ Hid (Gr evE w.heap.size (fun B => P B ∧ B < w.heap.size) wx v [])) ∨ (i = .int .i64 1 ∧ Hid (Gr evE w.heap.size (fun B => P B ∧ B < w.heap.size) wx v l0)) ∨ (i = .int .i64 2 ∧ Hid (Gr evE w.heap.size (fun B => P B ∧ B < w.heap.size) wx v (l0 ++ l1))))) (fun _ i _ => 2 - (intOf i).toNat)
      case atStart => exact ⟨HB1, .inl ⟨rfl, HG1⟩⟩
      case round =>
        obtain ⟨HB2, ⟨rfl, HG⟩ | ⟨rfl, HG⟩ | ⟨rfl, HG⟩⟩ := hrel
        · have ec := (HB2.out.cell (World.block_lt_of_cell? _ _ C0.out)).trans C0.out
          obtain ⟨u', w3, hr, hg3, hb3⟩ := app_evs HG.out (fun B h => h.2) (H0.out.below HB2.out) (by have := HN.out; simp; omega) HB2.out.size
          rw [List.nil_append] at hg3
          obtain ⟨pu, cu, rfl, _⟩ := HG.out.shape
          have HG3 : Hid (Gr evE _ _ w3 u' _) := hg3
          have HB3 : Hid (Below w.heap.size w w3) := HB2.out.trans hb3
          have HR : Hid (∀ ty, _) := hr
          clear hg3 hb3 hr
          go_wp2_with (at_builtin; go_must (refine Lib.wpList_append_run _ rfl _ _ 40 40 rfl _ _ rfl rfl _ _ (HR.out _) ?_))
          exact ⟨⟨HB3, .inr (.inl ⟨rfl, HG3⟩)⟩, by decide⟩
        · have ec := (HB2.out.cell (World.block_lt_of_cell? _ _ C1.out)).trans C1.out
          obtain ⟨u', w3, hr, hg3, hb3⟩ := app_evs HG.out (fun B h => h.2) (H1.out.below HB2.out) (by have := HN.out; exact this) HB2.out.size
          skip
          obtain ⟨pu, cu, rfl, _⟩ := HG.out.shape
          have HG3 : Hid (Gr evE _ _ w3 u' _) := hg3
          have HB3 : Hid (Below w.heap.size w w3) := HB2.out.trans hb3
          have HR : Hid (∀ ty, _) := hr
          clear hg3 hb3 hr
          go_wp2_with (at_builtin; go_must (refine Lib.wpList_append_run _ rfl _ _ 40 40 rfl _ _ rfl rfl _ _ (HR.out _) ?_))
          exact ⟨⟨HB3, .inr (.inr ⟨rfl, HG3⟩)⟩, by decide⟩
        · go_wp2_with fail
          go_ret
          exact ⟨⟨_, rfl, HG.out⟩, HB2.out⟩
end Go.Proofs.Ytkaaddahegkmgaa
