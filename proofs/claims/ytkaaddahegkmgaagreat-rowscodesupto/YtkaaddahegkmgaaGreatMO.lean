/- OA, RM, RN, RO, RP, put together. -/
import Derived.Test.YtkaaddahegkmgaaGreatBA
import Derived.Deep.Slices
import Derived.ChangeArms
import Derived.ChangeSame
import Derived.OpenShut
import Derived.Test.YtkaaddahegkmgaaGreatRL
import Derived.Test.YtkaaddahegkmgaaGreatRB
namespace Go.Proofs.YtkaaddahegkmgaaGreat
open Go.ChangeShapes Go.WideShapes Go.ChangeAt Go.RowKit Go.Deep
theorem cells25 : Tryz.prog.cellsOf 42 = 4 := by kernel_rfl
theorem cells42 : Tryz.prog.cellsOf 44 = 5 := by kernel_rfl
theorem cells22 : Tryz.prog.cellsOf 26 = 1 := by kernel_rfl
/-- An address whose cell is read has no spot. -/
theorem plain_addr {w : World} {a : Addr} {v : Value} (h : w.cell? a = some v) : a.spot = none := by
  obtain ⟨b, o, s⟩ := a
  unfold World.cell? at h
  cases s with
  | none => rfl
  | some k => split at h <;> simp at h
theorem addp (b o i : Nat) : (⟨b, o, none⟩ : Addr).add i = ⟨b, o + i, none⟩ := by unfold Addr.add; split <;> simp_all
theorem list4 {α : Type} : ∀ {l : List α}, l.length = 4 → ∃ a b c d, l = [a, b, c, d]
  | [a, b, c, d], _ => ⟨a, b, c, d, rfl⟩
theorem list5 {α : Type} : ∀ {l : List α}, l.length = 5 → ∃ a b c d e, l = [a, b, c, d, e]
  | [a, b, c, d, e], _ => ⟨a, b, c, d, e, rfl⟩
section
variable {H : Type} {enc : TypeId × Value → H} {W : World} {base : Nat} {spare : Nat → Bool} {held : Bool}
theorem open_by (fuel : Nat) (cs : List Value) (x : DataW H × List MemPlace) (h : DataW.trod enc Tryz.prog W base spare held fuel 26 cs = some x) : ∃ a n c l, cs = [.slice a n c] ∧ Lib.HoldsBytes W (.slice a n c) l := by
  rcases open_ints Tryz.underlying26 Tryz.underlying5 (by kernel_rfl) h with ⟨hcs, _⟩ | ⟨y, len, c, zs, hcs, _, hl, hm, hz, hx, hcell, hwz⟩
  · exact ⟨none, 0, 0, [], hcs, holds_nil W⟩
  · have hzl : len ≤ zs.length := by
      have hz2 : zs.length = if spare y.block = true then c else len := by simpa using hz
      rw [hz2]
      split
      · exact hl
      · exact Nat.le_refl _
    have hlen : ((zs.take len).map fun z => UInt8.ofNat z.toNat).length = len := by rw [List.length_map, List.length_take]; omega
    refine ⟨some y, len, c, (zs.take len).map fun z => UInt8.ofNat z.toNat, hcs, some y, c, by rw [hlen], (fun h => by cases h), ?_⟩
    intro b hb i u hu
    cases hb
    rw [List.getElem?_map] at hu
    obtain ⟨z, hz1, rfl⟩ := Option.map_eq_some_iff.1 hu
    have hi : i < (zs.take len).length := (List.getElem?_eq_some_iff.1 hz1).1
    rw [List.length_take] at hi
    rw [List.getElem?_take_of_lt (by omega)] at hz1
    have hw := hwz z (List.mem_of_getElem? hz1)
    simp only [Lit.wf, IntKind.min, IntKind.max, IntKind.signed, IntKind.bits, Bool.and_eq_true, decide_eq_true_eq, Bool.false_eq_true, if_false] at hw
    rw [hcell i (by omega), List.getD_eq_getElem?_getD, hz1]
    have e : ((UInt8.ofNat z.toNat).toNat : Int) = z := by rw [UInt8.toNat_ofNat']; omega
    rw [e]
    rfl
set_option maxRecDepth 100000 in
theorem open_evs (fuel : Nat) (cs : List Value) (x : DataW H × List MemPlace) (h : DataW.trod enc Tryz.prog W base spare held fuel 37 cs = some x) : ∃ v ls, cs = [v] ∧ LR W v ls := by
  rcases DataW.trod_slice Tryz.underlying37 h with ⟨h4, _⟩ | ⟨a, len, cap, elems, rest, q, hq, h4, _, _, hl, hm, he, hx, _, _⟩
  · exact ⟨_, [], h4, none, 0, rfl, by decide, fun i p hp => by simp at hp⟩
  · unfold maxLen at hm
    have each : ∀ i, i < len → ∃ r : Value × List UInt8, ∃ B o, a = ⟨B, o, none⟩ ∧ W.cell? ⟨B, o + i, none⟩ = some r.1 ∧ Lib.HoldsBytes W r.1 r.2 := by
      intro i hi
      have key := hx i hi
      rw [List.getElem?_eq_getElem (by omega)] at key
      obtain ⟨cs', k1, k2⟩ := Option.bind_eq_some_iff.1 key
      obtain ⟨a', n', c', l', rfl, hh⟩ := open_by q cs' _ k2
      rw [cells22] at k1
      obtain ⟨_, _, hcell⟩ := World.cells?_some k1
      have p0 := hcell 0 (by simp)
      have hsp : a.spot = none := by
        have key0 := hx 0 (by omega)
        rw [List.getElem?_eq_getElem (by omega)] at key0
        obtain ⟨cs0, k10, k20⟩ := Option.bind_eq_some_iff.1 key0
        obtain ⟨_, _, _, _, rfl, _⟩ := open_by q cs0 _ k20
        rw [cells22] at k10
        obtain ⟨_, _, hcell0⟩ := World.cells?_some k10
        have q0 := hcell0 0 (by simp)
        rw [add_add] at q0
        have := plain_addr q0
        simpa [Addr.add] using this
      obtain ⟨B, o, sp⟩ := a
      cases hsp
      rw [addp, addp] at p0
      exact ⟨(.slice a' n' c', l'), B, o, rfl, by simpa using p0, hh⟩
    have inh : Inhabited (Value × List UInt8) := ⟨(undef, [])⟩
    obtain ⟨F, hF⟩ := choose_lt each
    refine ⟨_, (List.range len).map fun i => (F i).2, h4, some a, cap, by simp, by simp; omega, fun i p hp => ?_⟩
    have hi : i < len := by have := (List.getElem?_eq_some_iff.1 hp).1; simpa using this
    rw [List.getElem?_map, List.getElem?_range hi] at hp
    cases hp
    obtain ⟨B, o, ha, h5, hI⟩ := hF i hi
    exact ⟨B, o, _, by rw [ha], h5, hI⟩
set_option maxRecDepth 100000 in
theorem open_wt (fuel : Nat) (cs : List Value) (x : DataW H × List MemPlace) (h : DataW.trod enc Tryz.prog W base spare held fuel 44 cs = some x) : ∃ (t : Wt) (e : Value), cs = [.string t.br, .string t.fk, .int .i64 t.kp, .int .i64 t.ta, e] ∧ LR W e t.ev := by
  obtain ⟨xs, k, hk, hxy, hlen, hxl, hf⟩ := DataW.trod_struct Tryz.underlying44 h
  rw [cells42] at hlen
  obtain ⟨c0, c1, c2, c3, c4, rfl⟩ := list5 hlen
  obtain ⟨y0, y1, y2, y3, y4, rfl⟩ := list5 (l := xs) hxl
  have g0 := hf 0 _ rfl
  have g1 := hf 1 _ rfl
  have g2 := hf 2 _ rfl
  have g3 := hf 3 _ rfl
  have g4 := hf 4 _ rfl
  clear hf hxl hlen hxy h
  simp only [List.getElem?_cons_zero, List.getElem?_cons_succ] at g0 g1 g2 g3 g4
  obtain ⟨s0, e0, _, _⟩ := DataW.trod_string Tryz.underlying9 g0
  obtain ⟨s1, e1, _, _⟩ := DataW.trod_string Tryz.underlying9 g1
  obtain ⟨n2, e2, _, _⟩ := DataW.trod_int Tryz.underlying3 g2
  obtain ⟨n3, e3, _, _⟩ := DataW.trod_int Tryz.underlying3 g3
  obtain ⟨v4, ls, e4, hl⟩ := open_evs _ _ _ g4
  cases e0; cases e1; cases e2; cases e3; cases e4
  exact ⟨⟨s0, s1, n2, n3, ls⟩, _, rfl, hl⟩
set_option maxRecDepth 100000 in
theorem open_bt (fuel : Nat) (cs : List Value) (x : DataW H × List MemPlace) (h : DataW.trod enc Tryz.prog W base spare held fuel 42 cs = some x) : ∃ c0 c1 c2 c3 b, cs = [c0, c1, c2, c3] ∧ BIs W (.agg #[c0, c1, c2, c3]) b := by
  obtain ⟨xs, k, hk, hxy, hlen, hxl, hf⟩ := DataW.trod_struct Tryz.underlying42 h
  rw [cells25] at hlen
  obtain ⟨c0, c1, c2, c3, rfl⟩ := list4 hlen
  obtain ⟨y0, y1, y2, y3, rfl⟩ := list4 (l := xs) hxl
  have g0 := hf 0 _ rfl
  have g1 := hf 1 _ rfl
  have g2 := hf 2 _ rfl
  have g3 := hf 3 _ rfl
  clear hf hxl hlen hxy h
  simp only [List.getElem?_cons_zero, List.getElem?_cons_succ] at g0 g1 g2 g3
  obtain ⟨s0, e0, _, _⟩ := DataW.trod_string Tryz.underlying9 g0
  obtain ⟨n1, e1, _, _⟩ := DataW.trod_int Tryz.underlying3 g1
  obtain ⟨ra, rn, rc, row, e2, hrow⟩ := open_by _ _ _ g2
  cases e0; cases e1; cases e2
  rcases DataW.trod_slice Tryz.underlying40 g3 with ⟨h4, _⟩ | ⟨a, len, cap, elems, rest, q, hq, h4, _, _, hl, hm, he, hx, _, _⟩
  · cases h4
    exact ⟨_, _, _, _, ⟨s0, n1, row, []⟩, rfl, ra, rn, rc, none, 0, rfl, hrow, Nat.zero_le _, fun i t ht => by simp at ht⟩
  · cases h4
    unfold maxLen at hm
    have each : ∀ i, i < len → ∃ r : Wt × Value, ∃ B o, a = ⟨B, o, none⟩ ∧ At5 W B (o + i * 5) (.string r.1.br) (.string r.1.fk) (.int .i64 r.1.kp) (.int .i64 r.1.ta) r.2 ∧ LR W r.2 r.1.ev := by
      intro i hi
      have key := hx i hi
      rw [List.getElem?_eq_getElem (by omega)] at key
      obtain ⟨cs', k1, k2⟩ := Option.bind_eq_some_iff.1 key
      obtain ⟨t, e, rfl, hI⟩ := open_wt q cs' _ k2
      rw [cells42] at k1
      obtain ⟨_, _, hcell⟩ := World.cells?_some k1
      have p0 := hcell 0 (by simp)
      have hsp : a.spot = none := by
        have key0 := hx 0 (by omega)
        rw [List.getElem?_eq_getElem (by omega)] at key0
        obtain ⟨cs0, k10, k20⟩ := Option.bind_eq_some_iff.1 key0
        obtain ⟨_, _, rfl, _⟩ := open_wt q cs0 _ k20
        rw [cells42] at k10
        obtain ⟨_, _, hcell0⟩ := World.cells?_some k10
        have q0 := hcell0 0 (by simp)
        rw [add_add] at q0
        have := plain_addr q0
        simpa [Addr.add] using this
      obtain ⟨B, o, sp⟩ := a
      cases hsp
      have ad : ∀ r, ((⟨B, o, none⟩ : Addr).add (i * 5)).add r = ⟨B, o + i * 5 + r, none⟩ := by
        intro r
        rw [addp, addp]
      have p1 := hcell 1 (by simp)
      have p2 := hcell 2 (by simp)
      have p3 := hcell 3 (by simp)
      have p4 := hcell 4 (by simp)
      rw [ad] at p0 p1 p2 p3 p4
      exact ⟨(t, e), B, o, rfl, ⟨by simpa using p0, by simpa using p1, by simpa using p2, by simpa using p3, by simpa using p4⟩, hI⟩
    have inh : Inhabited (Wt × Value) := ⟨(⟨⟨#[]⟩, ⟨#[]⟩, 0, 0, []⟩, undef)⟩
    obtain ⟨F, hF⟩ := choose_lt each
    refine ⟨_, _, _, _, ⟨s0, n1, row, (List.range len).map fun i => (F i).1⟩, rfl, ra, rn, rc, some a, cap, by simp, hrow, by simp; omega, fun i t ht => ?_⟩
    have hi : i < len := by have := (List.getElem?_eq_some_iff.1 ht).1; simpa using this
    rw [List.getElem?_map, List.getElem?_range hi] at ht
    cases ht
    obtain ⟨B, o, ha, h5, hI⟩ := hF i hi
    exact ⟨B, o, _, by rw [ha], h5, hI⟩
end
end Go.Proofs.YtkaaddahegkmgaaGreat
namespace Go.Proofs.YtkaaddahegkmgaaGreat
open Go.ChangeShapes Go.WideShapes Go.ChangeAt Go.RowKit
theorem growE_calls (N : Nat) (hN : N ≤ 100000) (w : World) : Calls Tryz.prog 108 #[.slice none 0 0, .int .i64 (N : Int)] w fun e w' => (∃ v, e = .returned v ∧ ∀ Q, Gr evE w.heap.size Q w' v []) ∧ Below w.heap.size w w' := by
  obtain ⟨i0, hi, hz0, hz1, hz2⟩ := info_parts info26_
  by_cases h0 : N = 0
  · subst h0
    clear hN
    go_enter Tryz.func108, Tryz.ntmps108
    go_wp2
    go_ret
    exact ⟨⟨_, rfl, fun Q => Gr.nil _ _ _⟩, Below.refl _ _⟩
  · have hrz : ∀ ty, (Builtin.append_ #[37, 3] ty #[.slice none 0 0, .int .i64 (N : Int)]).run Tryz.prog w = _ := fun ty =>
      Lib.run_append_grow_zeros (P := Tryz.prog) w 37 3 ty 26 i0 (.slice none 0 0) .i64 .i64 Tryz.underlying37 Tryz.underlying3 hi hz0 none 0 0 [] (run_firstCells_none w.drew i0.size 0 0 0) N (by omega) (by omega) (by omega) (by omega) (by rw [hz2]; omega)
        (by rw [hz2, Nat.zero_add, nextslicecap_zero (by omega)]; omega)
    simp only [Nat.zero_add] at hrz
    have hGn : N ≤ grownCap w N 0 26 := grownCap_ge w _ _ _
    have hGm := grownCap_le_maxLen w N 0 26 (by unfold maxLen; omega)
    generalize grownCap w N 0 26 = G at hrz hGn hGm
    have hsz : (([] : List Value).toArray ++ Builtin.zeroCells (Value.slice none 0 0).cells N ++ Builtin.zeroCells (Value.slice none 0 0).cells (G - N)).size = G := by simp [size_zeroCells, Value.cells]; omega
    generalize ([] : List Value).toArray ++ Builtin.zeroCells (Value.slice none 0 0).cells N ++ Builtin.zeroCells (Value.slice none 0 0).cells (G - N) = cur at hrz hsz
    have HA : Hid (∀ Q, Gr evE w.heap.size Q (w.alloc (.cells cur 26)).drew (.slice (some ⟨w.heap.size, 0, none⟩) 0 G) []) :=
      fun Q => ⟨[], ⟨rfl, .inr ⟨w.heap.size, G, cur, rfl, Nat.le_refl _, row_last w _, Nat.zero_le _, hGm, by rw [hsz]; exact (Nat.mul_one _).symm, by simp⟩⟩, fun i t h => by simp at h⟩
    have HB : Hid (Below w.heap.size w (w.alloc (.cells cur 26)).drew) := ((Below.refl _ w).alloc (Nat.le_refl _) _).drew
    have d0 : decide ((N : Int) < 0) = false := decide_eq_false (by omega)
    have d1 : 0 < N := by omega
    have hw : wrap64 (N : Int) = (N : Int) := by unfold wrap64; omega
    rw [← hw] at hrz
    have HR : Hid (∀ ty, _) := hrz
    clear hrz h0 hN hGn hi hz0 hz1 hz2 hGm hsz
    go_enter Tryz.func108, Tryz.ntmps108
    go_wp2_with (at_builtin; go_must (refine Lib.wpList_append_run w rfl _ _ 37 3 rfl (.slice none 0 0) (.int .i64 (wrap64 (N : Int))) rfl rfl _ _ (HR.out _) ?_))
    all_goals go_ret
    all_goals exact ⟨⟨_, rfl, HA.out⟩, HB.out⟩
/-- append of a list of events to one of the call's own. -/
theorem app_evs {lo : Nat} {Q : Nat → Prop} {W : World} {u x : Value} {xs ys : List (List UInt8)} (h : Gr evE lo Q W u xs) (hQ : ∀ B, Q B → B < lo) (hx : Sl evE Q W x ys) (hk : xs.length + ys.length ≤ 100000) (hB : lo ≤ W.heap.size) :
    ∃ u' w', (∀ ty, (Builtin.append_ #[37, 37] ty #[u, x]).run Tryz.prog W = .ok u' w') ∧ Gr evE lo Q w' u' (xs ++ ys) ∧ Below lo W w' := by
  obtain ⟨i0, hi, hz0, hz1, hz2⟩ := info_parts info26_
  obtain ⟨a, c, rfl, h1, h2, h3⟩ := hx
  cases a with
  | none =>
    have hys : ys = [] := by
      cases ys with
      | nil => rfl
      | cons y ys => obtain ⟨B, o, v, ha, _⟩ := h3.ev 0 y rfl; cases ha
    subst hys
    refine ⟨u, W, fun ty => ?_, by rw [List.append_nil]; exact h, Below.refl _ _⟩
    obtain ⟨cells, ⟨_, ⟨rfl, h0⟩ | ⟨g, cap, cur, rfl, _, _, hle, _⟩⟩, _⟩ := h
    · simp [Builtin.append_, run_underlying Tryz.underlying37, sizeOf, typeInfo, hi, Builtin.lenOf, Builtin.firstCells]
    · simp [Builtin.append_, run_underlying Tryz.underlying37, sizeOf, typeInfo, hi, Builtin.lenOf, Builtin.firstCells, hle, storeCells]
  | some a =>
    have each : ∀ i, i < ys.length → ∃ v : Value, W.cell? (a.add i) = some v ∧ ∀ y, ys[i]? = some y → HB Q W v y := fun i hl => by
      obtain ⟨B, o, v, ha, _, hc, hv⟩ := h3.ev i _ (List.getElem?_eq_getElem hl)
      cases ha
      exact ⟨v, by rw [add_plain]; exact hc, fun y hy => by rw [List.getElem?_eq_getElem hl] at hy; cases hy; exact hv⟩
    have inh : Inhabited Value := ⟨undef⟩
    obtain ⟨F, hF⟩ := Go.Deep.choose_lt each
    obtain ⟨news, hnews⟩ : ∃ news : List Value, news = (List.range ys.length).map F := ⟨_, rfl⟩
    have hnl : news.length = ys.length := by rw [hnews]; simp
    have hget : ∀ j, j < ys.length → news[j]? = some (F j) := fun j hj => by rw [hnews, List.getElem?_map, List.getElem?_range hj]; rfl
    have hone : ∀ z ∈ news, z.oneCell' = true := fun z hz => by
      rw [hnews] at hz
      obtain ⟨j, hj, rfl⟩ := List.mem_map.1 hz
      have hj := List.mem_range.1 hj
      exact ((hF j hj).2 _ (List.getElem?_eq_getElem hj)).one
    obtain ⟨cells, hown, hc⟩ := h
    have hcl : cells.length = xs.length := by have := hown.1; simpa [evE] using this
    have key : ∀ ty, ∃ v' w', (Builtin.append_ #[37, 37] ty #[u, .slice (some a) ys.length c]).run Tryz.prog W = .ok v' w' ∧ w'.ownsRow lo 26 1 v' (xs.length + ys.length) (cells ++ news) ∧ W.grownBy w' u.ownBlock ∧ _ := fun ty =>
      run_append_own (P := Tryz.prog) (w := W) lo 37 ty 26 i0 _ 1 24 Tryz.underlying37 hi hz0 hz1 hz2 rfl (by decide) u xs.length cells hown a ys.length c news (by rw [hnl, Nat.mul_one]) (fun j z hj => by
        have hlt : j < ys.length := by have := (List.getElem?_eq_some_iff.1 hj).1; omega
        rw [hget j hlt] at hj
        cases hj
        exact (hF j hlt).1) hone (by unfold maxLen; omega) (by omega) hB
    obtain ⟨u', w', hr, hown', hgrow, _⟩ := key 37
    refine ⟨u', w', fun ty => hr, ?_, (Below.refl _ W).grown hgrow hB (fun k hk2 => (World.ownsRow.lt hown k hk2).1)⟩
    have hlu := World.ownsRow.lt hown
    have hlu' := World.ownsRow.lt hown'
    have hold : ∀ {v : Value} {y : List UInt8}, HB Q W v y → HB (fun B => Q B ∧ u'.ownBlock ≠ some B) w' v y := fun h => h.keep fun B hB hl => ⟨hgrow.block B hl (fun e => by have := hlu B e.symm; have := hQ B hB; omega), hB, fun e => by have := hlu' B e; have := hQ B hB; omega⟩
    refine ⟨cells ++ news, by rw [List.length_append]; exact hown', fun i y hy => ?_⟩
    by_cases hlt : i < xs.length
    · rw [List.getElem?_append_left hlt] at hy
      obtain ⟨cs, e0, v, rfl, hq⟩ := hc i y hy
      refine ⟨[v], fun r z hz => ?_, v, rfl, hold (hq.all fun B hB => hB.1)⟩
      have hr : r < 1 := (List.getElem?_eq_some_iff.1 hz).1
      have hEK : evE.K = 1 := rfl
      rw [List.getElem?_append_left (by rw [hEK]; omega)]
      exact e0 r z hz
    · rw [List.getElem?_append_right (by omega)] at hy
      have hj : i - xs.length < ys.length := (List.getElem?_eq_some_iff.1 hy).1
      refine ⟨[F (i - xs.length)], fun r z hz => ?_, _, rfl, hold ((hF _ hj).2 y hy)⟩
      have hr : r < 1 := (List.getElem?_eq_some_iff.1 hz).1
      obtain rfl : r = 0 := by omega
      cases hz
      have hEK : evE.K = 1 := rfl
      rw [hEK, Nat.mul_one, Nat.add_zero, List.getElem?_append_right (by omega), hcl]
      exact hget _ hj
set_option maxHeartbeats 4000000 in
set_option maxRecDepth 100000 in
/-- Concat of two lists of events. -/
theorem concatE_calls (P : Nat → Prop) (b c : Nat) (v0 v1 : Value) (l0 l1 : List (List UInt8)) (w : World) (c0 : w.cell? ⟨b, 0, none⟩ = some v0) (c1 : w.cell? ⟨b, 0 + 1, none⟩ = some v1) (h0 : Sl evE P w v0 l0) (h1 : Sl evE P w v1 l1) (hn : l0.length + l1.length ≤ 100000) :
    Calls Tryz.prog 92 #[.slice (some ⟨b, 0, none⟩) 2 c] w fun e w' => (∃ v, e = .returned v ∧ Gr evE w.heap.size (fun B => P B ∧ B < w.heap.size) w' v (l0 ++ l1)) ∧ Below w.heap.size w w' := by
  obtain ⟨p0, k0, rfl, _⟩ := h0.shape
  obtain ⟨p1, k1, rfl, _⟩ := h1.shape
  have H0 : Hid (Sl evE (fun B => P B ∧ B < w.heap.size) w (.slice p0 l0.length k0) l0) := h0.keep fun B hB hl => ⟨rfl, hB, hl⟩
  have H1 : Hid (Sl evE (fun B => P B ∧ B < w.heap.size) w (.slice p1 l1.length k1) l1) := h1.keep fun B hB hl => ⟨rfl, hB, hl⟩
  have HN : Hid (l0.length + l1.length ≤ 100000) := hn
  have GC : Hid (Calls Tryz.prog 108 #[.slice none 0 0, .int .i64 (((l0.length + l1.length : Nat)) : Int)] w _) := growE_calls (l0.length + l1.length) hn w
  have C0 : Hid (w.cell? ⟨b, 0, none⟩ = some (.slice p0 l0.length k0)) := c0
  have C1 : Hid (w.cell? ⟨b, 0 + 1, none⟩ = some (.slice p1 l1.length k1)) := c1
  have n0 : (0 : Int) ≤ (l0.length : Int) := by omega
  have n1 : (0 : Int) ≤ (l1.length : Int) := by omega
  have q0 : (l0.length : Int) ≤ 100000 := by omega
  have q1 : (l0.length : Int) + (l1.length : Int) ≤ 100000 := by omega
  clear h0 h1 hn
  go_enter Tryz.func92, Tryz.ntmps92
  go_wp2_with fail
  go_loopw [3, 11] (fun s i wr => wr = w ∧ ((i = .int .i64 0 ∧ s = .int .i64 0) ∨ (i = .int .i64 1 ∧ s = .int .i64 (l0.length : Int)) ∨ (i = .int .i64 2 ∧ s = .int .i64 ((l0.length : Int) + (l1.length : Int))))) (fun _ i _ => 2 - (intOf i).toNat)
  case atStart => exact ⟨rfl, .inl ⟨rfl, rfl⟩⟩
  case round =>
    obtain ⟨hwr, hrel⟩ := hrel
    have hwr := hwr.symm
    subst hwr
    obtain ⟨rfl, rfl⟩ | ⟨rfl, rfl⟩ | ⟨rfl, rfl⟩ := hrel
    · have hw0 : wrap64 (l0.length : Int) = (l0.length : Int) := by unfold wrap64; omega
      have hd0 : decide ((l0.length : Int) < 0) = false := decide_eq_false (by omega)
      go_wp2_with fail
      exact ⟨⟨by trivial, .inr (.inl ⟨rfl, rfl⟩)⟩, by decide⟩
    · have hw0 : wrap64 ((l0.length : Int) + (l1.length : Int)) = (l0.length : Int) + (l1.length : Int) := by unfold wrap64; omega
      have hd0 : decide ((l0.length : Int) + (l1.length : Int) < 0) = false := decide_eq_false (by omega)
      go_wp2_with fail
      exact ⟨⟨by trivial, .inr (.inr ⟨rfl, rfl⟩)⟩, by decide⟩
    · clear n0 n1 q0 q1
      go_wp2_with fail
      refine GC.out.mono ?_
      rintro e w1 ⟨⟨v1, rfl, hg1⟩, hb1⟩
      have HG1 : Hid (Gr evE w.heap.size (fun B => P B ∧ B < w.heap.size) w1 v1 []) := hg1 _
      have HB1 : Hid (Below w.heap.size w w1) := hb1
      obtain ⟨pv, cv, rfl, _⟩ := HG1.out.shape
      clear hg1 hb1 GC c0 c1
      go_wp2_with fail
      go_loopw [6, 27] (fun v i wx => Hid (Below w.heap.size w wx) ∧ ((i = .int .i64 0 ∧ Hid (Gr evE w.heap.size (fun B => P B ∧ B < w.heap.size) wx v [])) ∨ (i = .int .i64 1 ∧ Hid (Gr evE w.heap.size (fun B => P B ∧ B < w.heap.size) wx v l0)) ∨ (i = .int .i64 2 ∧ Hid (Gr evE w.heap.size (fun B => P B ∧ B < w.heap.size) wx v (l0 ++ l1))))) (fun _ i _ => 2 - (intOf i).toNat)
      case atStart => exact ⟨HB1, .inl ⟨rfl, HG1⟩⟩
      case round =>
        obtain ⟨HB2, ⟨rfl, HG⟩ | ⟨rfl, HG⟩ | ⟨rfl, HG⟩⟩ := hrel
        · have ec := (HB2.out.cell (World.block_lt_of_cell? _ _ C0.out)).trans C0.out
          obtain ⟨u', w3, hr, hg3, hb3⟩ := app_evs HG.out (fun B h => h.2) (H0.out.below HB2.out) (by have := HN.out; simp; omega) HB2.out.size
          rw [List.nil_append] at hg3
          obtain ⟨pu, cu, rfl, _⟩ := HG.out.shape
          have HG3 : Hid (Gr evE _ _ w3 u' _) := hg3
          have HB3 : Hid (Below w.heap.size w w3) := HB2.out.trans hb3
          have HR : Hid (∀ ty, _) := hr
          clear hg3 hb3 hr
          go_wp2_with (at_builtin; go_must (refine Lib.wpList_append_run _ rfl _ _ 37 37 rfl _ _ rfl rfl _ _ (HR.out _) ?_))
          exact ⟨⟨HB3, .inr (.inl ⟨rfl, HG3⟩)⟩, by decide⟩
        · have ec := (HB2.out.cell (World.block_lt_of_cell? _ _ C1.out)).trans C1.out
          obtain ⟨u', w3, hr, hg3, hb3⟩ := app_evs HG.out (fun B h => h.2) (H1.out.below HB2.out) (by have := HN.out; exact this) HB2.out.size
          skip
          obtain ⟨pu, cu, rfl, _⟩ := HG.out.shape
          have HG3 : Hid (Gr evE _ _ w3 u' _) := hg3
          have HB3 : Hid (Below w.heap.size w w3) := HB2.out.trans hb3
          have HR : Hid (∀ ty, _) := hr
          clear hg3 hb3 hr
          go_wp2_with (at_builtin; go_must (refine Lib.wpList_append_run _ rfl _ _ 37 37 rfl _ _ rfl rfl _ _ (HR.out _) ?_))
          exact ⟨⟨HB3, .inr (.inr ⟨rfl, HG3⟩)⟩, by decide⟩
        · go_wp2_with fail
          go_ret
          exact ⟨⟨_, rfl, HG.out⟩, HB2.out⟩
end Go.Proofs.YtkaaddahegkmgaaGreat
namespace Go.Proofs.YtkaaddahegkmgaaGreat
open Go.ChangeShapes Go.WideShapes Go.ChangeAt Go.RowKit
theorem Sl.cut {P : Nat → Prop} {w : World} {p : Option Addr} {c k : Nat} {l : List (List UInt8)} (h : Sl evE P w (.slice p l.length c) l) (hk : k ≤ l.length) : Sl evE P w (.slice p k c) (l.take k) := by
  obtain ⟨a, c', he, h1, h2, h3⟩ := h
  cases he
  have hl : (l.take k).length = k := by rw [List.length_take]; omega
  refine ⟨p, c, by rw [hl], by omega, h2, fun i x hx => ?_⟩
  have hlt : i < k := by have := (List.getElem?_eq_some_iff.1 hx).1; omega
  rw [List.getElem?_take_of_lt hlt] at hx
  exact h3 i x hx
/-- What ahead answers. -/
def AhP (brs : List Bn) (k : ByteArray) (w : World) (e : Ending) (w' : World) : Prop :=
  ((∃ l v', e = .returned (.tuple #[v', .bool true]) ∧ Sl evE (fun B => w.heap.size ≤ B) w' v' l ∧ l.length ≤ 100000 ∧ (∀ i x, Fst (fun x : Bn => x.key) brs k i x → x.ev.length ≤ l.length) ∧ ∀ e ∈ l, e.length ≤ 70368744177664) ∨ (∃ p n c, n ≤ 100000 ∧ e = .returned (.tuple #[.slice p n c, .bool false]))) ∧ Below w.heap.size w w'
theorem fst_one {α : Type} {key : α → ByteArray} {xs : List α} {k : ByteArray} {i j : Nat} {x y : α} (h : Fst key xs k i x) (g : Fst key xs k j y) : x = y := by
  rcases Nat.lt_trichotomy i j with hij | hij | hij
  · exact absurd h.2.1 (g.2.2 i x hij h.1)
  · subst hij
    have := h.1.symm.trans g.1
    injection this
  · exact absurd g.2.1 (h.2.2 j y hij g.1)
theorem fst_mem {α : Type} {key : α → ByteArray} {xs : List α} {k : ByteArray} {i : Nat} {x : α} (h : Fst key xs k i x) : x ∈ xs := List.mem_of_getElem? h.1
theorem z26 (w : World) : (Go.sizeOf 26).run Tryz.prog w = .ok 1 w := by kernel_rfl
theorem elem40 : Tryz.prog.elem 37 = 26 := by simp [Program.elem, Tryz.underlying37]
theorem addr0 (a : Addr) : a.add 0 = a := by
  obtain ⟨b, o, s⟩ := a
  unfold Addr.add
  split <;> simp_all
theorem sl_head40 (p : Option Addr) (L c n : Nat) (hn : n ≤ L) (hc : L ≤ c) (w : World) : (Instr.slice 37 (.slice p L c) none (some (.int .i64 (n : Int))) none).run Tryz.prog w = .ok (.slice p n c) w := by
  rw [run_slice_h w 37 p L c (by rw [elem40]; exact Tryz.underlying37) .i64 _ (by omega) (by omega), elem40, z26]
  cases p <;> simp [Result.andThen, sliced, addr0]
set_option maxHeartbeats 8000000 in
set_option maxRecDepth 100000 in
theorem ahead_calls (v : Value) (r : Db) (t : Wt) (ep : Option Addr) (en ec : Nat) (w : World) (hv : IsR (fun _ => True) w v r) (hs : SmD r) (hk : 0 ≤ t.kp) :
    Calls Tryz.prog 91 #[v, .agg #[.string t.br, .string t.fk, .int .i64 t.kp, .int .i64 t.ta, .slice ep en ec]] w (AhP r.brs t.br w) := by
  obtain ⟨br, fk, kp, ta, ev⟩ := t
  dsimp only at hk ⊢
  have HV : Hid (IsR (fun _ => True) w v r) := hv
  have HS : Hid (SmD r) := hs
  obtain ⟨pu, cu, pb, cb, rfl, hu, hb⟩ := hv.shape
  have HU : Hid (Sl brE (fun _ => True) w (.slice pb r.brs.length cb) r.brs) := hb
  clear hu hb hs hv
  go_enter Tryz.func91, Tryz.ntmps91
  go_wp2_with fail
  have HA : Hid (Below w.heap.size w ((w.alloc (.cells #[.slice pu r.rows.length cu, .slice pb r.brs.length cb] 25)).alloc (.cells #[.string br, .string fk, .int .i64 kp, .int .i64 ta, .slice ep en ec] 44))) := bel2 (bel1 _ _) (bel1 _ _)
  have HO := old2 w (.cells #[.slice pu r.rows.length cu, .slice pb r.brs.length cb] 25) (.cells #[.string br, .string fk, .int .i64 kp, .int .i64 ta, .slice ep en ec] 44)
  have HO2 := new2 w (.cells #[.slice pu r.rows.length cu, .slice pb r.brs.length cb] 25) (.cells #[.string br, .string fk, .int .i64 kp, .int .i64 ta, .slice ep en ec] 44)
  generalize (w.alloc (.cells #[.slice pu r.rows.length cu, .slice pb r.brs.length cb] 25)).alloc (.cells #[.string br, .string fk, .int .i64 kp, .int .i64 ta, .slice ep en ec] 44) = w1 at HA HO HO2 ⊢
  refine (Events_calls _ r br w1 (HV.out.below HA.out) HS.out).mono ?_
  rintro e w2 he
  have hb2 := he.2
  have r1 := row_below hb2 HO
  have r2 := row_below hb2 HO2
  have a0 := row_cell r1 (j := 0) rfl
  have a1 := row_cell r1 (j := 1) rfl
  have c0 := row_cell r2 (j := 0) rfl
  have c1 := row_cell r2 (j := 1) rfl
  have c2 := row_cell r2 (j := 2) rfl
  have c3 := row_cell r2 (j := 3) rfl
  have HB2 : Hid (Below w.heap.size w w2) := bel2 HA.out hb2
  have HE2 : Hid (∀ W, Below w2.heap.size w2 W → Calls Tryz.prog 107 _ W _) := fun W hW => Events_calls _ r fk W (HV.out.below (bel2 HB2.out hW)) HS.out
  have HF : Hid (fk.size = 0 ∨ fk.size ≠ 0) := by rcases Nat.eq_zero_or_pos fk.size with h | h; exact .inl h; exact .inr (by omega)
  have HSZ : Hid (w.heap.size ≤ w1.heap.size) := HA.out.size
  have own : ∃ ob l po co, e = .returned (.tuple #[.slice po l.length co, .bool ob]) ∧ Sl evE (fun B => w.heap.size ≤ B) w2 (.slice po l.length co) l ∧ l.length ≤ 100000 ∧ (∀ i x, Fst (fun x : Bn => x.key) r.brs br i x → x.ev.length ≤ l.length) ∧ (ob = false → ∀ y ∈ r.brs, y.key ≠ br) ∧ ∀ e ∈ l, e.length ≤ 70368744177664 := by
    rcases he.1 with ⟨i, x, v', hx, rfl, hv'⟩ | ⟨hno, rfl⟩
    · obtain ⟨p', c', rfl, _⟩ := hv'.shape
      exact ⟨true, x.ev, _, _, rfl, hv'.all' fun B hB => Nat.le_trans HSZ.out hB, (HS.out.b1 x (fst_mem hx)).1, fun j y hy => by rw [fst_one hx hy]; exact Nat.le_refl _, (fun h => by cases h), (HS.out.b1 x (fst_mem hx)).2⟩
    · exact ⟨false, [], none, 0, rfl, Sl.nil _ _, Nat.zero_le _, fun j y hy => absurd hy.2.1 (hno y (fst_mem hy)), fun _ => hno, fun e he => by cases he⟩
  obtain ⟨ob, l, po, co, rfl, hl, hl1, hl2, hob, hl4⟩ := own
  have HL4 : Hid (∀ e ∈ l, e.length ≤ 70368744177664) := hl4
  have HL : Hid (Sl evE (fun B => w.heap.size ≤ B) w2 (.slice po l.length co) l) := hl
  have HL1 : Hid (l.length ≤ 100000) := hl1
  have HL2 : Hid (∀ i x, Fst (fun x : Bn => x.key) r.brs br i x → x.ev.length ≤ l.length) := hl2
  have HOB : Hid (ob = false → ∀ y ∈ r.brs, y.key ≠ br) := hob
  clear he hb2 r1 r2 HO HO2 hl hl1 hl2 hob hl4
  rcases HF.out with hf | hf
  · obtain rfl : fk = ⟨#[]⟩ := by
      cases fk with
      | mk d => simp only [ByteArray.size] at hf; rw [Array.eq_empty_of_size_eq_zero hf]
    clear hf
    go_upto_region 3 with fail
    go_quiet (fail)
    go_wp2_with fail
    refine bodyPost_ret (results_tmp2 Tryz.results91 _) rfl ⟨?_, HB2.out.trans ((belN _ _).mono HB2.out.size)⟩
    cases hq : ((l.length : Int) == ta) with
    | true => exact .inl ⟨l, _, by rw [← hq]; rfl, HL.out.below (belN _ _), HL1.out, HL2.out, HL4.out⟩
    | false => exact .inr ⟨_, _, _, HL1.out, by rw [← hq]; rfl⟩
  · have hse : fk.toList.isEmpty = false := by
      cases he : fk.toList with
      | nil => exact absurd (by rw [tl_nil he]; rfl) hf
      | cons _ _ => rfl
    go_wp2_with fail
    refine (HE2.out w2 (Below.refl _ w2)).mono ?_
    rintro e w3 he
    have hb3 := he.2
    have own : ∃ ob l po co, e = .returned (.tuple #[.slice po l.length co, .bool ob]) ∧ Sl evE (fun B => w.heap.size ≤ B) w3 (.slice po l.length co) l ∧ l.length ≤ 100000 ∧ l.length ≤ co ∧ ∀ e ∈ l, e.length ≤ 70368744177664 := by
      rcases he.1 with ⟨i, x, v', hx, rfl, hv'⟩ | ⟨hno, rfl⟩
      · obtain ⟨p', c', rfl, hc', _⟩ := hv'.shape
        exact ⟨true, x.ev, _, _, rfl, hv'.all' fun B hB => Nat.le_trans HB2.out.size hB, (HS.out.b1 x (fst_mem hx)).1, hc', (HS.out.b1 x (fst_mem hx)).2⟩
      · exact ⟨false, [], none, 0, rfl, Sl.nil _ _, Nat.zero_le _, Nat.le_refl _, fun e he => by cases he⟩
    obtain ⟨ob2, l2, p2, k2, rfl, hl, hl1, hl3, hl4⟩ := own
    have M4 : Hid (∀ e ∈ l2, e.length ≤ 70368744177664) := hl4
    have M : Hid (Sl evE (fun B => w.heap.size ≤ B) w3 (.slice p2 l2.length k2) l2) := hl
    have M1 : Hid (l2.length ≤ 100000) := hl1
    have M3 : Hid (l2.length ≤ k2) := hl3
    have HB3 : Hid (Below w.heap.size w w3) := bel2 HB2.out hb3
    have d2 := cell_below c2 hb3
    obtain ⟨kn, rfl⟩ : ∃ kn : Nat, kp = (kn : Int) := ⟨kp.toNat, by omega⟩
    clear he hb3 hl hl1 hl3 hl4 hk c0 c1 c2 c3 a0 a1
    cases ob with
    | true =>
      go_wp2_with fail
      refine bodyPost_ret (results_tmp2 Tryz.results91 _) rfl ⟨.inr ⟨none, 0, 0, Nat.zero_le _, rfl⟩, HB3.out⟩
    | false =>
      cases ob2 with
      | false =>
        go_wp2_with fail
        refine bodyPost_ret (results_tmp2 Tryz.results91 _) rfl ⟨.inr ⟨none, 0, 0, Nat.zero_le _, rfl⟩, HB3.out⟩
      | true =>
        by_cases hlt : l2.length < kn
        · have hlti : (l2.length : Int) < (kn : Int) := by omega
          go_wp2_with fail
          refine bodyPost_ret (results_tmp2 Tryz.results91 _) rfl ⟨.inr ⟨none, 0, 0, Nat.zero_le _, rfl⟩, HB3.out⟩
        · have hlti : ¬ (l2.length : Int) < (kn : Int) := by omega
          have hsl := sl_head40 p2 l2.length k2 kn (by omega) M3.out
          go_wp2_with (simp only)
          refine bodyPost_ret (results_tmp2 Tryz.results91 _) rfl ⟨.inl ⟨l2.take kn, _, rfl, M.out.cut (by omega), ?_, fun i x hx => absurd hx.2.1 (HOB.out (by trivial) x (fst_mem hx)), fun e he => M4.out e (List.mem_of_mem_take he)⟩, HB3.out⟩
          rw [List.length_take]
          have := M1.out
          omega
/-- What written answers. -/
def WrP (brs : List Bn) (t : Wt) (w : World) (e : Ending) (w' : World) : Prop :=
  ((∃ l v', e = .returned (.tuple #[v', .int .i64 0]) ∧ Sl evE (fun B => w.heap.size ≤ B) w' v' l ∧ l.length ≤ 100000 ∧ t.ev.length ≤ l.length ∧ (∀ i x, Fst (fun x : Bn => x.key) brs t.br i x → x.ev.length ≤ l.length) ∧ ∀ e ∈ l, e.length ≤ 70368744177664) ∨ (∃ c : Int, c ≠ 0 ∧ e = .returned (.tuple #[.slice none 0 0, .int .i64 c]))) ∧ Below w.heap.size w w'
set_option maxHeartbeats 8000000 in
set_option maxRecDepth 100000 in
theorem written_calls (v : Value) (r : Db) (t : Wt) (e : Value) (w : World) (hv : IsR (fun _ => True) w v r) (hs : SmD r) (hk : 0 ≤ t.kp) (he : Sl evE (fun _ => True) w e t.ev) (hn : t.ev.length ≤ 1000) (hl : ∀ x ∈ t.ev, x.length ≤ 70368744177664) :
    Calls Tryz.prog 65 #[v, .agg #[.string t.br, .string t.fk, .int .i64 t.kp, .int .i64 t.ta, e]] w (WrP r.brs t w) := by
  obtain ⟨br, fk, kp, ta, ev⟩ := t
  dsimp only at hk he hn hl ⊢
  obtain ⟨ep, ec, rfl, _⟩ := he.shape
  have HV : Hid (IsR (fun _ => True) w v r) := hv
  have HS : Hid (SmD r) := hs
  have HE : Hid (Sl evE (fun _ => True) w (.slice ep ev.length ec) ev) := he
  have HN : Hid (ev.length ≤ 1000) := hn
  have HL : Hid (∀ x ∈ ev, x.length ≤ 70368744177664) := hl
  obtain ⟨pu, cu, pb, cb, rfl, hu, hb⟩ := hv.shape
  clear hu hb hs hv he hl
  go_enter Tryz.func65, Tryz.ntmps65
  go_wp2_with fail
  have HA : Hid (Below w.heap.size w ((w.alloc (.cells #[.slice pu r.rows.length cu, .slice pb r.brs.length cb] 25)).alloc (.cells #[.string br, .string fk, .int .i64 kp, .int .i64 ta, .slice ep ev.length ec] 44))) := bel2 (bel1 _ _) (bel1 _ _)
  have HO2 := new2 w (.cells #[.slice pu r.rows.length cu, .slice pb r.brs.length cb] 25) (.cells #[.string br, .string fk, .int .i64 kp, .int .i64 ta, .slice ep ev.length ec] 44)
  generalize (w.alloc (.cells #[.slice pu r.rows.length cu, .slice pb r.brs.length cb] 25)).alloc (.cells #[.string br, .string fk, .int .i64 kp, .int .i64 ta, .slice ep ev.length ec] 44) = w1 at HA HO2 ⊢
  refine (ahead_calls _ r ⟨br, fk, kp, ta, ev⟩ ep ev.length ec w1 (HV.out.below HA.out) HS.out hk).mono ?_
  rintro e w2 ⟨⟨l, v2, rfl, hl, hl1, hl2, hl4⟩ | ⟨p, n, c, hn2, rfl⟩, hb2⟩
  · obtain ⟨p2, c2, rfl, _⟩ := hl.shape
    have HB2 : Hid (Below w.heap.size w w2) := bel2 HA.out hb2
    have L0 : Hid (Sl evE (fun B => w.heap.size ≤ B) w2 (.slice p2 l.length c2) l) := hl.all' fun B hB => Nat.le_trans HA.out.size hB
    have L1 : Hid (l.length ≤ 100000) := hl1
    have L2 : Hid (∀ i x, Fst (fun x : Bn => x.key) r.brs br i x → x.ev.length ≤ l.length) := hl2
    have L4 : Hid (∀ e ∈ l, e.length ≤ 70368744177664) := hl4
    have c4 := row_cell (row_below hb2 HO2) (j := 4) rfl
    clear hl hl1 hl2 hl4 hb2 HO2
    by_cases h120 : (120 : Int) < (l.length : Int) + (ev.length : Int)
    · have hw : wrap64 ((l.length : Int) + (ev.length : Int)) = (l.length : Int) + (ev.length : Int) := by have := L1.out; unfold wrap64; omega
      go_wp2_with fail
      refine bodyPost_ret (results_tmp2 Tryz.results65 _) rfl ⟨.inr ⟨1, by decide, rfl⟩, HB2.out⟩
    · have hw : wrap64 ((l.length : Int) + (ev.length : Int)) = (l.length : Int) + (ev.length : Int) := by have := L1.out; unfold wrap64; omega
      have CC : Hid (Calls Tryz.prog 93 _ w2 _) := cloneEvents_calls _ ev w2 (HE.out.below HB2.out) (by have := HN.out; omega) HL.out
      go_wp2_with fail
      refine CC.out.mono ?_
      rintro e w3 ⟨v3, rfl, hg3, hb3⟩
      obtain ⟨p3, c3, rfl, _⟩ := hg3.shape
      have S3 := hg3.sl (P := fun B => w.heap.size ≤ B) (fun B h => Nat.le_trans HB2.out.size (h.elim id id))
      have hb4 := bel1 w3 (.cells #[.slice p2 l.length c2, .slice p3 ev.length c3] 37)
      have QC : Hid (Calls Tryz.prog 92 #[.slice (some ⟨w3.heap.size, 0, none⟩) 2 2] (w3.alloc (.cells #[.slice p2 l.length c2, .slice p3 ev.length c3] 37)) _) :=
        concatE_calls (fun B => w.heap.size ≤ B) _ 2 _ _ l ev _ (cell_new w3 _ _ 0) (cell_new w3 _ _ 1) ((L0.out.below hb3).below hb4) (S3.below hb4) (by have := L1.out; have := HN.out; omega)
      have HB3 : Hid (Below w.heap.size w w3) := bel2 HB2.out hb3
      clear hg3 hb3 S3 hb4 CC
      go_wp2_with fail
      refine QC.out.mono ?_
      rintro e w5 ⟨⟨v5, rfl, hg5⟩, hb5⟩
      have S5 := hg5.sl (P := fun B => w.heap.size ≤ B) (fun B h => h.elim (fun h => h.1) (fun h => by have := HB3.out.size; simp at h; omega))
      obtain ⟨p5, c5, hv5, _⟩ := hg5.shape
      rw [List.length_append] at hv5
      subst hv5
      have HS5 : Hid (Sl evE (fun B => w.heap.size ≤ B) w5 _ (l ++ ev)) := S5
      have HB5 : Hid (Below w.heap.size w w5) := bel2 (bel2 HB3.out (bel1 _ _)) hb5
      clear hg5 hb5 S5
      go_wp2_with fail
      refine bodyPost_ret (results_tmp2 Tryz.results65 _) rfl ⟨.inl ⟨l ++ ev, _, rfl, HS5.out, ?_, ?_, fun i x hx => ?_, fun e he => ?_⟩, HB5.out⟩
      · rw [List.length_append]; omega
      · rw [List.length_append]; exact Nat.le_add_left _ _
      · rw [List.length_append]; exact Nat.le_trans (L2.out i x hx) (Nat.le_add_right _ _)
      · rcases List.mem_append.1 he with h | h
        · exact L4.out e h
        · exact HL.out e h
  · have HB2 : Hid (Below w.heap.size w w2) := bel2 HA.out hb2
    clear hb2 HO2
    go_wp2_with fail
    refine bodyPost_ret (results_tmp2 Tryz.results65 _) rfl ⟨.inr ⟨11, by decide, rfl⟩, HB2.out⟩
end Go.Proofs.YtkaaddahegkmgaaGreat
namespace Go.Proofs.YtkaaddahegkmgaaGreat
open Go.ChangeShapes Go.WideShapes Go.ChangeAt Go.RowKit
theorem sameBytes (v1 v2 : Value) (l : List UInt8) (w : World) (h1 : Lib.HoldsBytes w v1 l) (h2 : Lib.HoldsBytes w v2 l) : Calls Tryz.prog 8 #[v1, v2] w fun e w' => e = .returned (.bool true) ∧ Below w.heap.size w w' :=
  (equal_calls v1 v2 l l w h1 h2).mono (fun e w' h => by
    obtain ⟨rfl, rfl⟩ := h
    exact ⟨by rw [beq_self_eq_true], Below.refl _ _⟩)
set_option maxHeartbeats 4000000 in
set_option maxRecDepth 100000 in
theorem equalev_calls (P Q : Nat → Prop) (v1 v2 : Value) (xs : List (List UInt8)) (w : World) (h1 : Sl evE P w v1 xs) (h2 : Sl evE Q w v2 xs) :
    Calls Tryz.prog 61 #[v1, v2, .func (.func 8) #[] #[]] w fun e w' => e = .returned (.bool true) ∧ Below w.heap.size w w' := by
  obtain ⟨a1, c1, rfl, n1, n2, l1⟩ := h1
  obtain ⟨a2, c2, rfl, _, _, l2⟩ := h2
  have H1 : Hid (Ls evE P w a1 xs) := l1
  have H2 : Hid (Ls evE Q w a2 xs) := l2
  have HN : Hid (xs.length ≤ 9223372036854775807) := Nat.le_trans n1 n2
  clear l1 l2 n1 n2
  go_enter Tryz.func61, Tryz.ntmps61
  go_wp2_with fail
  go_loopw [7, 8, 9, 17] (fun _ _ _ i wr => ∃ j : Nat, j ≤ xs.length ∧ i = .int .i64 (j : Int) ∧ Hid (Below w.heap.size w wr)) (fun _ _ _ i _ => xs.length - (intOf i).toNat)
  case atStart => exact ⟨0, Nat.zero_le _, rfl, Below.refl _ _⟩
  case round =>
    obtain ⟨j, hj, rfl, HB⟩ := hrel
    by_cases hlt : j < xs.length
    · have hgj := List.getElem?_eq_getElem hlt
      obtain ⟨B, o, vb, rfl, _, k0, hv⟩ := (H1.out.below HB.out).ev j _ hgj
      obtain ⟨B2, o2, vb2, rfl, _, m0, hv2⟩ := (H2.out.below HB.out).ev j _ hgj
      have hjl : (j : Int) < (xs.length : Int) := by omega
      have HW : Hid (wrap64 ((j : Int) + 1) = ((j + 1 : Nat) : Int)) := wr1 hlt HN.out
      generalize xs[j] = x at hv hv2 k0 m0
      obtain ⟨pv, cv, rfl, _⟩ := hv.shape
      obtain ⟨pv2, cv2, rfl, _⟩ := hv2.shape
      have V1 : Hid (∀ W, Below wr.heap.size wr W → Calls Tryz.prog 8 #[.slice pv x.length cv, .slice pv2 x.length cv2] W fun e w' => e = .returned (.bool true) ∧ Below W.heap.size W w') := fun W hW => sameBytes _ _ x W (hv.below hW).bytes (hv2.below hW).bytes
      clear hgj hv hv2
      go_wp2_with fail
      refine (V1.out wr (Below.refl _ _)).mono ?_
      rintro e w3 ⟨rfl, hb3⟩
      have HB3 : Hid (Below w.heap.size w w3) := bel2 HB.out hb3
      clear hb3
      go_wp2_with fail
      exact ⟨⟨j + 1, hlt, by first | rfl | rw [HW.out], HB3⟩, meas hlt (by first | rfl | exact HW.out)⟩
    · obtain rfl : j = xs.length := by omega
      go_wp2_with fail
      go_ret
      exact ⟨rfl, HB.out⟩
theorem box2 (w : World) (a b : Obj) : Below w.heap.size w ((w.alloc a).alloc b) := bel2 (bel1 _ _) (bel1 _ _)
set_option maxHeartbeats 2000000 in
set_option maxRecDepth 100000 in
theorem sameRow_calls (P Q : Nat → Prop) (x : Rw) (p p2 : Option Addr) (c c2 : Nat) (w : World) (h1 : HB P w (.slice p x.row.length c) x.row) (h2 : HB Q w (.slice p2 x.row.length c2) x.row) :
    Calls Tryz.prog 33 #[.agg #[.string x.key, .int .i64 x.ver, .slice p x.row.length c], .agg #[.string x.key, .int .i64 x.ver, .slice p2 x.row.length c2]] w fun e w' => e = .returned (.bool true) ∧ Below w.heap.size w w' := by
  obtain ⟨key, ver, row⟩ := x
  dsimp only at h1 h2 ⊢
  have hb := box2 w (.cells #[.string key, .int .i64 ver, .slice p row.length c] 47) (.cells #[.string key, .int .i64 ver, .slice p2 row.length c2] 47)
  have SC : Hid (Calls Tryz.prog 8 _ _ _) := sameBytes _ _ row _ (h1.below hb).bytes (h2.below hb).bytes
  have HB1 : Hid (Below w.heap.size w _) := hb
  have hk : (key.toList == key.toList) = true := beq_self_eq_true _
  clear h1 h2 hb
  go_enter Tryz.func33, Tryz.ntmps33
  go_wp2_with fail
  refine SC.out.mono ?_
  rintro e w3 ⟨rfl, hb3⟩
  go_wp2_with fail
  go_ret
  exact ⟨rfl, bel2 HB1.out hb3⟩
set_option maxHeartbeats 2000000 in
set_option maxRecDepth 100000 in
theorem sameBr_calls (P Q : Nat → Prop) (x : Bn) (p p2 : Option Addr) (c c2 : Nat) (w : World) (h1 : Sl evE P w (.slice p x.ev.length c) x.ev) (h2 : Sl evE Q w (.slice p2 x.ev.length c2) x.ev) :
    Calls Tryz.prog 35 #[.agg #[.string x.key, .slice p x.ev.length c], .agg #[.string x.key, .slice p2 x.ev.length c2]] w fun e w' => e = .returned (.bool true) ∧ Below w.heap.size w w' := by
  obtain ⟨key, ev⟩ := x
  dsimp only at h1 h2 ⊢
  have hb := box2 w (.cells #[.string key, .slice p ev.length c] 39) (.cells #[.string key, .slice p2 ev.length c2] 39)
  have SC : Hid (Calls Tryz.prog 61 _ _ _) := equalev_calls P Q _ _ ev _ (h1.below hb) (h2.below hb)
  have HB1 : Hid (Below w.heap.size w _) := hb
  have hk : (key.toList == key.toList) = true := beq_self_eq_true _
  clear h1 h2 hb
  go_enter Tryz.func35, Tryz.ntmps35
  go_wp2_with fail
  refine SC.out.mono ?_
  rintro e w3 ⟨rfl, hb3⟩
  go_wp2_with fail
  go_ret
  exact ⟨rfl, bel2 HB1.out hb3⟩
set_option maxHeartbeats 4000000 in
set_option maxRecDepth 100000 in
theorem equalrow_calls (P Q : Nat → Prop) (v1 v2 : Value) (xs : List Rw) (w : World) (h1 : Sl rowE P w v1 xs) (h2 : Sl rowE Q w v2 xs) :
    Calls Tryz.prog 32 #[v1, v2, .func (.func 33) #[] #[]] w fun e w' => e = .returned (.bool true) ∧ Below w.heap.size w w' := by
  obtain ⟨a1, c1, rfl, n1, n2, l1⟩ := h1
  obtain ⟨a2, c2, rfl, _, _, l2⟩ := h2
  have H1 : Hid (Ls rowE P w a1 xs) := l1
  have H2 : Hid (Ls rowE Q w a2 xs) := l2
  have HN : Hid (xs.length ≤ 9223372036854775807) := Nat.le_trans n1 n2
  clear l1 l2 n1 n2
  go_enter Tryz.func32, Tryz.ntmps32
  go_wp2_with fail
  go_loopw [7, 8, 9, 17] (fun _ _ _ i wr => ∃ j : Nat, j ≤ xs.length ∧ i = .int .i64 (j : Int) ∧ Hid (Below w.heap.size w wr)) (fun _ _ _ i _ => xs.length - (intOf i).toNat)
  case atStart => exact ⟨0, Nat.zero_le _, rfl, Below.refl _ _⟩
  case round =>
    obtain ⟨j, hj, rfl, HB⟩ := hrel
    by_cases hlt : j < xs.length
    · have hgj := List.getElem?_eq_getElem hlt
      obtain ⟨B, o, vb, rfl, _, k0, k1, k2, hv⟩ := (H1.out.below HB.out).row j _ hgj
      obtain ⟨B2, o2, vb2, rfl, _, m0, m1, m2, hv2⟩ := (H2.out.below HB.out).row j _ hgj
      have hjl : (j : Int) < (xs.length : Int) := by omega
      have HW : Hid (wrap64 ((j : Int) + 1) = ((j + 1 : Nat) : Int)) := wr1 hlt HN.out
      generalize xs[j] = x at hv hv2 k0 k1 k2 m0 m1 m2
      obtain ⟨pv, cv, rfl, _⟩ := hv.shape
      obtain ⟨pv2, cv2, rfl, _⟩ := hv2.shape
      have V1 : Hid (∀ W, Below wr.heap.size wr W → Calls Tryz.prog 33 #[.agg #[.string x.key, .int .i64 x.ver, .slice pv x.row.length cv], .agg #[.string x.key, .int .i64 x.ver, .slice pv2 x.row.length cv2]] W fun e w' => e = .returned (.bool true) ∧ Below W.heap.size W w') := fun W hW => sameRow_calls P Q x _ _ _ _ W (hv.below hW) (hv2.below hW)
      clear hgj hv hv2
      have g0 := cell_below m0 (bel1 wr (.cells #[.string x.key, .int .i64 x.ver, .slice pv x.row.length cv] 47))
      have g1 := cell_below m1 (bel1 wr (.cells #[.string x.key, .int .i64 x.ver, .slice pv x.row.length cv] 47))
      have g2 := cell_below m2 (bel1 wr (.cells #[.string x.key, .int .i64 x.ver, .slice pv x.row.length cv] 47))
      go_wp2_with fail
      refine (V1.out _ (box2 wr _ _)).mono ?_
      rintro e w3 ⟨rfl, hb3⟩
      have HB3 : Hid (Below w.heap.size w w3) := bel2 HB.out (bel2 (box2 wr _ _) hb3)
      clear hb3
      go_wp2_with fail
      exact ⟨⟨j + 1, hlt, by first | rfl | rw [HW.out], HB3⟩, meas hlt (by first | rfl | exact HW.out)⟩
    · obtain rfl : j = xs.length := by omega
      go_wp2_with fail
      go_ret
      exact ⟨rfl, HB.out⟩
set_option maxHeartbeats 4000000 in
set_option maxRecDepth 100000 in
theorem equalbr_calls (P Q : Nat → Prop) (v1 v2 : Value) (xs : List Bn) (w : World) (h1 : Sl brE P w v1 xs) (h2 : Sl brE Q w v2 xs) :
    Calls Tryz.prog 34 #[v1, v2, .func (.func 35) #[] #[]] w fun e w' => e = .returned (.bool true) ∧ Below w.heap.size w w' := by
  obtain ⟨a1, c1, rfl, n1, n2, l1⟩ := h1
  obtain ⟨a2, c2, rfl, _, _, l2⟩ := h2
  have H1 : Hid (Ls brE P w a1 xs) := l1
  have H2 : Hid (Ls brE Q w a2 xs) := l2
  have HN : Hid (xs.length ≤ 9223372036854775807) := Nat.le_trans n1 n2
  clear l1 l2 n1 n2
  go_enter Tryz.func34, Tryz.ntmps34
  go_wp2_with fail
  go_loopw [7, 8, 9, 17] (fun _ _ _ i wr => ∃ j : Nat, j ≤ xs.length ∧ i = .int .i64 (j : Int) ∧ Hid (Below w.heap.size w wr)) (fun _ _ _ i _ => xs.length - (intOf i).toNat)
  case atStart => exact ⟨0, Nat.zero_le _, rfl, Below.refl _ _⟩
  case round =>
    obtain ⟨j, hj, rfl, HB⟩ := hrel
    by_cases hlt : j < xs.length
    · have hgj := List.getElem?_eq_getElem hlt
      obtain ⟨B, o, vb, rfl, _, k0, k1, hv⟩ := (H1.out.below HB.out).br j _ hgj
      obtain ⟨B2, o2, vb2, rfl, _, m0, m1, hv2⟩ := (H2.out.below HB.out).br j _ hgj
      have hjl : (j : Int) < (xs.length : Int) := by omega
      have HW : Hid (wrap64 ((j : Int) + 1) = ((j + 1 : Nat) : Int)) := wr1 hlt HN.out
      generalize xs[j] = x at hv hv2 k0 k1 m0 m1
      obtain ⟨pv, cv, rfl, _⟩ := hv.shape
      obtain ⟨pv2, cv2, rfl, _⟩ := hv2.shape
      have V1 : Hid (∀ W, Below wr.heap.size wr W → Calls Tryz.prog 35 #[.agg #[.string x.key, .slice pv x.ev.length cv], .agg #[.string x.key, .slice pv2 x.ev.length cv2]] W fun e w' => e = .returned (.bool true) ∧ Below W.heap.size W w') := fun W hW => sameBr_calls P Q x _ _ _ _ W (hv.below hW) (hv2.below hW)
      clear hgj hv hv2
      have g0 := cell_below m0 (bel1 wr (.cells #[.string x.key, .slice pv x.ev.length cv] 39))
      have g1 := cell_below m1 (bel1 wr (.cells #[.string x.key, .slice pv x.ev.length cv] 39))
      go_wp2_with fail
      refine (V1.out _ (box2 wr _ _)).mono ?_
      rintro e w3 ⟨rfl, hb3⟩
      have HB3 : Hid (Below w.heap.size w w3) := bel2 HB.out (bel2 (box2 wr _ _) hb3)
      clear hb3
      go_wp2_with fail
      exact ⟨⟨j + 1, hlt, by first | rfl | rw [HW.out], HB3⟩, meas hlt (by first | rfl | exact HW.out)⟩
    · obtain rfl : j = xs.length := by omega
      go_wp2_with fail
      go_ret
      exact ⟨rfl, HB.out⟩
set_option maxHeartbeats 2000000 in
set_option maxRecDepth 100000 in
/-- Same of two that are the same. -/
theorem same_calls (P Q : Nat → Prop) (v1 v2 : Value) (r : Db) (w : World) (h1 : IsR P w v1 r) (h2 : IsR Q w v2 r) : Calls Tryz.prog 12 #[v1, v2] w fun e w' => e = .returned (.bool true) ∧ Below w.heap.size w w' := by
  obtain ⟨pu, cu, pb, cb, rfl, hu, hb⟩ := h1.shape
  obtain ⟨pu2, cu2, pb2, cb2, rfl, hu2, hb2⟩ := h2.shape
  have hx := box2 w (.cells #[.slice pu r.rows.length cu, .slice pb r.brs.length cb] 25) (.cells #[.slice pu2 r.rows.length cu2, .slice pb2 r.brs.length cb2] 25)
  have HO := old2 w (.cells #[.slice pu r.rows.length cu, .slice pb r.brs.length cb] 25) (.cells #[.slice pu2 r.rows.length cu2, .slice pb2 r.brs.length cb2] 25)
  have HO2 := new2 w (.cells #[.slice pu r.rows.length cu, .slice pb r.brs.length cb] 25) (.cells #[.slice pu2 r.rows.length cu2, .slice pb2 r.brs.length cb2] 25)
  have EB : Hid (∀ W, Below w.heap.size w W → Calls Tryz.prog 34 _ W _) := fun W hW => equalbr_calls P Q _ _ r.brs W (hb.below hW) (hb2.below hW)
  have ER : Hid (∀ W, Below w.heap.size w W → Calls Tryz.prog 32 _ W _) := fun W hW => equalrow_calls P Q _ _ r.rows W (hu.below hW) (hu2.below hW)
  clear hu hb hu2 hb2 h1 h2
  go_enter Tryz.func12, Tryz.ntmps12
  go_wp2_with fail
  generalize (w.alloc (.cells #[.slice pu r.rows.length cu, .slice pb r.brs.length cb] 25)).alloc (.cells #[.slice pu2 r.rows.length cu2, .slice pb2 r.brs.length cb2] 25) = w1 at hx HO HO2 ⊢
  refine (ER.out _ hx).mono ?_
  rintro e w2 ⟨rfl, hb2⟩
  have HB2 : Hid (Below w.heap.size w w2) := bel2 hx hb2
  have r1 := row_below hb2 HO
  have r2 := row_below hb2 HO2
  have a0 := row_cell r1 (j := 0) rfl
  have a1 := row_cell r1 (j := 1) rfl
  have c0 := row_cell r2 (j := 0) rfl
  have c1 := row_cell r2 (j := 1) rfl
  clear hx hb2 HO HO2 r1 r2
  go_wp2_with fail
  refine (EB.out _ HB2.out).mono ?_
  rintro e w3 ⟨rfl, hb3⟩
  go_wp2_with fail
  go_ret
  exact ⟨rfl, bel2 HB2.out hb3⟩
end Go.Proofs.YtkaaddahegkmgaaGreat
namespace Go.Proofs.YtkaaddahegkmgaaGreat
open Go.ChangeShapes Go.WideShapes Go.ChangeAt Go.RowKit Go.Deep
theorem spot_zero {W : World} {a : Addr} {v : Value} (h : W.cell? (a.add 0) = some v) : ∃ B o, a = ⟨B, o, none⟩ := by
  have hs := plain_addr h
  obtain ⟨B, o, sp⟩ := a
  cases sp with
  | none => exact ⟨B, o, rfl⟩
  | some k => simp [Addr.add] at hs
/-- A write in a list. -/
def wtE : El Wt where
  K := 5
  ty := 44
  I := fun P w cs t => ∃ e, cs = [.string t.br, .string t.fk, .int .i64 t.kp, .int .i64 t.ta, e] ∧ Sl evE P w e t.ev
  len := fun ⟨_, h, _⟩ => by rw [h]; rfl
  one := fun ⟨e, h, he⟩ z hz => by
    rw [h] at hz
    simp only [List.mem_cons, List.not_mem_nil, or_false] at hz
    rcases hz with rfl | rfl | rfl | rfl | rfl
    · rfl
    · rfl
    · rfl
    · rfl
    · exact he.one
  keep := fun ⟨e, h, he⟩ hk => ⟨e, h, he.keep hk⟩
/-- v is the batch b. -/
def BtS (P : Nat → Prop) (w : World) (v : Value) (b : Bt) : Prop := ∃ vr vw, v = .agg #[.string b.key, .int .i64 b.ex, vr, vw] ∧ HB P w vr b.row ∧ Sl wtE P w vw b.ws
theorem BtS.keep {P P' : Nat → Prop} {w w' : World} {v : Value} {b : Bt} (h : BtS P w v b) (hk : ∀ B, P B → B < w.heap.size → w'.heap[B]? = w.heap[B]? ∧ P' B) : BtS P' w' v b := by
  obtain ⟨vr, vw, hv, h1, h2⟩ := h
  exact ⟨vr, vw, hv, h1.keep hk, h2.keep hk⟩
theorem BtS.below {P : Nat → Prop} {w w' : World} {v : Value} {b : Bt} (h : BtS P w v b) (hb : Below w.heap.size w w') : BtS P w' v b := h.keep fun B hB hl => ⟨hb.block B hl, hB⟩
theorem lr_of {P : Nat → Prop} {w : World} {v : Value} {l : List (List UInt8)} (h : Sl evE P w v l) : LR w v l := by
  obtain ⟨a, c, hv, h1, h2, h3⟩ := h
  refine ⟨a, c, hv, Nat.le_trans h1 h2, fun i p hp => ?_⟩
  obtain ⟨B, o, x, ha, _, hc, hx⟩ := h3.ev i p hp
  exact ⟨B, o, x, ha, hc, hx.bytes⟩
theorem BtS.bis {P : Nat → Prop} {w : World} {v : Value} {b : Bt} (h : BtS P w v b) : BIs w v b := by
  obtain ⟨vr, vw, hv, hr, a, d, rfl, h1, h2, h3⟩ := h
  obtain ⟨p, c, rfl, _⟩ := hr.shape
  refine ⟨p, b.row.length, c, a, d, hv, hr.bytes, Nat.le_trans h1 h2, fun i t ht => ?_⟩
  obtain ⟨B, o, cs, ha, _, hc, e, rfl, he⟩ := h3 i t ht
  exact ⟨B, o, e, ha, ⟨hc 0 _ rfl, hc 1 _ rfl, hc 2 _ rfl, hc 3 _ rfl, hc 4 _ rfl⟩, lr_of he⟩
theorem Ls.wt {P : Nat → Prop} {w : World} {a : Option Addr} {xs : List Wt} (h : Ls wtE P w a xs) (i : Nat) (t) (ht : xs[i]? = some t) : ∃ B o e, a = some ⟨B, o, none⟩ ∧ P B ∧ w.cell? ⟨B, o + i * 5, none⟩ = some (.string t.br) ∧ w.cell? ⟨B, o + i * 5 + 1, none⟩ = some (.string t.fk) ∧ w.cell? ⟨B, o + i * 5 + 2, none⟩ = some (.int .i64 t.kp) ∧ w.cell? ⟨B, o + i * 5 + 3, none⟩ = some (.int .i64 t.ta) ∧ w.cell? ⟨B, o + i * 5 + 4, none⟩ = some e ∧ Sl evE P w e t.ev := by
  obtain ⟨B, o, cs, ha, hB, hc, e, rfl, he⟩ := h i t ht
  exact ⟨B, o, e, ha, hB (by decide), hc 0 _ rfl, hc 1 _ rfl, hc 2 _ rfl, hc 3 _ rfl, hc 4 _ rfl, he⟩
theorem cells37 : Tryz.prog.cellsOf 47 = 3 := by kernel_rfl
theorem cells56 : Tryz.prog.cellsOf 39 = 2 := by kernel_rfl
theorem cellsD25 : Tryz.prog.cellsOf 25 = 2 := by kernel_rfl
theorem list2 {α : Type} : ∀ {l : List α}, l.length = 2 → ∃ a b, l = [a, b]
  | [a, b], _ => ⟨a, b, rfl⟩
theorem list3 {α : Type} : ∀ {l : List α}, l.length = 3 → ∃ a b c, l = [a, b, c]
  | [a, b, c], _ => ⟨a, b, c, rfl⟩
section
variable {H : Type} {enc : TypeId × Value → H} {W : World} {base : Nat} {spare : Nat → Bool} {held : Bool}
theorem open_hb (fuel : Nat) (cs : List Value) (x : DataW H × List MemPlace) (h : DataW.trod enc Tryz.prog W base spare held fuel 26 cs = some x) : ∃ v l, cs = [v] ∧ HB (fun _ => True) W v l := by
  rcases open_ints Tryz.underlying26 Tryz.underlying5 (by kernel_rfl) h with ⟨hcs, _⟩ | ⟨y, len, c, zs, hcs, _, hl, hm, hz, hx, hcell, hwz⟩
  · exact ⟨_, [], hcs, HB.nil _ W⟩
  · have hzl : len ≤ zs.length := by
      have hz2 : zs.length = if spare y.block = true then c else len := by simpa using hz
      rw [hz2]
      split
      · exact hl
      · exact Nat.le_refl _
    have hlen : ((zs.take len).map fun z => UInt8.ofNat z.toNat).length = len := by rw [List.length_map, List.length_take]; omega
    unfold maxLen at hm
    refine ⟨_, (zs.take len).map fun z => UInt8.ofNat z.toNat, hcs, some y, c, by rw [hlen], by rw [hlen]; exact hl, by omega, ?_⟩
    intro i u hu
    rw [List.getElem?_map] at hu
    obtain ⟨z, hz1, rfl⟩ := Option.map_eq_some_iff.1 hu
    have hi : i < (zs.take len).length := (List.getElem?_eq_some_iff.1 hz1).1
    rw [List.length_take] at hi
    rw [List.getElem?_take_of_lt (by omega)] at hz1
    have hw := hwz z (List.mem_of_getElem? hz1)
    simp only [Lit.wf, IntKind.min, IntKind.max, IntKind.signed, IntKind.bits, Bool.and_eq_true, decide_eq_true_eq, Bool.false_eq_true, if_false] at hw
    have e : ((UInt8.ofNat z.toNat).toNat : Int) = z := by rw [UInt8.toNat_ofNat']; omega
    have hc := hcell i (by omega)
    rw [List.getD_eq_getElem?_getD, hz1] at hc
    obtain ⟨B, o, rfl⟩ := spot_zero (hcell 0 (by omega))
    refine ⟨B, o, rfl, trivial, ?_⟩
    rw [addp] at hc
    rw [hc, eb, e]
    rfl
/-- A list, where its items are opened. -/
theorem open_list {α : Type} {E : El α} {T : TypeId} (hK : 0 < E.K) (hu : Tryz.prog.underlying T = some (.slice E.ty)) (hcells : Tryz.prog.cellsOf E.ty = E.K)
    (el : ∀ (fuel : Nat) (cs : List Value) (x : DataW H × List MemPlace), DataW.trod enc Tryz.prog W base spare held fuel E.ty cs = some x → ∃ y, E.I (fun _ => True) W cs y)
    (fuel : Nat) (cs : List Value) (x : DataW H × List MemPlace) (h : DataW.trod enc Tryz.prog W base spare held fuel T cs = some x) : ∃ v ls, cs = [v] ∧ Sl E (fun _ => True) W v ls := by
  rcases DataW.trod_slice hu h with ⟨h4, _⟩ | ⟨a, len, cap, elems, rest, q, hq, h4, _, _, hl, hm, he, hx, _, _⟩
  · exact ⟨_, [], h4, Sl.nil _ _⟩
  · unfold maxLen at hm
    have each : ∀ i, i < len → ∃ y : α, ∃ B o, ∃ cs : List Value, a = ⟨B, o, none⟩ ∧ (∀ r z, cs[r]? = some z → W.cell? ⟨B, o + i * E.K + r, none⟩ = some z) ∧ E.I (fun _ => True) W cs y := by
      intro i hi
      have key := hx i hi
      rw [List.getElem?_eq_getElem (by omega)] at key
      obtain ⟨cs', k1, k2⟩ := Option.bind_eq_some_iff.1 key
      obtain ⟨y, hy⟩ := el q cs' _ k2
      rw [hcells] at k1
      obtain ⟨_, hl', hcell⟩ := World.cells?_some k1
      have hcl := E.len hy
      have hsp : ∃ B o, a = ⟨B, o, none⟩ := by
        have key0 := hx 0 (by omega)
        rw [List.getElem?_eq_getElem (by omega)] at key0
        obtain ⟨cs0, k10, k20⟩ := Option.bind_eq_some_iff.1 key0
        obtain ⟨y0, hy0⟩ := el q cs0 _ k20
        rw [hcells] at k10
        obtain ⟨_, _, hcell0⟩ := World.cells?_some k10
        have hcl0 := E.len hy0
        have p0 := hcell0 0 (by omega)
        rw [add_add, Nat.zero_mul, Nat.add_zero] at p0
        have hz0 : cs0[0]? = some cs0[0] := List.getElem?_eq_getElem (by omega)
        rw [hz0] at p0
        exact spot_zero p0
      obtain ⟨B, o, rfl⟩ := hsp
      refine ⟨y, B, o, cs', rfl, fun r z hz => ?_, hy⟩
      have hr : r < E.K := by have := (List.getElem?_eq_some_iff.1 hz).1; omega
      have pr := hcell r (by omega)
      rw [addp, addp] at pr
      rw [pr, hz]
    rcases Nat.eq_zero_or_pos len with h0 | h0
    · subst h0
      exact ⟨_, [], h4, some a, cap, rfl, Nat.zero_le _, by omega, Ls.nil _ _ _⟩
    have inh : Inhabited α := ⟨(each 0 h0).choose⟩
    obtain ⟨F, hF⟩ := choose_lt each
    refine ⟨_, (List.range len).map F, h4, some a, cap, by simp, by simpa using hl, by omega, fun i p hp => ?_⟩
    have hi : i < len := by have := (List.getElem?_eq_some_iff.1 hp).1; simpa using this
    rw [List.getElem?_map, List.getElem?_range hi] at hp
    cases hp
    obtain ⟨B, o, cs, ha, hc, hI⟩ := hF i hi
    exact ⟨B, o, cs, by rw [ha], fun _ => trivial, hc, hI⟩
theorem open_ev (fuel : Nat) (cs : List Value) (x : DataW H × List MemPlace) (h : DataW.trod enc Tryz.prog W base spare held fuel 26 cs = some x) : ∃ y, evE.I (fun _ => True) W cs y := by
  obtain ⟨v, l, hc, hv⟩ := open_hb fuel cs x h
  exact ⟨l, v, hc, hv⟩
theorem open_evl (fuel : Nat) (cs : List Value) (x : DataW H × List MemPlace) (h : DataW.trod enc Tryz.prog W base spare held fuel 37 cs = some x) : ∃ v ls, cs = [v] ∧ Sl evE (fun _ => True) W v ls :=
  open_list (E := evE) (by decide) Tryz.underlying37 cells22 open_ev fuel cs x h
set_option maxRecDepth 100000 in
theorem open_rw (fuel : Nat) (cs : List Value) (x : DataW H × List MemPlace) (h : DataW.trod enc Tryz.prog W base spare held fuel 47 cs = some x) : ∃ y, rowE.I (fun _ => True) W cs y := by
  obtain ⟨xs, k, hk, hxy, hlen, hxl, hf⟩ := DataW.trod_struct Tryz.underlying47 h
  rw [cells37] at hlen
  obtain ⟨c0, c1, c2, rfl⟩ := list3 hlen
  obtain ⟨y0, y1, y2, rfl⟩ := list3 (l := xs) hxl
  have g0 := hf 0 _ rfl
  have g1 := hf 1 _ rfl
  have g2 := hf 2 _ rfl
  clear hf hxl hlen hxy h
  simp only [List.getElem?_cons_zero, List.getElem?_cons_succ] at g0 g1 g2
  obtain ⟨s0, e0, _, _⟩ := DataW.trod_string Tryz.underlying9 g0
  obtain ⟨n1, e1, _, _⟩ := DataW.trod_int Tryz.underlying3 g1
  obtain ⟨v2, l, e2, hv⟩ := open_hb _ _ _ g2
  cases e0; cases e1; cases e2
  exact ⟨⟨s0, n1, l⟩, _, rfl, hv⟩
set_option maxRecDepth 100000 in
theorem open_bn (fuel : Nat) (cs : List Value) (x : DataW H × List MemPlace) (h : DataW.trod enc Tryz.prog W base spare held fuel 39 cs = some x) : ∃ y, brE.I (fun _ => True) W cs y := by
  obtain ⟨xs, k, hk, hxy, hlen, hxl, hf⟩ := DataW.trod_struct Tryz.underlying39 h
  rw [cells56] at hlen
  obtain ⟨c0, c1, rfl⟩ := list2 hlen
  obtain ⟨y0, y1, rfl⟩ := list2 (l := xs) hxl
  have g0 := hf 0 _ rfl
  have g1 := hf 1 _ rfl
  clear hf hxl hlen hxy h
  simp only [List.getElem?_cons_zero, List.getElem?_cons_succ] at g0 g1
  obtain ⟨s0, e0, _, _⟩ := DataW.trod_string Tryz.underlying9 g0
  obtain ⟨v1, l, e1, hv⟩ := open_evl _ _ _ g1
  cases e0; cases e1
  exact ⟨⟨s0, l⟩, _, rfl, hv⟩
set_option maxRecDepth 100000 in
/-- An argument that is rows. -/
theorem open_db (fuel : Nat) (cs : List Value) (x : DataW H × List MemPlace) (h : DataW.trod enc Tryz.prog W base spare held fuel 25 cs = some x) : ∃ u b r, cs = [u, b] ∧ IsR (fun _ => True) W (.agg #[u, b]) r := by
  obtain ⟨xs, k, hk, hxy, hlen, hxl, hf⟩ := DataW.trod_struct Tryz.underlying25 h
  rw [cellsD25] at hlen
  obtain ⟨c0, c1, rfl⟩ := list2 hlen
  obtain ⟨y0, y1, rfl⟩ := list2 (l := xs) hxl
  have g0 := hf 0 _ rfl
  have g1 := hf 1 _ rfl
  clear hf hxl hlen hxy h
  simp only [List.getElem?_cons_zero, List.getElem?_cons_succ] at g0 g1
  obtain ⟨u, rs, e0, hu⟩ := open_list (E := rowE) (by decide) Tryz.underlying22 cells37 open_rw _ _ _ g0
  obtain ⟨b, bs, e1, hb⟩ := open_list (E := brE) (by decide) Tryz.underlying23 cells56 open_bn _ _ _ g1
  cases e0; cases e1
  exact ⟨_, _, ⟨rs, bs⟩, rfl, _, _, rfl, hu, hb⟩
set_option maxRecDepth 100000 in
theorem open_wtE (fuel : Nat) (cs : List Value) (x : DataW H × List MemPlace) (h : DataW.trod enc Tryz.prog W base spare held fuel 44 cs = some x) : ∃ t, wtE.I (fun _ => True) W cs t := by
  obtain ⟨xs, k, hk, hxy, hlen, hxl, hf⟩ := DataW.trod_struct Tryz.underlying44 h
  rw [cells42] at hlen
  obtain ⟨c0, c1, c2, c3, c4, rfl⟩ := list5 hlen
  obtain ⟨y0, y1, y2, y3, y4, rfl⟩ := list5 (l := xs) hxl
  have g0 := hf 0 _ rfl
  have g1 := hf 1 _ rfl
  have g2 := hf 2 _ rfl
  have g3 := hf 3 _ rfl
  have g4 := hf 4 _ rfl
  clear hf hxl hlen hxy h
  simp only [List.getElem?_cons_zero, List.getElem?_cons_succ] at g0 g1 g2 g3 g4
  obtain ⟨s0, e0, _, _⟩ := DataW.trod_string Tryz.underlying9 g0
  obtain ⟨s1, e1, _, _⟩ := DataW.trod_string Tryz.underlying9 g1
  obtain ⟨n2, e2, _, _⟩ := DataW.trod_int Tryz.underlying3 g2
  obtain ⟨n3, e3, _, _⟩ := DataW.trod_int Tryz.underlying3 g3
  obtain ⟨v4, ls, e4, hl⟩ := open_evl _ _ _ g4
  cases e0; cases e1; cases e2; cases e3; cases e4
  exact ⟨⟨s0, s1, n2, n3, ls⟩, _, rfl, hl⟩
set_option maxRecDepth 100000 in
/-- An argument that is a batch. -/
theorem open_btS (fuel : Nat) (cs : List Value) (x : DataW H × List MemPlace) (h : DataW.trod enc Tryz.prog W base spare held fuel 42 cs = some x) : ∃ c0 c1 c2 c3 b, cs = [c0, c1, c2, c3] ∧ BtS (fun _ => True) W (.agg #[c0, c1, c2, c3]) b := by
  obtain ⟨xs, k, hk, hxy, hlen, hxl, hf⟩ := DataW.trod_struct Tryz.underlying42 h
  rw [cells25] at hlen
  obtain ⟨c0, c1, c2, c3, rfl⟩ := list4 hlen
  obtain ⟨y0, y1, y2, y3, rfl⟩ := list4 (l := xs) hxl
  have g0 := hf 0 _ rfl
  have g1 := hf 1 _ rfl
  have g2 := hf 2 _ rfl
  have g3 := hf 3 _ rfl
  clear hf hxl hlen hxy h
  simp only [List.getElem?_cons_zero, List.getElem?_cons_succ] at g0 g1 g2 g3
  obtain ⟨s0, e0, _, _⟩ := DataW.trod_string Tryz.underlying9 g0
  obtain ⟨n1, e1, _, _⟩ := DataW.trod_int Tryz.underlying3 g1
  obtain ⟨vr, row, e2, hr⟩ := open_hb _ _ _ g2
  obtain ⟨vw, ws, e3, hw⟩ := open_list (E := wtE) (by decide) Tryz.underlying40 cells42 open_wtE _ _ _ g3
  cases e0; cases e1; cases e2; cases e3
  exact ⟨_, _, _, _, ⟨s0, n1, row, ws⟩, rfl, _, _, rfl, hr, hw⟩
end
end Go.Proofs.YtkaaddahegkmgaaGreat
