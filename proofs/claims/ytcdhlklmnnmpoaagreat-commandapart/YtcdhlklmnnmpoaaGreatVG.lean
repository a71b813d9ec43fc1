/- The contracts of cloneAll and Clone: the same value, whose lists lie in new memory. Condition: no list has more than 500 values. -/
import Derived.Test.YtcdhlklmnnmpoaaGreatVF
namespace Go.Proofs.YtcdhlklmnnmpoaaGreat
open Go.ChangeShapes Go.WideShapes Go.ChangeAt Go.RowKit
theorem IsN.shape {lo : Nat} {w : World} : ∀ {n : Nat} {v : Value} {t : Tv}, IsN lo w n v t → ∃ k x b s a m c, v = .agg #[.int .i64 k, .int .i64 x, .int .u64 b, .string s, .slice a m c]
  | 0, _, _, h => h.elim
  | _ + 1, _, .mk k x b s l, ⟨a, c, hv, _, _⟩ => ⟨k, x, b, s, a, l.length, c, hv⟩
/-- The zero value. -/
def zV : Value := .agg #[.int .i64 0, .int .i64 0, .int .u64 0, .string ⟨#[]⟩, .slice none 0 0]
theorem make_vals (k : Nat) (h : k ≤ 500) (w : World) : (Instr.makeSlice 23 (.int .i64 (k : Int)) (.int .i64 (k : Int))).run Tryz.prog w = .ok (.slice (some ⟨w.heap.size, 0, none⟩) k k) (w.alloc (.cells (madeCells zV.cells (k * 5)) 25)) := by
  obtain ⟨i0, hi, hz0, hz1, hz2⟩ := info_parts info25
  rw [run_make (P := Tryz.prog) w 23 25 i0 zV Tryz.underlying23 hi hz0 .i64 .i64 k k (by omega) (by omega) (by rw [hz2]; omega) (by omega)]
  rw [Int.toNat_natCast, hz1]
theorem made_at (w : World) (k i : Nat) (h : i < k) : At5 (w.alloc (.cells (madeCells zV.cells (k * 5)) 25)) w.heap.size (i * 5) (.int .i64 0) (.int .i64 0) (.int .u64 0) (.string ⟨#[]⟩) (.slice none 0 0) := by
  have f : ∀ r, r < 5 → (w.alloc (.cells (madeCells zV.cells (k * 5)) 25)).cell? ⟨w.heap.size, i * 5 + r, none⟩ = zV.cells[r]? := by
    intro r hr
    rw [cell_of_row _ w.heap.size (i * 5 + r) _ 25 (0, 0) (heap_alloc_last w _)]
    have hz : zV.cells.size = 5 := rfl
    have hm : (i * 5 + r) % 5 = r := by omega
    simp only [madeCells]
    rw [Array.getElem?_map, Array.getElem?_range, if_pos (by omega)]
    simp only [Option.map_some, hz, hm]
    rw [getElem!_pos _ _ (by omega)]
    exact (Array.getElem?_eq_getElem (by omega)).symm
  exact ⟨f 0 (by omega), f 1 (by omega), f 2 (by omega), f 3 (by omega), f 4 (by omega)⟩
theorem fresh (w : World) (M : Array Value) (o : Nat) : (w.alloc (.cells M 25)).frozen? ⟨w.heap.size, o, none⟩ = false := by
  unfold World.frozen?
  rw [heap_alloc_last]
  simp
theorem box_at' (w : World) (g : Nat) (hg : w.heap.size = g) (c0 c1 c2 c3 c4 : Value) : At5 (w.alloc (.cells #[c0, c1, c2, c3, c4] 25)) g 0 c0 c1 c2 c3 c4 := by
  subst hg
  have f : ∀ r, (w.alloc (.cells #[c0, c1, c2, c3, c4] 25)).cell? ⟨w.heap.size, r, none⟩ = #[c0, c1, c2, c3, c4][r]? := fun r => cell_of_row _ w.heap.size r _ 25 (0, 0) (heap_alloc_last w _)
  exact ⟨f 0, f 1, f 2, f 3, f 4⟩
theorem box_at (w : World) (c0 c1 c2 c3 c4 : Value) : At5 (w.alloc (.cells #[c0, c1, c2, c3, c4] 25)) w.heap.size 0 c0 c1 c2 c3 c4 := box_at' w _ rfl _ _ _ _ _
theorem fresh' (w : World) (g : Nat) (hg : w.heap.size = g) (M : Array Value) (o : Nat) : (w.alloc (.cells M 25)).frozen? ⟨g, o, none⟩ = false := by
  subst hg
  exact fresh w M o
theorem load5 {w : World} {g p : Nat} {c0 c1 c2 c3 c4 : Value} (h : At5 w g p c0 c1 c2 c3 c4) : (loadVar 25 ⟨g, p, none⟩).run Tryz.prog w = .ok (.agg #[c0, c1, c2, c3, c4]) w := by
  have hl : (loadCells ⟨g, p, none⟩ 5).run Tryz.prog w = .ok #[c0, c1, c2, c3, c4] w :=
    run_loadCells_list (P := Tryz.prog) w ⟨g, p, none⟩ [c0, c1, c2, c3, c4] (fun j v hv => by
      rw [add_plain]
      obtain ⟨h0, h1, h2, h3, h4⟩ := h
      match j, hv with
      | 0, hv => cases hv; exact h0
      | 1, hv => cases hv; exact h1
      | 2, hv => cases hv; exact h2
      | 3, hv => cases hv; exact h3
      | 4, hv => cases hv; exact h4)
  obtain ⟨i0, hi, _, hz1, _⟩ := info_parts info25
  have hagg : (isAgg 25).run Tryz.prog w = .ok true w := by
    unfold isAgg
    rw [Sem.run_bind, run_underlying Tryz.underlying25 w]
    rfl
  simp [loadVar, Sem.run_bind, hagg, sizeOf, typeInfo, hi, hz1, hl]
theorem ret5 {fn : Func} {p : Tmp} (h : fn.results = #[.cell p 25]) (tmps : Array Value) {w : World} {g : Nat} {c0 c1 c2 c3 c4 : Value} (hp : tmps.getD p undef = .pointer (some ⟨g, 0, none⟩)) (h5 : At5 w g 0 c0 c1 c2 c3 c4) :
    (results fn tmps).run Tryz.prog w = .ok (.agg #[c0, c1, c2, c3, c4]) w := by
  have hp' : tmps[p]?.getD undef = .pointer (some ⟨g, 0, none⟩) := by simpa using hp
  simp [results, h, hp', asAddr, load5 h5]
set_option maxHeartbeats 2000000 in
theorem cloneAll_calls (n : Nat) (ih : CloneAt n) (a : Option Addr) (c : Nat) (l : List Tv) (w : World) (hl : l.length ≤ 500) (hr : Row (Is w n) w a l) (hs : ∀ (i : Nat) t, l[i]? = some t → Small n t) :
    Calls Tryz.prog 55 #[.slice a l.length c] w fun e w' => (∃ a' c', e = .returned (.slice a' l.length c') ∧ l.length ≤ c' ∧ c' ≤ 500 ∧ RowN w.heap.size (IsN w.heap.size w' n) w' a' l) ∧ Below w.heap.size w w' := by
  by_cases h0 : l.length = 0
  · rw [h0]
    have e0 : ∀ (i : Nat), l[i]? = none := fun i => List.getElem?_eq_none (by omega)
    clear hr hs
    go_enter Tryz.func55, Tryz.ntmps55
    go_wp2_with fail
    go_ret
    exact ⟨⟨none, 0, rfl, Nat.le_refl _, by omega, fun i t ht => by rw [e0] at ht; cases ht⟩, Below.refl _ _⟩
  · have HR : Hid (Row (Is w n) w a l) := hr
    have HSm : Hid (∀ (i : Nat) t, l[i]? = some t → Small n t) := hs
    have hmk := make_vals l.length hl
    have hma := made_at w l.length
    generalize madeCells zV.cells (l.length * 5) = M at hmk hma
    have HMA : Hid (∀ i, i < l.length → _) := hma
    have f0 : ((l.length : Int) == 0) = false := by simpa using h0
    have HL : Hid (l.length ≤ 500) := hl
    clear hr hs hl hma
    go_enter Tryz.func55, Tryz.ntmps55
    go_wp2_with fail
    go_loopw [14] (fun i wr => ∃ j : Nat, j ≤ l.length ∧ i = .int .i64 j ∧ Hid (Below w.heap.size w wr) ∧ Hid (w.heap.size < wr.heap.size) ∧ Hid (∀ o, wr.frozen? ⟨w.heap.size, o, none⟩ = false) ∧
        Hid (∀ (i : Nat) t, i < j → l[i]? = some t → ∃ c0 c1 c2 c3 c4, At5 wr w.heap.size (i * 5) c0 c1 c2 c3 c4 ∧ IsN (w.heap.size + 1) wr n (.agg #[c0, c1, c2, c3, c4]) t) ∧
        Hid (∀ (i : Nat), j ≤ i → i < l.length → At5 wr w.heap.size (i * 5) (.int .i64 0) (.int .i64 0) (.int .u64 0) (.string ⟨#[]⟩) (.slice none 0 0))) (fun i _ => l.length - (intOf i).toNat)
    case atStart => exact ⟨0, Nat.zero_le _, rfl, bel1 _ _, (by show _ < _; simp), (fun o => fresh w M o), (fun i t h => absurd h (Nat.not_lt_zero _)), fun i _ h => HMA.out i h⟩
    case round =>
      obtain ⟨j, hj, rfl, HB, HG, HFr, HD, HZ⟩ := hrel
      by_cases hlt : j < l.length
      · obtain ⟨B, o, c0, c1, c2, c3, c4, rfl, h5, hi⟩ := HR.out j _ (List.getElem?_eq_getElem hlt)
        obtain ⟨k', x', b', s', a', m', c', rfl, rfl, rfl, rfl, rfl⟩ := hi.shape
        obtain ⟨e0, e1, e2, e3, e4⟩ := h5.below HB.out
        have HI := hi.below HB.out
        have C0 := fun W (hB : Below wr.heap.size wr W) => ih _ _ W (HI.below hB) (HSm.out j _ (List.getElem?_eq_getElem hlt))
        clear hi h5 HI
        go_wp2_with fail
        refine Calls.mono (C0 _ (bel1 _ _)) ?_
        rintro e w1 ⟨⟨v1, rfl, hn1⟩, hb1⟩
        have hb2 := bel2 (bel1 wr _) hb1
        have hsz : wr.heap.size ≤ w1.heap.size := hb2.size
        obtain ⟨k1, x1, b1, s1, a1, m1, c1, rfl⟩ := hn1.shape
        obtain ⟨z0, z1, z2, z3, z4⟩ := (HZ.out j (Nat.le_refl _) hlt).below hb2
        have HN1 : Hid (IsN (w.heap.size + 1) w1 n (.agg #[.int .i64 k1, .int .i64 x1, .int .u64 b1, .string s1, .slice a1 m1 c1]) l[j]) := hn1.lower (by have := HG.out; simp; omega)
        have HB2 : Hid (Below wr.heap.size wr w1) := hb2
        have HB1 : Hid (Below w.heap.size w w1) := bel2 HB.out hb2
        have HG1 : Hid (w.heap.size < w1.heap.size) := Nat.lt_of_lt_of_le HG.out hsz
        have hfr : ∀ o, w1.frozen? ⟨w.heap.size, o, none⟩ = false := fun o => (hb2.frozen HG.out).trans (HFr.out o)
        have g0 := hfr (j * 5)
        have g1 := hfr (j * 5 + 1)
        have g2 := hfr (j * 5 + 2)
        have g3 := hfr (j * 5 + 3)
        have g4 := hfr (j * 5 + 4)
        have HFr1 : Hid (∀ o, w1.frozen? ⟨w.heap.size, o, none⟩ = false) := hfr
        clear hfr
        clear hb1 hb2 hn1 hsz C0 e0 e1 e2 e3 e4
        have HW : Hid (wrap64 ((j : Int) + 1) = ((j + 1 : Nat) : Int)) := wr1 hlt (by have := HL.out; omega)
        go_wp2_with fail
        refine ⟨⟨j + 1, hlt, by rw [HW.out], ?_⟩, meas hlt HW.out⟩
        have k5 := set5_kb w1 w.heap.size (j * 5) (.int .i64 k1) (.int .i64 x1) (.int .u64 b1) (.string s1) (.slice a1 m1 c1)
        refine ⟨HB1.out.trans (k5.below (Nat.le_refl _) (Nat.le_of_lt HG1.out)), Nat.lt_of_lt_of_le HG1.out k5.2.2.2.1, (fun o => (set5_frozen _ _ _ _ _ _ _ _ _).trans (HFr1.out o)), ?_, ?_⟩
        · intro i t hi ht
          by_cases hij : i < j
          · obtain ⟨d0, d1, d2, d3, d4, h5, hn⟩ := HD.out i t hij ht
            exact ⟨d0, d1, d2, d3, d4, set5_beside (h5.below HB2.out) _ _ _ _ _ (by omega), (hn.kb (g := w.heap.size) (KB.of_below HB2.out) (by omega)).kb k5 (by omega)⟩
          · obtain rfl : i = j := by omega
            rw [List.getElem?_eq_getElem hlt] at ht
            cases ht
            exact ⟨_, _, _, _, _, set5_at (⟨z0, z1, z2, z3, z4⟩ : At5 w1 w.heap.size (i * 5) _ _ _ _ _) _ _ _ _ _, HN1.out.kb k5 (by omega)⟩
        · intro i hi hil
          exact set5_beside ((HZ.out i (by omega) hil).below HB2.out) _ _ _ _ _ (by omega)
      · obtain rfl : j = l.length := by omega
        go_wp2_with fail
        go_ret
        refine ⟨⟨_, _, rfl, Nat.le_refl _, HL.out, fun i t ht => ?_⟩, HB.out⟩
        obtain ⟨c0, c1, c2, c3, c4, h5, hn⟩ := HD.out i t (List.getElem?_eq_some_iff.1 ht).1 ht
        exact ⟨_, 0, c0, c1, c2, c3, c4, rfl, Nat.le_refl _, by rw [Nat.zero_add]; exact h5, hn.lower (by omega)⟩
set_option maxHeartbeats 2000000 in
theorem clone_calls : ∀ n, CloneAt n := by
  intro n
  induction n with
  | zero => intro v t w h; exact h.elim
  | succ n ih =>
    rintro v ⟨k, x, b, s, l⟩ w ⟨a, c, rfl, hf, hr⟩ ⟨hl, hs⟩
    have C0 := fun W (hB : Below w.heap.size w W) => cloneAll_calls n ih a c l W hl (hr.below hB) hs
    have HF : Hid (Fit k x b s l.length c) := hf
    clear hr hs ih hl hf
    go_enter Tryz.func43, Tryz.ntmps43
    go_wp2_with fail
    refine Calls.mono (C0 _ (bel2 (bel1 _ _) (bel1 _ _))) ?_
    rintro e w1 ⟨⟨a1, c1, rfl, hc1, hc2, hr1⟩, hb1⟩
    have hb2 := bel2 (bel2 (bel1 w _) (bel1 _ _)) hb1
    have hz : w.heap.size + 1 + 1 ≤ w1.heap.size := by have := hb1.size; simpa using this
    have HB1 : Hid (Below w.heap.size w w1) := hb2
    simp only [World.size_alloc] at hr1
    have HR1 : Hid (RowN (w.heap.size + 1 + 1) (IsN (w.heap.size + 1 + 1) w1 n) w1 a1 l) := hr1
    have p1 := ((box_at w (.int .i64 k) (.int .i64 x) (.int .u64 b) (.string s) (.slice a l.length c)).below (bel1 _ _)).below hb1
    have p2 := (box_at' _ (w.heap.size + 1) (by simp) (.int .i64 0) (.int .i64 0) (.int .u64 0) (.string ⟨#[]⟩) (.slice none 0 0)).below hb1
    have f1 : ∀ o, w1.frozen? ⟨w.heap.size, o, none⟩ = false := fun o => (hb1.frozen (by simp; omega)).trans (((bel1 _ _).frozen (by simp)).trans (fresh w _ o))
    have f2 : ∀ o, w1.frozen? ⟨w.heap.size + 1, o, none⟩ = false := fun o => (hb1.frozen (by simp)).trans (fresh' _ _ (by simp) _ o)
    obtain ⟨p10, p11, p12, p13, p14⟩ := p1
    obtain ⟨p20, p21, p22, p23, p24⟩ := p2
    have q0 := f1 4
    have q1 := f2 0
    have q2 := f2 1
    have q3 := f2 2
    have q4 := f2 3
    have q5 := f2 4
    have HC1 : Hid (l.length ≤ c1 ∧ c1 ≤ 500) := ⟨hc1, hc2⟩
    clear hb1 hb2 hr1 f1 f2 C0 hc1 hc2
    have HP2 : Hid (At5 w1 (w.heap.size + 1) 0 _ _ _ _ _) := ⟨p20, p21, p22, p23, p24⟩
    go_wp2_with fail
    have kb1 := KB.setCell w.heap.size w1 4 (.slice a1 l.length c1)
    have kb2 := set5_kb (w1.setCell ⟨w.heap.size, 4, none⟩ (.slice a1 l.length c1)) (w.heap.size + 1) 0 (.int .i64 k) (.int .i64 x) (.int .u64 b) (.string s) (.slice a1 l.length c1)
    refine bodyPost_ret (ret5 Tryz.results43 _ (g := w.heap.size + 1) rfl (set5_at (HP2.out.kb kb1 (by omega)) _ _ _ _ _)) rfl ?_
    refine ⟨⟨_, rfl, a1, c1, rfl, ⟨HF.out.k0, HF.out.k1, HF.out.x0, HF.out.x1, HF.out.b0, HF.out.b1, HF.out.s1, HC1.out.1, by have := HC1.out.2; omega⟩, ?_⟩, ?_⟩
    · intro i t ht
      obtain ⟨B, o, d0, d1, d2, d3, d4, ha, hB, h5, hn⟩ := ((HR1.out.kb kb1 (by omega)).kb kb2 (by omega)) i t ht
      exact ⟨B, o, d0, d1, d2, d3, d4, ha, by omega, h5, hn.lower (by omega)⟩
    · exact (HB1.out.trans (kb1.below (Nat.le_refl _) (by omega))).trans (kb2.below (by omega) (by have := kb1.2.2.2.1; omega))
end Go.Proofs.YtcdhlklmnnmpoaaGreat
