/- The contracts of cloneAll and Clone; a value that came in (from the event seat). -/
import Derived.ChangeArms
import Derived.ChangeSame
import Derived.Deep.Slices
import Derived.Deep.WholeRow
import Derived.SizedLaws
import Derived.Test.YtcdhlklmnnmpoaaGreatVJ
import Derived.Test.YtcdhlklmnnmpoaaGreatVG
namespace Go.Proofs.YtcdhlklmnnmpoaaGreat
open Go.ChangeAt Go.ChangeShapes Go.Deep Go.RowKit Go.WideShapes
/-- As Row, in blocks from lo on. -/
def RowM (lo : Nat) (R : Value → Tv → Prop) (w : World) (a : Option Addr) (l : List Tv) : Prop :=
  ∀ i t, l[i]? = some t → ∃ B o c0 c1 c2 c3 c4, a = some ⟨B, o, none⟩ ∧ (lo ≤ B ∧ ∀ p, w.frozen? ⟨B, p, none⟩ = false) ∧ At5 w B (o + i * 5) c0 c1 c2 c3 c4 ∧ R (.agg #[c0, c1, c2, c3, c4]) t
/-- As Is, all lists in blocks from lo on. -/
def IsM (lo : Nat) (w : World) : Nat → Value → Tv → Prop
  | 0, _, _ => False
  | n + 1, v, .mk k x b s l => ∃ a c, v = .agg #[.int .i64 k, .int .i64 x, .int .u64 b, .string s, .slice a l.length c] ∧ Fit k x b s l.length c ∧ RowM lo (IsM lo w n) w a l
theorem IsM.is {lo : Nat} {w : World} : ∀ {n : Nat} {v : Value} {t : Tv}, IsM lo w n v t → Is w n v t
  | 0, _, _, h => h
  | n + 1, v, .mk k x b s l, ⟨a, c, hv, hf, hr⟩ => ⟨a, c, hv, hf, fun i t ht => by
      obtain ⟨B, o, c0, c1, c2, c3, c4, ha, _, h5, hi⟩ := hr i t ht
      exact ⟨B, o, c0, c1, c2, c3, c4, ha, h5, hi.is⟩⟩
theorem IsM.kb {g lo : Nat} {w w' : World} (hb : KB g w w') (hg : g < lo) : ∀ {n : Nat} {v : Value} {t : Tv}, IsM lo w n v t → IsM lo w' n v t
  | 0, _, _, h => h
  | n + 1, v, .mk k x b s l, ⟨a, c, hv, hf, hr⟩ => ⟨a, c, hv, hf, fun i t ht => by
      obtain ⟨B, o, c0, c1, c2, c3, c4, ha, hB, h5, hi⟩ := hr i t ht
      exact ⟨B, o, c0, c1, c2, c3, c4, ha, ⟨hB.1, fun p => (hb.frozen (a := ⟨B, p, none⟩) (show B < w.heap.size from World.block_lt_of_cell? w ⟨B, o + i * 5, none⟩ h5.1) (show B ≠ g by have := hB.1; omega)).trans (hB.2 p)⟩, h5.kb hb (by have := hB.1; omega), hi.kb hb hg⟩⟩
theorem IsM.lower {lo lo' : Nat} {w : World} (hl : lo' ≤ lo) : ∀ {n : Nat} {v : Value} {t : Tv}, IsM lo w n v t → IsM lo' w n v t
  | 0, _, _, h => h
  | n + 1, v, .mk k x b s l, ⟨a, c, hv, hf, hr⟩ => ⟨a, c, hv, hf, fun i t ht => by
      obtain ⟨B, o, c0, c1, c2, c3, c4, ha, hB, h5, hi⟩ := hr i t ht
      exact ⟨B, o, c0, c1, c2, c3, c4, ha, ⟨by have := hB.1; omega, hB.2⟩, h5, hi.lower hl⟩⟩
theorem RowM.kb {g lo n : Nat} {w w' : World} {a : Option Addr} {l : List Tv} (hb : KB g w w') (hg : g < lo) (h : RowM lo (IsM lo w n) w a l) : RowM lo (IsM lo w' n) w' a l := fun i t ht => by
  obtain ⟨B, o, c0, c1, c2, c3, c4, ha, hB, h5, hi⟩ := h i t ht
  exact ⟨B, o, c0, c1, c2, c3, c4, ha, ⟨hB.1, fun p => (hb.frozen (a := ⟨B, p, none⟩) (show B < w.heap.size from World.block_lt_of_cell? w ⟨B, o + i * 5, none⟩ h5.1) (show B ≠ g by have := hB.1; omega)).trans (hB.2 p)⟩, h5.kb hb (by have := hB.1; omega), hi.kb hb hg⟩
theorem IsM.shape {lo : Nat} {w : World} : ∀ {n : Nat} {v : Value} {t : Tv}, IsM lo w n v t → ∃ k x b s a m c, v = .agg #[.int .i64 k, .int .i64 x, .int .u64 b, .string s, .slice a m c]
  | 0, _, _, h => h.elim
  | _ + 1, _, .mk k x b s l, ⟨a, c, hv, _, _⟩ => ⟨k, x, b, s, a, l.length, c, hv⟩
/-- No list has more values than an argument may have. -/
def SmallW : Nat → Tv → Prop
  | 0, _ => False
  | n + 1, .mk _ _ _ _ l => l.length ≤ 2199023255488 ∧ ∀ (i : Nat) t, l[i]? = some t → SmallW n t
def CloneW (n : Nat) : Prop := ∀ (v : Value) (t : Tv) (w : World), Is w n v t → SmallW n t →
    Calls Tryz.prog 43 #[v] w fun e w' => (∃ v', e = .returned v' ∧ IsM w.heap.size w' n v' t) ∧ Below w.heap.size w w'
theorem make_valsW (k : Nat) (h : k ≤ 2199023255488) (w : World) : (Instr.makeSlice 23 (.int .i64 (k : Int)) (.int .i64 (k : Int))).run Tryz.prog w = .ok (.slice (some ⟨w.heap.size, 0, none⟩) k k) (w.alloc (.cells (madeCells zV.cells (k * 5)) 25)) := by
  obtain ⟨i0, hi, hz0, hz1, hz2⟩ := info_parts info25
  rw [run_make (P := Tryz.prog) w 23 25 i0 zV Tryz.underlying23 hi hz0 .i64 .i64 k k (by omega) (by omega) (by rw [hz2]; omega) (by omega)]
  rw [Int.toNat_natCast, hz1]
set_option maxHeartbeats 2000000 in
theorem cloneAllW (n : Nat) (ih : CloneW n) (a : Option Addr) (c : Nat) (l : List Tv) (w : World) (hl : l.length ≤ 2199023255488) (hr : Row (Is w n) w a l) (hs : ∀ (i : Nat) t, l[i]? = some t → SmallW n t) :
    Calls Tryz.prog 55 #[.slice a l.length c] w fun e w' => (∃ a' c', e = .returned (.slice a' l.length c') ∧ l.length ≤ c' ∧ c' ≤ 2199023255488 ∧ RowM w.heap.size (IsM w.heap.size w' n) w' a' l) ∧ Below w.heap.size w w' := by
  by_cases h0 : l.length = 0
  · rw [h0]
    have e0 : ∀ (i : Nat), l[i]? = none := fun i => List.getElem?_eq_none (by omega)
    clear hr hs
    go_enter Tryz.func55, Tryz.ntmps55
    go_wp2_with fail
    go_ret
    exact ⟨⟨none, 0, rfl, Nat.le_refl _, by omega, fun i t ht => by rw [e0] at ht; cases ht⟩, Below.refl _ _⟩
  · have HR : Hid (Row (Is w n) w a l) := hr
    have HSm : Hid (∀ (i : Nat) t, l[i]? = some t → SmallW n t) := hs
    have hmk := make_valsW l.length hl
    have hma := made_at w l.length
    generalize madeCells zV.cells (l.length * 5) = M at hmk hma
    have HMA : Hid (∀ i, i < l.length → _) := hma
    have f0 : ((l.length : Int) == 0) = false := by simpa using h0
    have HL : Hid (l.length ≤ 2199023255488) := hl
    clear hr hs hl hma
    go_enter Tryz.func55, Tryz.ntmps55
    go_wp2_with fail
    go_loopw [14] (fun i wr => ∃ j : Nat, j ≤ l.length ∧ i = .int .i64 j ∧ Hid (Below w.heap.size w wr) ∧ Hid (w.heap.size < wr.heap.size) ∧ Hid (∀ o, wr.frozen? ⟨w.heap.size, o, none⟩ = false) ∧
        Hid (∀ (i : Nat) t, i < j → l[i]? = some t → ∃ c0 c1 c2 c3 c4, At5 wr w.heap.size (i * 5) c0 c1 c2 c3 c4 ∧ IsM (w.heap.size + 1) wr n (.agg #[c0, c1, c2, c3, c4]) t) ∧
        Hid (∀ (i : Nat), j ≤ i → i < l.length → At5 wr w.heap.size (i * 5) (.int .i64 0) (.int .i64 0) (.int .u64 0) (.string ⟨#[]⟩) (.slice none 0 0))) (fun i _ => l.length - (intOf i).toNat)
    case atStart => exact ⟨0, Nat.zero_le _, rfl, bel1 _ _, (by show _ < _; simp), (fun o => fresh w M o), (fun i t h => absurd h (Nat.not_lt_zero _)), fun i _ h => HMA.out i h⟩
    case round =>
      obtain ⟨j, hj, rfl, HB, HG, HFr, HD, HZ⟩ := hrel
      by_cases hlt : j < l.length
      · obtain ⟨B, o, c0, c1, c2, c3, c4, rfl, h5, hi⟩ := HR.out j _ (List.getElem?_eq_getElem hlt)
        obtain ⟨k', x', b', s', a', m', c', rfl, rfl, rfl, rfl, rfl⟩ := hi.shape
        obtain ⟨e0, e1, e2, e3, e4⟩ := h5.below HB.out
        have HI := hi.below HB.out
        have C0 := fun W (hB : Below wr.heap.size wr W) => ih _ _ W (HI.below hB) (HSm.out j _ (List.getElem?_eq_getElem hlt))
        clear hi h5 HI
        go_wp2_with fail
        refine Calls.mono (C0 _ (bel1 _ _)) ?_
        rintro e w1 ⟨⟨v1, rfl, hn1⟩, hb1⟩
        have hb2 := bel2 (bel1 wr _) hb1
        have hsz : wr.heap.size ≤ w1.heap.size := hb2.size
        obtain ⟨k1, x1, b1, s1, a1, m1, c1, rfl⟩ := hn1.shape
        obtain ⟨z0, z1, z2, z3, z4⟩ := (HZ.out j (Nat.le_refl _) hlt).below hb2
        have HN1 : Hid (IsM (w.heap.size + 1) w1 n (.agg #[.int .i64 k1, .int .i64 x1, .int .u64 b1, .string s1, .slice a1 m1 c1]) l[j]) := hn1.lower (by have := HG.out; simp; omega)
        have HB2 : Hid (Below wr.heap.size wr w1) := hb2
        have HB1 : Hid (Below w.heap.size w w1) := bel2 HB.out hb2
        have HG1 : Hid (w.heap.size < w1.heap.size) := Nat.lt_of_lt_of_le HG.out hsz
        have hfr : ∀ o, w1.frozen? ⟨w.heap.size, o, none⟩ = false := fun o => (hb2.frozen HG.out).trans (HFr.out o)
        have g0 := hfr (j * 5)
        have g1 := hfr (j * 5 + 1)
        have g2 := hfr (j * 5 + 2)
        have g3 := hfr (j * 5 + 3)
        have g4 := hfr (j * 5 + 4)
        have HFr1 : Hid (∀ o, w1.frozen? ⟨w.heap.size, o, none⟩ = false) := hfr
        clear hfr
        clear hb1 hb2 hn1 hsz C0 e0 e1 e2 e3 e4
        have HW : Hid (wrap64 ((j : Int) + 1) = ((j + 1 : Nat) : Int)) := wr1 hlt (by have := HL.out; omega)
        go_wp2_with fail
        refine ⟨⟨j + 1, hlt, by rw [HW.out], ?_⟩, meas hlt HW.out⟩
        have k5 := set5_kb w1 w.heap.size (j * 5) (.int .i64 k1) (.int .i64 x1) (.int .u64 b1) (.string s1) (.slice a1 m1 c1)
        refine ⟨HB1.out.trans (k5.below (Nat.le_refl _) (Nat.le_of_lt HG1.out)), Nat.lt_of_lt_of_le HG1.out k5.2.2.2.1, (fun o => (set5_frozen _ _ _ _ _ _ _ _ _).trans (HFr1.out o)), ?_, ?_⟩
        · intro i t hi ht
          by_cases hij : i < j
          · obtain ⟨d0, d1, d2, d3, d4, h5, hn⟩ := HD.out i t hij ht
            exact ⟨d0, d1, d2, d3, d4, set5_beside (h5.below HB2.out) _ _ _ _ _ (by omega), (hn.kb (g := w.heap.size) (KB.of_below HB2.out) (by omega)).kb k5 (by omega)⟩
          · obtain rfl : i = j := by omega
            rw [List.getElem?_eq_getElem hlt] at ht
            cases ht
            exact ⟨_, _, _, _, _, set5_at (⟨z0, z1, z2, z3, z4⟩ : At5 w1 w.heap.size (i * 5) _ _ _ _ _) _ _ _ _ _, HN1.out.kb k5 (by omega)⟩
        · intro i hi hil
          exact set5_beside ((HZ.out i (by omega) hil).below HB2.out) _ _ _ _ _ (by omega)
      · obtain rfl : j = l.length := by omega
        go_wp2_with fail
        go_ret
        refine ⟨⟨_, _, rfl, Nat.le_refl _, HL.out, fun i t ht => ?_⟩, HB.out⟩
        obtain ⟨c0, c1, c2, c3, c4, h5, hn⟩ := HD.out i t (List.getElem?_eq_some_iff.1 ht).1 ht
        exact ⟨_, 0, c0, c1, c2, c3, c4, rfl, ⟨Nat.le_refl _, HFr.out⟩, by rw [Nat.zero_add]; exact h5, hn.lower (by omega)⟩
set_option maxHeartbeats 2000000 in
theorem cloneW : ∀ n, CloneW n := by
  intro n
  induction n with
  | zero => intro v t w h; exact h.elim
  | succ n ih =>
    rintro v ⟨k, x, b, s, l⟩ w ⟨a, c, rfl, hf, hr⟩ ⟨hl, hs⟩
    have C0 := fun W (hB : Below w.heap.size w W) => cloneAllW n ih a c l W hl (hr.below hB) hs
    have HF : Hid (Fit k x b s l.length c) := hf
    clear hr hs ih hl hf
    go_enter Tryz.func43, Tryz.ntmps43
    go_wp2_with fail
    refine Calls.mono (C0 _ (bel2 (bel1 _ _) (bel1 _ _))) ?_
    rintro e w1 ⟨⟨a1, c1, rfl, hc1, hc2, hr1⟩, hb1⟩
    have hb2 := bel2 (bel2 (bel1 w _) (bel1 _ _)) hb1
    have hz : w.heap.size + 1 + 1 ≤ w1.heap.size := by have := hb1.size; simpa using this
    have HB1 : Hid (Below w.heap.size w w1) := hb2
    simp only [World.size_alloc] at hr1
    have HR1 : Hid (RowM (w.heap.size + 1 + 1) (IsM (w.heap.size + 1 + 1) w1 n) w1 a1 l) := hr1
    have p1 := ((box_at w (.int .i64 k) (.int .i64 x) (.int .u64 b) (.string s) (.slice a l.length c)).below (bel1 _ _)).below hb1
    have p2 := (box_at' _ (w.heap.size + 1) (by simp) (.int .i64 0) (.int .i64 0) (.int .u64 0) (.string ⟨#[]⟩) (.slice none 0 0)).below hb1
    have f1 : ∀ o, w1.frozen? ⟨w.heap.size, o, none⟩ = false := fun o => (hb1.frozen (by simp; omega)).trans (((bel1 _ _).frozen (by simp)).trans (fresh w _ o))
    have f2 : ∀ o, w1.frozen? ⟨w.heap.size + 1, o, none⟩ = false := fun o => (hb1.frozen (by simp)).trans (fresh' _ _ (by simp) _ o)
    obtain ⟨p10, p11, p12, p13, p14⟩ := p1
    obtain ⟨p20, p21, p22, p23, p24⟩ := p2
    have q0 := f1 4
    have q1 := f2 0
    have q2 := f2 1
    have q3 := f2 2
    have q4 := f2 3
    have q5 := f2 4
    have HC1 : Hid (l.length ≤ c1 ∧ c1 ≤ 2199023255488) := ⟨hc1, hc2⟩
    clear hb1 hb2 hr1 f1 f2 C0 hc1 hc2
    have HP2 : Hid (At5 w1 (w.heap.size + 1) 0 _ _ _ _ _) := ⟨p20, p21, p22, p23, p24⟩
    go_wp2_with fail
    have kb1 := KB.setCell w.heap.size w1 4 (.slice a1 l.length c1)
    have kb2 := set5_kb (w1.setCell ⟨w.heap.size, 4, none⟩ (.slice a1 l.length c1)) (w.heap.size + 1) 0 (.int .i64 k) (.int .i64 x) (.int .u64 b) (.string s) (.slice a1 l.length c1)
    refine bodyPost_ret (ret5 Tryz.results43 _ (g := w.heap.size + 1) rfl (set5_at (HP2.out.kb kb1 (by omega)) _ _ _ _ _)) rfl ?_
    refine ⟨⟨_, rfl, a1, c1, rfl, ⟨HF.out.k0, HF.out.k1, HF.out.x0, HF.out.x1, HF.out.b0, HF.out.b1, HF.out.s1, HC1.out.1, by have := HC1.out.2; omega⟩, ?_⟩, ?_⟩
    · intro i t ht
      obtain ⟨B, o, d0, d1, d2, d3, d4, ha, hB, h5, hn⟩ := ((HR1.out.kb kb1 (by omega)).kb kb2 (by omega)) i t ht
      exact ⟨B, o, d0, d1, d2, d3, d4, ha, ⟨by have := hB.1; omega, hB.2⟩, h5, hn.lower (by omega)⟩
    · exact (HB1.out.trans (kb1.below (Nat.le_refl _) (by omega))).trans (kb2.below (by omega) (by have := kb1.2.2.2.1; omega))
theorem SmallW.up : ∀ {n m : Nat} {t : Tv}, SmallW n t → n ≤ m → SmallW m t
  | 0, _, _, h, _ => h.elim
  | n + 1, 0, _, _, hm => by omega
  | n + 1, m + 1, .mk _ _ _ _ l, ⟨h1, h2⟩, hm => ⟨h1, fun i t ht => (h2 i t ht).up (by omega)⟩
theorem mem_all {H : Type} {P : Program} {e : TypeId} : ∀ {ds : List (DataW H)} {d : DataW H}, d ∈ ds → ∀ y ∈ d.weights P e, y ∈ DataW.weightsAll P e ds
  | x :: r, d, h, y, hy => by
    simp only [DataW.weightsAll, List.mem_append]
    rcases List.mem_cons.1 h with rfl | h
    · exact .inl hy
    · exact .inr (mem_all h y hy)
set_option maxRecDepth 100000 in
theorem open_valW {H : Type} {enc : TypeId × Value → H} {W : World} {base : Nat} {spare : Nat → Bool} {held : Bool} : ∀ (fuel : Nat) (cs : List Value) (x : DataW H × List MemPlace),
    DataW.trod enc Tryz.prog W base spare held fuel 25 cs = some x → (∀ y ∈ x.1.weights Tryz.prog 25, y ≤ reachBytes) → ∃ c0 c1 c2 c3 c4 t n, cs = [c0, c1, c2, c3, c4] ∧ Is W n (.agg #[c0, c1, c2, c3, c4]) t ∧ SmallW n t := by
  intro fuel
  induction fuel using Nat.strongRecOn with
  | _ fuel ih =>
    intro cs x h hwt
    obtain ⟨xs, k, hk, hxy, hlen, hxl, hf⟩ := DataW.trod_struct Tryz.underlying25 h
    rw [cells25] at hlen
    obtain ⟨c0, c1, c2, c3, c4, rfl⟩ := list5 hlen
    obtain ⟨y0, y1, y2, y3, y4, rfl⟩ := list5 (l := xs) hxl
    have hw4 : ∀ y ∈ y4.1.weights Tryz.prog 23, y ≤ reachBytes := fun y hy => by
      apply hwt
      rw [hxy]
      simp only [DataW.weights, Tryz.underlying25]
      exact DataW.weights_mem_each (j := 4) rfl rfl y hy
    clear hwt
    have g0 := hf 0 _ rfl
    have g1 := hf 1 _ rfl
    have g2 := hf 2 _ rfl
    have g3 := hf 3 _ rfl
    have g4 := hf 4 _ rfl
    clear hf hxl hlen hxy h
    simp only [List.getElem?_cons_zero, List.getElem?_cons_succ] at g0 g1 g2 g3 g4
    obtain ⟨n0, e0, _, w0⟩ := DataW.trod_int Tryz.underlying3 g0
    obtain ⟨n1, e1, _, w1⟩ := DataW.trod_int Tryz.underlying3 g1
    obtain ⟨n2, e2, _, w2⟩ := DataW.trod_int Tryz.underlying22 g2
    obtain ⟨s3, e3, _, w3⟩ := DataW.trod_string Tryz.underlying9 g3
    cases e0; cases e1; cases e2; cases e3
    unfold maxLen at w3
    rcases DataW.trod_slice Tryz.underlying23 g4 with ⟨h4, _⟩ | ⟨a, len, cap, elems, rest, q, hq, h4, h4x, _, hl, hm, he, hx, _, _⟩
    · cases h4
      exact ⟨_, _, _, _, _, .mk n0 n1 n2 s3 [], 1, rfl, ⟨none, 0, rfl, ⟨(lo64 w0).1, (lo64 w0).2, (lo64 w1).1, (lo64 w1).2, (lou64 w2).1, (lou64 w2).2, by omega, Nat.le_refl _, by omega⟩, fun i t ht => by simp at ht⟩, ⟨by decide, fun i t ht => by simp at ht⟩⟩
    · cases h4
      unfold maxLen at hm
      have hlen64 : len ≤ 2199023255488 := by
        have hb : Tryz.prog.bytesOf 25 = 64 := by kernel_rfl
        have := hw4 ((elems.length + rest.length) * Tryz.prog.bytesOf 25) (by rw [h4x]; simp [DataW.weights, Tryz.underlying23])
        rw [hb, he] at this
        unfold reachBytes at this
        omega
      have helem : ∀ i (hi : i < elems.length), ∀ y ∈ (elems[i]).1.weights Tryz.prog 25, y ≤ reachBytes := fun i hi y hy => by
        apply hw4
        rw [h4x]
        simp only [DataW.weights, Tryz.underlying23, List.mem_cons, List.mem_append]
        exact .inr (.inl (mem_all (List.mem_map.2 ⟨_, List.getElem_mem hi, rfl⟩) y hy))
      clear h4x hw4
      have each : ∀ i, i < len → ∃ r : (Value × Value × Value × Value × Value) × Tv × Nat, ∃ B o, a = ⟨B, o, none⟩ ∧ At5 W B (o + i * 5) r.1.1 r.1.2.1 r.1.2.2.1 r.1.2.2.2.1 r.1.2.2.2.2 ∧ Is W r.2.2 (.agg #[r.1.1, r.1.2.1, r.1.2.2.1, r.1.2.2.2.1, r.1.2.2.2.2]) r.2.1 ∧ SmallW r.2.2 r.2.1 := by
        intro i hi
        have key := hx i hi
        rw [List.getElem?_eq_getElem (by omega)] at key
        obtain ⟨cs', k1, k2⟩ := Option.bind_eq_some_iff.1 key
        obtain ⟨d0, d1, d2, d3, d4, t, n, rfl, hi', hsm⟩ := ih q (by omega) cs' _ k2 (helem i (by omega))
        rw [cells25] at k1
        obtain ⟨_, _, hcell⟩ := World.cells?_some k1
        have p0 := hcell 0 (by simp)
        have hsp : a.spot = none := by
          have key0 := hx 0 (by omega)
          rw [List.getElem?_eq_getElem (by omega)] at key0
          obtain ⟨cs0, k10, k20⟩ := Option.bind_eq_some_iff.1 key0
          obtain ⟨f0, f1, f2, f3, f4, _, _, rfl, _, _⟩ := ih q (by omega) cs0 _ k20 (helem 0 (by omega))
          rw [cells25] at k10
          obtain ⟨_, _, hcell0⟩ := World.cells?_some k10
          have q0 := hcell0 0 (by simp)
          rw [add_add] at q0
          have := plain_addr q0
          simpa [Addr.add] using this
        obtain ⟨B, o, sp⟩ := a
        cases hsp
        have ad : ∀ r, ((⟨B, o, none⟩ : Addr).add (i * 5)).add r = ⟨B, o + i * 5 + r, none⟩ := by
          intro r
          rw [addp, addp]
        have p1 := hcell 1 (by simp)
        have p2 := hcell 2 (by simp)
        have p3 := hcell 3 (by simp)
        have p4 := hcell 4 (by simp)
        rw [ad] at p0 p1 p2 p3 p4
        exact ⟨((d0, d1, d2, d3, d4), t, n), B, o, rfl, ⟨by simpa using p0, by simpa using p1, by simpa using p2, by simpa using p3, by simpa using p4⟩, hi', hsm⟩
      have inh : Inhabited ((Value × Value × Value × Value × Value) × Tv × Nat) := ⟨(undef, undef, undef, undef, undef), .mk 0 0 0 ⟨#[]⟩ [], 0⟩
      obtain ⟨F, hF⟩ := choose_lt each
      obtain ⟨N, hN⟩ := fuel_lt (n := len) (q := fun i N => (F i).2.2 ≤ N) (fun _ _ _ h h' => Nat.le_trans h' h) (fun i _ => ⟨_, Nat.le_refl _⟩)
      refine ⟨_, _, _, _, _, .mk n0 n1 n2 s3 ((List.range len).map fun i => (F i).2.1), N + 1, rfl, ⟨some a, cap, ?_, ?_, ?_⟩, ⟨by simpa using hlen64, ?_⟩⟩
      · simp
      · exact ⟨(lo64 w0).1, (lo64 w0).2, (lo64 w1).1, (lo64 w1).2, (lou64 w2).1, (lou64 w2).2, by omega, by simpa using hl, by omega⟩
      · intro i t ht
        have hi : i < len := by have := (List.getElem?_eq_some_iff.1 ht).1; simpa using this
        rw [List.getElem?_map, List.getElem?_range hi] at ht
        cases ht
        obtain ⟨B, o, ha, h5, hI, _⟩ := hF i hi
        exact ⟨B, o, _, _, _, _, _, by rw [ha], h5, hI.up (hN i hi)⟩
      · intro i t ht
        have hi : i < len := by have := (List.getElem?_eq_some_iff.1 ht).1; simpa using this
        rw [List.getElem?_map, List.getElem?_range hi] at ht
        cases ht
        obtain ⟨B, o, ha, h5, _, hS⟩ := hF i hi
        exact hS.up (hN i hi)
end Go.Proofs.YtcdhlklmnnmpoaaGreat
