/- The contract of the program's own clone of a value. -/
import Derived.Test.YtocjgcjechhehaaC
namespace Go.Proofs.Ytocjgcjechhehaa
open Go.ChangeAt Go.ChangeShapes Go.Deep Go.RowKit Go.WideShapes
def PCloneW (n : Nat) : Prop := ∀ (v : Value) (t : Tv) (w : World), Is w n v t → SmallW n t →
    Calls Try.prog 53 #[v] w fun e w' => (∃ v', e = .returned v' ∧ IsN w.heap.size w' n v' t) ∧ Below w.heap.size w w'
set_option maxHeartbeats 4000000 in
set_option maxRecDepth 100000 in
theorem pcloneW : ∀ n, PCloneW n := by
  intro n
  induction n with
  | zero => intro v t w h; exact h.elim
  | succ n ih =>
    rintro v ⟨k, x, b, s, l⟩ w ⟨a, c, rfl, hf, hr⟩ ⟨hl, hs⟩
    have HIH : Hid (PCloneW n) := ih
    have HR : Hid (Row (Is w n) w a l) := hr
    have HSm : Hid (∀ (i : Nat) t, l[i]? = some t → SmallW n t) := hs
    have HF : Hid (Fit k x b s l.length c) := hf
    have HL : Hid (l.length ≤ 2199023255488) := hl
    generalize hL : l.length = L at HF HL
    have HLL : Hid (l.length = L) := hL
    have p1 := (box_at w (.int .i64 k) (.int .i64 x) (.int .u64 b) (.string s) (.slice a L c)).below (bel1 _ (.cells #[.int .i64 0, .int .i64 0, .int .u64 0, .string ⟨#[]⟩, .slice none 0 0] 27))
    have p2 := box_at' (w.alloc (.cells #[.int .i64 k, .int .i64 x, .int .u64 b, .string s, .slice a L c] 27)) (w.heap.size + 1) (by simp) (.int .i64 0) (.int .i64 0) (.int .u64 0) (.string ⟨#[]⟩) (.slice none 0 0)
    have f1 : ∀ o, ((w.alloc (.cells #[.int .i64 k, .int .i64 x, .int .u64 b, .string s, .slice a L c] 27)).alloc (.cells #[.int .i64 0, .int .i64 0, .int .u64 0, .string ⟨#[]⟩, .slice none 0 0] 27)).frozen? ⟨w.heap.size, o, none⟩ = false := fun o => ((bel1 _ _).frozen (by simp)).trans (fresh w _ o)
    have f2 : ∀ o, ((w.alloc (.cells #[.int .i64 k, .int .i64 x, .int .u64 b, .string s, .slice a L c] 27)).alloc (.cells #[.int .i64 0, .int .i64 0, .int .u64 0, .string ⟨#[]⟩, .slice none 0 0] 27)).frozen? ⟨w.heap.size + 1, o, none⟩ = false := fun o => fresh' _ _ (by simp) _ o
    have hbb : Below w.heap.size w ((w.alloc (.cells #[.int .i64 k, .int .i64 x, .int .u64 b, .string s, .slice a L c] 27)).alloc (.cells #[.int .i64 0, .int .i64 0, .int .u64 0, .string ⟨#[]⟩, .slice none 0 0] 27)) := bel2 (bel1 _ _) (bel1 _ _)
    have hsz : ((w.alloc (.cells #[.int .i64 k, .int .i64 x, .int .u64 b, .string s, .slice a L c] 27)).alloc (.cells #[.int .i64 0, .int .i64 0, .int .u64 0, .string ⟨#[]⟩, .slice none 0 0] 27)).heap.size = w.heap.size + 2 := by simp
    generalize hW0 : (w.alloc (.cells #[.int .i64 k, .int .i64 x, .int .u64 b, .string s, .slice a L c] 27)).alloc (.cells #[.int .i64 0, .int .i64 0, .int .u64 0, .string ⟨#[]⟩, .slice none 0 0] 27) = W0 at p1 p2 f1 f2 hbb hsz
    have HW0 : Hid (_ = W0) := hW0
    have P1 : Hid (At5 W0 w.heap.size 0 (.int .i64 k) (.int .i64 x) (.int .u64 b) (.string s) (.slice a L c)) := p1
    have P2 : Hid (At5 W0 (w.heap.size + 1) 0 (.int .i64 0) (.int .i64 0) (.int .u64 0) (.string ⟨#[]⟩) (.slice none 0 0)) := p2
    have F1 : Hid (∀ o, W0.frozen? ⟨w.heap.size, o, none⟩ = false) := f1
    have F2 : Hid (∀ o, W0.frozen? ⟨w.heap.size + 1, o, none⟩ = false) := f2
    have HBB : Hid (Below w.heap.size w W0) := hbb
    have HSZ : Hid (W0.heap.size = w.heap.size + 2) := hsz
    clear hr hs ih hl hf p1 p2 f1 f2 hbb hsz hW0 hL
    by_cases h0 : L = 0
    · subst h0
      obtain ⟨q0, q1, q2, q3, q4⟩ := P1.out
      obtain ⟨z0, z1, z2, z3, z4⟩ := P2.out
      have y4 := F1.out 4
      have y0 := F2.out 0
      have y1 := F2.out 1
      have y2 := F2.out 2
      have y3 := F2.out 3
      have y5 := F2.out 4
      go_enter Try.func53, Try.ntmps53
      go_upto_region 1 with fail
      rw [HW0.out]
      go_wp2_with fail
      have kb1 := KB.setCell w.heap.size W0 4 (.slice none 0 0)
      have kb2 := set5_kb (W0.setCell ⟨w.heap.size, 4, none⟩ (.slice none 0 0)) (w.heap.size + 1) 0 (.int .i64 k) (.int .i64 x) (.int .u64 b) (.string s) (.slice none 0 0)
      have hz := HSZ.out
      refine bodyPost_ret (ret5 Try.results53 _ (g := w.heap.size + 1) rfl (set5_at (P2.out.kb kb1 (by omega)) _ _ _ _ _)) rfl ?_
      refine ⟨⟨_, rfl, none, 0, by rw [HLL.out], by rw [HLL.out]; exact ⟨HF.out.k0, HF.out.k1, HF.out.x0, HF.out.x1, HF.out.b0, HF.out.b1, HF.out.s1, by omega, by omega⟩, fun i t ht => ?_⟩, ?_⟩
      · have := (List.getElem?_eq_some_iff.1 ht).1
        have := HLL.out
        omega
      · exact (HBB.out.trans (kb1.below (Nat.le_refl _) (by omega))).trans (kb2.below (by omega) (by have := kb1.2.2.2.1; omega))
    · have hmk := make_valsW L HL.out W0
      have hma := made_at W0 L
      have HfrM : Hid (∀ (M : Array Value) o, (W0.alloc (.cells M 27)).frozen? ⟨W0.heap.size, o, none⟩ = false) := fun M o => fresh W0 M o
      generalize madeCells zV.cells (L * 5) = M at hmk hma
      have HMA : Hid (∀ i, i < L → _) := hma
      have f0 : ((L : Int) == 0) = false := by simpa using h0
      obtain ⟨q0, q1, q2, q3, q4⟩ := P1.out
      have Q4 := ((bel1 W0 (.cells M 27)).cell (p := ⟨w.heap.size, 4, none⟩) (World.block_lt_of_cell? _ _ P1.out.2.2.2.2)).trans P1.out.2.2.2.2
      clear hma
      go_enter Try.func53, Try.ntmps53
      go_upto_region 1 with fail
      rw [HW0.out]
      go_wp2_with fail
      go_loopw [19] (fun i wr => ∃ j : Nat, j ≤ L ∧ i = .int .i64 (j : Int) ∧ Hid (Below W0.heap.size W0 wr) ∧ Hid (W0.heap.size < wr.heap.size) ∧ Hid (∀ o, wr.frozen? ⟨W0.heap.size, o, none⟩ = false) ∧
          Hid (∀ (i : Nat) t, i < j → l[i]? = some t → ∃ c0 c1 c2 c3 c4, At5 wr W0.heap.size (i * 5) c0 c1 c2 c3 c4 ∧ IsN (W0.heap.size + 1) wr n (.agg #[c0, c1, c2, c3, c4]) t) ∧
          Hid (∀ (i : Nat), j ≤ i → i < L → At5 wr W0.heap.size (i * 5) (.int .i64 0) (.int .i64 0) (.int .u64 0) (.string ⟨#[]⟩) (.slice none 0 0))) (fun i _ => L - (intOf i).toNat)
      case atStart => exact ⟨0, Nat.zero_le _, rfl, bel1 _ _, (by show _ < _; simp), (fun o => HfrM.out M o), (fun i t h => absurd h (Nat.not_lt_zero _)), fun i _ h => HMA.out i h⟩
      case round =>
        obtain ⟨j, hj, rfl, HB, HG, HFr, HD, HZ⟩ := hrel
        by_cases hlt : j < L
        · have hlj : j < l.length := by rw [HLL.out]; exact hlt
          obtain ⟨B, o, c0, c1, c2, c3, c4, rfl, h5, hi⟩ := HR.out j _ (List.getElem?_eq_getElem hlj)
          obtain ⟨k', x', b', s', a', m', c', rfl, rfl, rfl, rfl, rfl⟩ := hi.shape
          have hbw := bel2 HBB.out HB.out
          obtain ⟨e0, e1, e2, e3, e4⟩ := h5.below hbw
          have HI := hi.below hbw
          have HC0 : Hid (∀ W, Below wr.heap.size wr W → _) := fun W (hB : Below wr.heap.size wr W) => HIH.out _ _ W (HI.below hB) (HSm.out j _ (List.getElem?_eq_getElem hlj))
          have hjl : (j : Int) < (L : Int) := by omega
          clear hi h5 HI hbw Q4 q0 q1 q2 q3 q4
          go_wp2_with fail
          refine Calls.mono (HC0.out _ (bel1 _ _)) ?_
          rintro e w1 ⟨⟨v1, rfl, hn1⟩, hb1⟩
          have hb2 := bel2 (bel1 wr _) hb1
          have hsz : wr.heap.size ≤ w1.heap.size := hb2.size
          obtain ⟨k1, x1, b1, s1, a1, m1, c1, rfl⟩ := hn1.shape
          obtain ⟨z0, z1, z2, z3, z4⟩ := (HZ.out j (Nat.le_refl _) hlt).below hb2
          have HN1 : Hid (IsN (W0.heap.size + 1) w1 n (.agg #[.int .i64 k1, .int .i64 x1, .int .u64 b1, .string s1, .slice a1 m1 c1]) l[j]) := hn1.lower (by have := HG.out; simp; omega)
          have HB2 : Hid (Below wr.heap.size wr w1) := hb2
          have HB1 : Hid (Below W0.heap.size W0 w1) := bel2 HB.out hb2
          have HG1 : Hid (W0.heap.size < w1.heap.size) := Nat.lt_of_lt_of_le HG.out hsz
          have hfr : ∀ o, w1.frozen? ⟨W0.heap.size, o, none⟩ = false := fun o => (hb2.frozen HG.out).trans (HFr.out o)
          have g0 := hfr (j * 5)
          have g1 := hfr (j * 5 + 1)
          have g2 := hfr (j * 5 + 2)
          have g3 := hfr (j * 5 + 3)
          have g4 := hfr (j * 5 + 4)
          have HFr1 : Hid (∀ o, w1.frozen? ⟨W0.heap.size, o, none⟩ = false) := hfr
          clear hfr
          clear hb1 hb2 hn1 hsz HC0 e0 e1 e2 e3 e4
          have HW : Hid (wrap64 ((j : Int) + 1) = ((j + 1 : Nat) : Int)) := wr1 hlt (by have := HL.out; omega)
          go_wp2_with fail
          refine ⟨⟨j + 1, hlt, by first | rw [HW.out] | exact congrArg _ (Int.natCast_succ j).symm, ?_⟩, by first | exact meas hlt HW.out | exact meas hlt (Int.natCast_succ j).symm⟩
          have k5 := set5_kb w1 W0.heap.size (j * 5) (.int .i64 k1) (.int .i64 x1) (.int .u64 b1) (.string s1) (.slice a1 m1 c1)
          refine ⟨HB1.out.trans (k5.below (Nat.le_refl _) (Nat.le_of_lt HG1.out)), Nat.lt_of_lt_of_le HG1.out k5.2.2.2.1, (fun o => (set5_frozen _ _ _ _ _ _ _ _ _).trans (HFr1.out o)), ?_, ?_⟩
          · intro i t hi ht
            by_cases hij : i < j
            · obtain ⟨d0, d1, d2, d3, d4, h5, hn⟩ := HD.out i t hij ht
              exact ⟨d0, d1, d2, d3, d4, set5_beside (h5.below HB2.out) _ _ _ _ _ (by omega), (hn.kb (g := W0.heap.size) (KB.of_below HB2.out) (by omega)).kb k5 (by omega)⟩
            · obtain rfl : i = j := by omega
              rw [List.getElem?_eq_getElem hlj] at ht
              cases ht
              exact ⟨_, _, _, _, _, set5_at (⟨z0, z1, z2, z3, z4⟩ : At5 w1 W0.heap.size (i * 5) _ _ _ _ _) _ _ _ _ _, HN1.out.kb k5 (by omega)⟩
          · intro i hi hil
            exact set5_beside ((HZ.out i (by omega) hil).below HB2.out) _ _ _ _ _ (by omega)
        · obtain rfl : j = L := by omega
          have hz := HSZ.out
          obtain ⟨q0, q1, q2, q3, q4⟩ := P1.out.below HB.out
          have HP2 : Hid (At5 wr (w.heap.size + 1) 0 _ _ _ _ _) := P2.out.below HB.out
          obtain ⟨z0, z1, z2, z3, z4⟩ := P2.out.below HB.out
          have g1 : ∀ o, wr.frozen? ⟨w.heap.size, o, none⟩ = false := fun o => (HB.out.frozen (p := ⟨w.heap.size, o, none⟩) (by show w.heap.size < _; omega)).trans (F1.out o)
          have g2 : ∀ o, wr.frozen? ⟨w.heap.size + 1, o, none⟩ = false := fun o => (HB.out.frozen (p := ⟨w.heap.size + 1, o, none⟩) (by show w.heap.size + 1 < _; omega)).trans (F2.out o)
          have y4 := g1 4
          have y0 := g2 0
          have y1 := g2 1
          have y2 := g2 2
          have y3 := g2 3
          have y5 := g2 4
          clear hz g1 g2 Q4
          go_wp2_with fail
          have hz := HSZ.out
          have hbs := HB.out.size
          have kb1 := KB.setCell w.heap.size wr 4 (.slice (some ⟨W0.heap.size, 0, none⟩) j j)
          have kb2 := set5_kb (wr.setCell ⟨w.heap.size, 4, none⟩ (.slice (some ⟨W0.heap.size, 0, none⟩) j j)) (w.heap.size + 1) 0 (.int .i64 k) (.int .i64 x) (.int .u64 b) (.string s) (.slice (some ⟨W0.heap.size, 0, none⟩) j j)
          refine bodyPost_ret (ret5 Try.results53 _ (g := w.heap.size + 1) rfl (set5_at (HP2.out.kb kb1 (by omega)) _ _ _ _ _)) rfl ?_
          refine ⟨⟨_, rfl, some ⟨W0.heap.size, 0, none⟩, j, by rw [HLL.out], by rw [HLL.out]; exact ⟨HF.out.k0, HF.out.k1, HF.out.x0, HF.out.x1, HF.out.b0, HF.out.b1, HF.out.s1, Nat.le_refl _, by have := HL.out; omega⟩, ?_⟩, ?_⟩
          · intro i t ht
            obtain ⟨c0, c1, c2, c3, c4, h5, hn⟩ := HD.out i t (by have := (List.getElem?_eq_some_iff.1 ht).1; rw [HLL.out] at this; exact this) ht
            have hfr : ∀ p, ((set5 (wr.setCell ⟨w.heap.size, 4, none⟩ (.slice (some ⟨W0.heap.size, 0, none⟩) j j)) (w.heap.size + 1) 0 (.int .i64 k) (.int .i64 x) (.int .u64 b) (.string s) (.slice (some ⟨W0.heap.size, 0, none⟩) j j))).frozen? ⟨W0.heap.size, p, none⟩ = false := fun p => by
              rw [set5_frozen, World.frozen?_setCell]
              exact HFr.out p
            exact ⟨W0.heap.size, 0, c0, c1, c2, c3, c4, rfl, ⟨by omega, hfr⟩, by rw [Nat.zero_add]; exact (h5.kb kb1 (by omega)).kb kb2 (by omega), ((hn.kb kb1 (by omega)).kb kb2 (by omega)).lower (by omega)⟩
          · exact ((bel2 HBB.out HB.out).trans (kb1.below (Nat.le_refl _) (by omega))).trans (kb2.below (by omega) (by have := kb1.2.2.2.1; omega))
end Go.Proofs.Ytocjgcjechhehaa
