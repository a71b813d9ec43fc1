/- The contracts of the reference's SameTexts and Same. -/
import Derived.Test.YtomkoajhjijplaaRDb
import Derived.Test.YtomkoajhjijplaaGA
import Derived.BigQuiet
namespace Go.Proofs.Ytomkoajhjijplaa
open Go.ChangeShapes Go.WideShapes Go.ChangeAt Go.RowKit
theorem str_inj {l m : List UInt8} (h : str l = str m) : l = m := by
  have := congrArg (fun s : ByteArray => s.data.toList) h
  simpa [str] using this
set_option maxHeartbeats 2000000 in
theorem rtexts_calls (v v2 : Value) (l l2 : List (List UInt8)) (w : World) (hr : LR w v l) (hr2 : LR w v2 l2) :
    Calls Try.prog 49 #[v, v2] w fun e w' => (∃ r : Bool, e = .returned (.bool r) ∧ (r = true ↔ l = l2)) ∧ Below w.heap.size w w' := by
  obtain ⟨a, c, rfl, hc, hr⟩ := hr
  obtain ⟨a2, c2, rfl, _, hr2⟩ := hr2
  have HR : Hid (∀ (i : Nat) p, l[i]? = some p → ∃ B o x, a = some ⟨B, o, none⟩ ∧ w.cell? ⟨B, o + i, none⟩ = some x ∧ Lib.HoldsBytes w x p) := hr
  have HR2 : Hid (∀ (i : Nat) p, l2[i]? = some p → ∃ B o x, a2 = some ⟨B, o, none⟩ ∧ w.cell? ⟨B, o + i, none⟩ = some x ∧ Lib.HoldsBytes w x p) := hr2
  have HC : Hid (l.length ≤ 9223372036854775807) := hc
  clear hr hr2 hc
  by_cases hd : l.length = l2.length
  · rw [← hd]
    have HL : Hid (l.length = l2.length) := hd
    clear hd
    go_enter Try.func49, Try.ntmps49
    go_wp2_with fail
    go_loopw [5] (fun i wr => ∃ j : Nat, j ≤ l.length ∧ i = .int .i64 j ∧ Hid (l.take j = l2.take j) ∧ Hid (Below w.heap.size w wr)) (fun i _ => l.length - (intOf i).toNat)
    case atStart => exact ⟨0, Nat.zero_le _, rfl, rfl, Below.refl _ _⟩
    case round =>
      obtain ⟨j, hj, rfl, HE, HB⟩ := hrel
      by_cases hlt : j < l.length
      · have HL2 : Hid (j < l2.length) := HL.out ▸ hlt
        obtain ⟨p, hkp⟩ : ∃ f, l[j] = f := ⟨_, rfl⟩
        obtain ⟨p2, hkp2⟩ : ∃ f, l2[j]'HL2.out = f := ⟨_, rfl⟩
        obtain ⟨B, o, x, rfl, h0, hx⟩ := HR.out j p (by rw [List.getElem?_eq_getElem hlt, hkp])
        obtain ⟨B', o', x2, rfl, h0', hx'⟩ := HR2.out j p2 (by rw [List.getElem?_eq_getElem HL2.out, hkp2])
        have HKP : Hid (l[j] = p ∧ l2[j]'HL2.out = p2) := ⟨hkp, hkp2⟩
        clear hkp hkp2
        obtain ⟨xa, xn, xc, rfl⟩ : ∃ p n c, x = .slice p n c := by obtain ⟨p, c, rfl, _⟩ := hx; exact ⟨_, _, _, rfl⟩
        obtain ⟨ya, yn, yc, rfl⟩ : ∃ p n c, x2 = .slice p n c := by obtain ⟨p, c, rfl, _⟩ := hx'; exact ⟨_, _, _, rfl⟩
        have HB2 : Hid (Below w.heap.size w wr.drew) := HB.out.drew
        have cv := conv_row (holds_below hx HB2.out)
        have cv2 := conv_row (holds_below hx' HB2.out)
        have g0 := cell_below h0 HB.out
        have g0' := cell_below h0' HB.out
        have HI : Hid (str p = str p2 ↔ p = p2) := ⟨str_inj, fun h => by rw [h]⟩
        generalize str p = s at cv HI
        generalize str p2 = s2 at cv2 HI
        have HW : Hid (wrap64 ((j : Int) + 1) = ((j + 1 : Nat) : Int)) := wr1 hlt HC.out
        have hjl : (j : Int) < (l.length : Int) := by omega
        clear hx hx' h0 h0'
        by_cases he : s = s2
        · subst he
          have HPP : Hid (p = p2) := HI.out.1 rfl
          go_wp2_with fail
          go_region
          go_wp2_with fail
          exact ⟨⟨j + 1, hlt, by rw [HW.out], take_more hlt HL2.out HE.out (by rw [HKP.out.1, HKP.out.2, HPP.out]), HB2⟩, meas hlt HW.out⟩
        · have HNE : Hid (¬ (l = l2)) := fun h => by
            subst h
            exact he (HI.out.2 (HKP.out.1.symm.trans HKP.out.2))
          have hs : (s.toList == s2.toList) = false := beq_eq_false_iff_ne.2 (fun h => he (tl_inj h))
          go_wp2_with fail
          go_region
          go_wp2_with fail
          go_ret
          exact ⟨⟨false, rfl, ⟨fun h => (by cases h), fun h => absurd h HNE.out⟩⟩, HB2.out⟩
      · obtain rfl : j = l.length := by omega
        go_wp2_with fail
        go_ret
        have h := HE.out
        rw [List.take_length, HL.out, List.take_length] at h
        exact ⟨⟨true, rfl, ⟨fun _ => h, fun _ => rfl⟩⟩, HB.out⟩
  · have hd' : ((l.length : Int) != (l2.length : Int)) = true := by simp; omega
    go_enter Try.func49, Try.ntmps49
    go_wp2_with fail
    go_ret
    exact ⟨⟨false, rfl, ⟨fun h => (by cases h), fun h => absurd (congrArg List.length h) hd⟩⟩, Below.refl _ _⟩
set_option maxHeartbeats 4000000 in
set_option maxRecDepth 100000 in
theorem rsame_calls (v v2 : Value) (b b2 : Bt) (w : World) (h : BIs w v b) (h2 : BIs w v2 b2) :
    Calls Try.prog 15 #[v, v2] w fun e w' => (∃ r : Bool, e = .returned (.bool r) ∧ (r = true ↔ b = b2)) ∧ Below w.heap.size w w' := by
  obtain ⟨rp, rn, rc, wa, wd, rfl, hr, hn, hw⟩ := h
  obtain ⟨rp2, rn2, rc2, wa2, wd2, rfl, hr2, hn2, hw2⟩ := h2
  obtain ⟨key, ex, row, ws⟩ := b
  obtain ⟨key2, ex2, row2, ws2⟩ := b2
  dsimp only at hr hn hw hr2 hn2 hw2 ⊢
  have HRo : Hid (Lib.HoldsBytes w (.slice rp rn rc) row ∧ Lib.HoldsBytes w (.slice rp2 rn2 rc2) row2) := ⟨hr, hr2⟩
  have HWR : Hid (WR w wa ws) := hw
  have HWR2 : Hid (WR w wa2 ws2) := hw2
  have HC : Hid (ws.length ≤ 9223372036854775807) := hn
  have HIs : Hid (str row = str row2 ↔ row = row2) := ⟨str_inj, fun h => by rw [h]⟩
  have b0 := (Bk.new w #[.string key, .int .i64 ex, .slice rp rn rc, .slice wa ws.length wd] 25).below (bel1 _ (.cells #[.string key2, .int .i64 ex2, .slice rp2 rn2 rc2, .slice wa2 ws2.length wd2] 25))
  have b1 := Bk.new (w.alloc (.cells #[.string key, .int .i64 ex, .slice rp rn rc, .slice wa ws.length wd] 25)) #[.string key2, .int .i64 ex2, .slice rp2 rn2 rc2, .slice wa2 ws2.length wd2] 25
  have hz : (w.alloc (.cells #[.string key, .int .i64 ex, .slice rp rn rc, .slice wa ws.length wd] 25)).heap.size = w.heap.size + 1 := by simp
  rw [hz] at b1
  have hbb : Below w.heap.size w ((w.alloc (.cells #[.string key, .int .i64 ex, .slice rp rn rc, .slice wa ws.length wd] 25)).alloc (.cells #[.string key2, .int .i64 ex2, .slice rp2 rn2 rc2, .slice wa2 ws2.length wd2] 25)) := bel2 (bel1 _ _) (bel1 _ _)
  obtain ⟨W0, hW0⟩ : ∃ W0, W0 = (w.alloc (.cells #[.string key, .int .i64 ex, .slice rp rn rc, .slice wa ws.length wd] 25)).alloc (.cells #[.string key2, .int .i64 ex2, .slice rp2 rn2 rc2, .slice wa2 ws2.length wd2] 25) := ⟨_, rfl⟩
  rw [← hW0] at b0 b1 hbb
  have HW0 : Hid (W0 = _) := hW0
  have HB0 : Hid (Bk W0 w.heap.size #[.string key, .int .i64 ex, .slice rp rn rc, .slice wa ws.length wd] 25) := b0
  have HB1 : Hid (Bk W0 (w.heap.size + 1) #[.string key2, .int .i64 ex2, .slice rp2 rn2 rc2, .slice wa2 ws2.length wd2] 25) := b1
  have HBB : Hid (Below w.heap.size w W0) := hbb
  have cv := conv_row (holds_below hr hbb)
  have cv2 := conv_row (holds_below hr2 hbb)
  generalize str row = s at cv HIs
  generalize str row2 = s2 at cv2 HIs
  clear hr hn hw hr2 hn2 hw2 hz hW0 b0 b1 hbb
  generalize hPO : (fun (e : Ending) (w' : World) => (∃ r : Bool, e = .returned (.bool r) ∧ (r = true ↔ Bt.mk key ex row ws = Bt.mk key2 ex2 row2 ws2)) ∧ Below w.heap.size w w') = PO
  have HPo : Hid (∀ r w', (r = true ↔ Bt.mk key ex row ws = Bt.mk key2 ex2 row2 ws2) → Below w.heap.size w w' → PO (.returned (.bool r)) w') := fun r w' h1 h2 => by rw [← hPO]; exact ⟨⟨r, rfl, h1⟩, h2⟩
  clear hPO
  go_enter Try.func15, Try.ntmps15
  go_upto_region 1 with fail
  rw [← HW0.out]
  clear HW0
  have x0 : W0.cell? ⟨w.heap.size, 0, none⟩ = some (Value.string key) := HB0.out.cell 0
  have x1 : W0.cell? ⟨w.heap.size, 1, none⟩ = some (Value.int .i64 ex) := HB0.out.cell 1
  have x2 : W0.cell? ⟨w.heap.size, 2, none⟩ = some (Value.slice rp rn rc) := HB0.out.cell 2
  have x3 : W0.cell? ⟨w.heap.size, 3, none⟩ = some (Value.slice wa ws.length wd) := HB0.out.cell 3
  have y0 : W0.cell? ⟨w.heap.size + 1, 0, none⟩ = some (Value.string key2) := HB1.out.cell 0
  have y1 : W0.cell? ⟨w.heap.size + 1, 1, none⟩ = some (Value.int .i64 ex2) := HB1.out.cell 1
  have y2 : W0.cell? ⟨w.heap.size + 1, 2, none⟩ = some (Value.slice rp2 rn2 rc2) := HB1.out.cell 2
  have y3 : W0.cell? ⟨w.heap.size + 1, 3, none⟩ = some (Value.slice wa2 ws2.length wd2) := HB1.out.cell 3
  by_cases hk : key = key2
  · subst hk
    by_cases hx : ex = ex2
    · subst hx
      by_cases hs : s = s2
      · subst hs
        obtain rfl : row = row2 := HIs.out.1 rfl
        by_cases hl : ws.length = ws2.length
        · rw [← hl] at y3 HB1
          have HL : Hid (ws.length = ws2.length) := hl
          obtain ⟨N, hN⟩ : ∃ N, N = ws.length := ⟨_, rfl⟩
          rw [← hN] at x3 y3 HB0 HB1
          have HN : Hid (N = ws.length) := hN
          clear hl hN
          go_wp2_with fail
          clear x0 x1 x2 x3 y0 y1 y2 y3 cv cv2
          go_loopw [5] (fun i wr => ∃ j : Nat, j ≤ N ∧ i = .int .i64 (j : Int) ∧ Hid (ws.take j = ws2.take j) ∧ Hid (Below W0.heap.size W0 wr)) (fun i _ => N - (intOf i).toNat)
          case atStart => exact ⟨0, Nat.zero_le _, rfl, rfl, Below.refl _ _⟩
          case round =>
            obtain ⟨j, hj, rfl, HE, HB⟩ := hrel
            have x3 : wr.cell? ⟨w.heap.size, 3, none⟩ = some (Value.slice wa N wd) := (HB0.out.below HB.out).cell 3
            have y3 : wr.cell? ⟨w.heap.size + 1, 3, none⟩ = some (Value.slice wa2 N wd2) := (HB1.out.below HB.out).cell 3
            by_cases hlt : j < N
            · have HJ : Hid (j < ws.length) := by have := HN.out; show _ < _; omega
              have HJ2 : Hid (j < ws2.length) := HL.out ▸ HJ.out
              obtain ⟨B, o, ev, rfl, h5, hi⟩ := HWR.out j _ (List.getElem?_eq_getElem HJ.out)
              obtain ⟨B', o', ev', rfl, h5', hi'⟩ := HWR2.out j _ (List.getElem?_eq_getElem HJ2.out)
              obtain ⟨t, ht⟩ : ∃ t, t = ws[j]'HJ.out := ⟨_, rfl⟩
              obtain ⟨t2, ht2⟩ : ∃ t, t = ws2[j]'HJ2.out := ⟨_, rfl⟩
              have HT : Hid (t = ws[j]'HJ.out ∧ t2 = ws2[j]'HJ2.out) := ⟨ht, ht2⟩
              rw [← ht] at h5 hi
              rw [← ht2] at h5' hi'
              clear ht ht2
              obtain ⟨br, fk, kp, ta, evs⟩ := t
              obtain ⟨br2, fk2, kp2, ta2, evs2⟩ := t2
              dsimp only at h5 hi h5' hi'
              have hbw := bel2 HBB.out HB.out
              have CT : Hid (∀ W, Below wr.heap.size wr W → Calls Try.prog 49 #[ev, ev'] W fun e w' => (∃ r : Bool, e = .returned (.bool r) ∧ (r = true ↔ evs = evs2)) ∧ Below W.heap.size W w') := fun W hB => rtexts_calls ev ev' evs evs2 W ((hi.below hbw).below hB) ((hi'.below hbw).below hB)
              obtain ⟨ea, ec, rfl, _⟩ := hi.shape
              obtain ⟨fa, fc, rfl, _⟩ := hi'.shape
              obtain ⟨e0, e1, e2, e3, e4⟩ := h5.below hbw
              obtain ⟨f0, f1, f2, f3, f4⟩ := h5'.below hbw
              have HW : Hid (wrap64 ((j : Int) + 1) = ((j + 1 : Nat) : Int)) := wr1 hlt (by have := HC.out; have := HN.out; omega)
              have hjl : (j : Int) < (N : Int) := by omega
              have x3a := fun X => cell_below x3 (bel1 wr X)
              have x3b := fun X Y => cell_below x3 (bel2 (bel1 wr X) (bel1 _ Y))
              have y3a := fun X => cell_below y3 (bel1 wr X)
              have y3b := fun X Y => cell_below y3 (bel2 (bel1 wr X) (bel1 _ Y))
              have e0a := fun X => cell_below e0 (bel1 wr X)
              have e0b := fun X Y => cell_below e0 (bel2 (bel1 wr X) (bel1 _ Y))
              have e1a := fun X => cell_below e1 (bel1 wr X)
              have e1b := fun X Y => cell_below e1 (bel2 (bel1 wr X) (bel1 _ Y))
              have e2a := fun X => cell_below e2 (bel1 wr X)
              have e2b := fun X Y => cell_below e2 (bel2 (bel1 wr X) (bel1 _ Y))
              have e3a := fun X => cell_below e3 (bel1 wr X)
              have e3b := fun X Y => cell_below e3 (bel2 (bel1 wr X) (bel1 _ Y))
              have e4a := fun X => cell_below e4 (bel1 wr X)
              have e4b := fun X Y => cell_below e4 (bel2 (bel1 wr X) (bel1 _ Y))
              have f0a := fun X => cell_below f0 (bel1 wr X)
              have f0b := fun X Y => cell_below f0 (bel2 (bel1 wr X) (bel1 _ Y))
              have f1a := fun X => cell_below f1 (bel1 wr X)
              have f1b := fun X Y => cell_below f1 (bel2 (bel1 wr X) (bel1 _ Y))
              have f2a := fun X => cell_below f2 (bel1 wr X)
              have f2b := fun X Y => cell_below f2 (bel2 (bel1 wr X) (bel1 _ Y))
              have f3a := fun X => cell_below f3 (bel1 wr X)
              have f3b := fun X Y => cell_below f3 (bel2 (bel1 wr X) (bel1 _ Y))
              have f4a := fun X => cell_below f4 (bel1 wr X)
              have f4b := fun X Y => cell_below f4 (bel2 (bel1 wr X) (bel1 _ Y))
              clear hi h5 hi' h5' hbw
              by_cases hd : br = br2 ∧ fk = fk2 ∧ kp = kp2 ∧ ta = ta2
              · obtain ⟨rfl, rfl, rfl, rfl⟩ := hd
                go_wp2_with fail
                go_region
                all_goals clear x3 x3a x3b y3 y3a y3b e0 e0a e0b e1 e1a e1b e2 e2a e2b e3 e3a e3b e4 e4a e4b f0 f0a f0b f1 f1a f1b f2 f2a f2b f3 f3a f3b f4 f4a f4b
                all_goals go_wp2_with fail
                all_goals (refine (CT.out _ (bel2 (Below.refl _ wr).drew (bel2 (bel1 _ _) (bel1 _ _)))).mono ?_; rintro e w9 ⟨⟨r1, rfl, hr1⟩, hb9⟩; have HB9 : Hid (Below W0.heap.size W0 w9) := bel2 HB.out (bel2 (bel2 (Below.refl _ wr).drew (bel2 (bel1 _ _) (bel1 _ _))) hb9); have HR1 : Hid (r1 = true ↔ evs = evs2) := hr1; clear hb9 hr1 CT; cases r1)
                all_goals go_wp2_with fail
                all_goals first
                  | exact HPo.out _ _ ⟨fun h => (by cases h), fun h => by
                      have h1 : ws = ws2 := by cases h; rfl
                      subst h1
                      have h2 := HT.out.1.trans HT.out.2.symm
                      cases h2
                      exact HR1.out.2 rfl⟩ (bel2 HBB.out HB9.out)
                  | exact ⟨⟨j + 1, hlt, by rw [HW.out], take_more HJ.out HJ2.out HE.out (by rw [← HT.out.1, ← HT.out.2, HR1.out.1 (by trivial)]), HB9⟩, meas hlt HW.out⟩
              · have he : Hid (¬ (Bt.mk key ex row ws = Bt.mk key ex row ws2)) := fun h => by
                  have h1 : ws = ws2 := by cases h; rfl
                  subst h1
                  have h2 := HT.out.1.trans HT.out.2.symm
                  cases h2
                  exact hd ⟨rfl, rfl, rfl, rfl⟩
                clear CT
                go_wp2_with fail
                go_region
                all_goals clear x3 x3a x3b y3 y3a y3b e0 e0a e0b e1 e1a e1b e2 e2a e2b e3 e3a e3b e4 e4a e4b f0 f0a f0b f1 f1a f1b f2 f2a f2b f3 f3a f3b f4 f4a f4b
                all_goals go_wp2_with fail
                all_goals first
                  | exact HPo.out _ _ ⟨fun h => (by cases h), fun h => absurd h he.out⟩ (bel2 HBB.out (bel2 HB.out (bel2 (Below.refl _ wr).drew (bel2 (bel1 _ _) (bel1 _ _)))))
                  | exact absurd ⟨tl_inj ‹br.toList = br2.toList›, tl_inj ‹fk.toList = fk2.toList›, ‹kp = kp2›, ‹ta = ta2›⟩ hd
            · obtain rfl : j = N := by omega
              go_wp2_with fail
              have h := HE.out
              rw [HN.out, List.take_length, HL.out, List.take_length] at h
              subst h
              exact HPo.out _ _ ⟨fun _ => rfl, fun _ => rfl⟩ (bel2 HBB.out HB.out)
        · have hd' : ((ws.length : Int) != (ws2.length : Int)) = true := by simp; omega
          have he : ¬ (Bt.mk key ex row ws = Bt.mk key ex row ws2) := fun h => by cases h; exact hl rfl
          go_wp2_with fail
          exact HPo.out _ _ ⟨fun h => (by cases h), fun h => absurd h he⟩ HBB.out
      · have he : ¬ (Bt.mk key ex row ws = Bt.mk key ex row2 ws2) := fun h => hs (HIs.out.2 (by cases h; rfl))
        have hs2 : (s.toList == s2.toList) = false := beq_eq_false_iff_ne.2 (fun h => hs (tl_inj h))
        go_wp2_with fail
        exact HPo.out _ _ ⟨fun h => (by cases h), fun h => absurd h he⟩ HBB.out
    · have he : ¬ (Bt.mk key ex row ws = Bt.mk key ex2 row2 ws2) := fun h => hx (by cases h; rfl)
      have hs2 : (ex != ex2) = true := by simpa using hx
      go_wp2_with fail
      exact HPo.out _ _ ⟨fun h => (by cases h), fun h => absurd h he⟩ HBB.out
  · have he : ¬ (Bt.mk key ex row ws = Bt.mk key2 ex2 row2 ws2) := fun h => hk (by cases h; rfl)
    have hs2 : (key.toList == key2.toList) = false := beq_eq_false_iff_ne.2 (fun h => hk (tl_inj h))
    go_wp2_with fail
    exact HPo.out _ _ ⟨fun h => (by cases h), fun h => absurd h he⟩ HBB.out
end Go.Proofs.Ytomkoajhjijplaa
