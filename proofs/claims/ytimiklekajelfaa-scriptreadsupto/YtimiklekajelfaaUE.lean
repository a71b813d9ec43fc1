/- The contract of the reference's Parse. -/
import Derived.Test.YtimiklekajelfaaUD
namespace Go.Proofs.Ytimiklekajelfaa
open Go.ChangeShapes Go.WideShapes Go.ChangeAt Go.RowKit
/-- How much the reference's reader has left, read off its cell. -/
def leftR (g : Nat) (w : World) : Nat := match w.cell? ⟨g, 0, none⟩ with
  | some (.slice _ n _) => n
  | _ => 0
theorem left_rt {w : World} {g h : Nat} {l : List UInt8} {e : Int} (r : RT w g h l e) : leftR g w = l.length := by
  obtain ⟨p, c, a0, _⟩ := r
  unfold leftR; rw [a0]
set_option maxHeartbeats 1000000 in
set_option maxRecDepth 100000 in
theorem rparse_calls (v : Value) (b : List UInt8) (w : World) (hv : Lib.HoldsBytes w v b) (hl : b.length ≤ 1099511627776) :
    Calls Try.prog 16 #[v] w fun e w' => ∃ u, e = .returned u ∧ GrS w.heap.size (fun B => w.heap.size ≤ B) w' u (parseB b) ∧ Below w.heap.size w w' := by
  have OC : Hid (Calls Try.prog 24 #[v] w _) := ropen_calls v b w hv (by omega)
  have HBL : Hid (b.length ≤ 1099511627776) := hl
  obtain ⟨pv, nv, cv, rfl⟩ : ∃ a m c, v = .slice a m c := by obtain ⟨p, cap, rfl, q1, q2⟩ := hv; exact ⟨_, _, _, rfl⟩
  clear hv hl
  by_cases hb0 : b = []
  · subst hb0
    go_enter Try.func16, Try.ntmps16
    go_wp2_with fail
    refine OC.out.mono ?_
    rintro e w1 ⟨g, h, rfl, _, _, r1, b1⟩
    have LC : Hid (Calls Try.prog 36 #[.pointer (some ⟨g, 0, none⟩)] w1 _) := rleft_rt w1 g h [] 0 r1
    have B1 : Hid (Below w.heap.size w w1) := b1
    have HM : Hid (leftR g w1 = 0) := left_rt r1
    clear r1 b1 OC
    go_wp2_with fail
    go_loopw [3, 5, 6, 7] (fun u _ _ _ wr => u = .slice none 0 0 ∧ wr = w1) (fun _ _ _ _ wr => leftR g wr)
    case atStart => exact ⟨rfl, rfl⟩
    case round =>
      obtain ⟨rfl, rfl⟩ := hrel
      go_wp2_with fail
      refine LC.out.mono ?_
      rintro e w2 ⟨rfl, hw2⟩
      have hw2' := hw2.symm
      subst hw2'
      clear hw2
      go_wp2_with fail
      go_ret
      exact ⟨_, rfl, GrS.nil _ _ _, B1.out⟩
  · have HB0 : Hid (b ≠ []) := hb0
    have HTL : Hid ((tx b).length ≤ b.length) := tx_len _ _
    clear hb0
    go_enter Try.func16, Try.ntmps16
    go_wp2_with fail
    refine OC.out.mono ?_
    rintro e w1 ⟨g, h, rfl, hg, hh, r1, b1⟩
    have HG : Hid (w.heap.size ≤ g ∧ w.heap.size ≤ h) := ⟨hg, hh⟩
    have R1 : Hid (RT w1 g h b 0) := r1
    have B1 : Hid (Below w.heap.size w w1) := b1
    have HZ1 : Hid (g < w1.heap.size ∧ h < w1.heap.size ∧ h ≠ g) := by
      obtain ⟨p, c, a0, a1, f0, f1, hlc, hne, hbk, he⟩ := r1
      obtain ⟨o, _, hcell⟩ := hbk HB0.out
      obtain ⟨x, t, hx⟩ := List.exists_cons_of_ne_nil HB0.out
      exact ⟨World.block_lt_of_cell? w1 ⟨g, 0, none⟩ a0, World.block_lt_of_cell? w1 _ (hcell 0 x (by rw [hx]; rfl)), hne⟩
    clear r1 b1 hg hh OC
    go_wp2_with fail
    go_loopw [3, 5, 6, 7] (fun u _ _ _ wr => ∃ (pre : List (List UInt8)) (rest : List UInt8) (au : Option Addr) (cu : Nat), u = .slice au (pre.filterMap stB).length cu ∧ Hid (RT wr g h rest 0) ∧ Hid (GrS w.heap.size (fun B => w.heap.size ≤ B ∧ B ≠ g) wr (.slice au (pre.filterMap stB).length cu) (pre.filterMap stB)) ∧ Hid ((Value.slice au (pre.filterMap stB).length cu).ownBlock ≠ some g ∧ (Value.slice au (pre.filterMap stB).length cu).ownBlock ≠ some h) ∧ Hid (tx b = pre ++ tx rest) ∧ Hid (pre.length + rest.length ≤ b.length) ∧ Hid (Below w.heap.size w wr) ∧ Hid (w1.heap.size ≤ wr.heap.size)) (fun _ _ _ _ wr => leftR g wr)
    case atStart => exact ⟨[], b, none, 0, rfl, R1, GrS.nil _ _ _, (by exact ⟨by simp [Value.ownBlock], by simp [Value.ownBlock]⟩), rfl, (by show _ ≤ _; simp), B1, Nat.le_refl _⟩
    case round =>
      obtain ⟨pre, rest, au, cu, rfl, HR, HGr, HO, HT, HLn, HB, HZ⟩ := hrel
      have LC : Hid (Calls Try.prog 36 #[.pointer (some ⟨g, 0, none⟩)] wr _) := rleft_rt wr g h rest 0 HR.out
      have HM : Hid (leftR g wr = rest.length) := left_rt HR.out
      by_cases hr : rest = []
      · subst hr
        have HPB : Hid (parseB b = pre.filterMap stB) := by show _ = _; unfold parseB; rw [HT.out, tx_nil, List.append_nil]
        go_wp2_with fail
        refine LC.out.mono ?_
        rintro e w2 ⟨rfl, hw2⟩
        have hw2' := hw2.symm
        subst hw2'
        clear hw2
        go_wp2_with fail
        go_ret
        exact ⟨_, rfl, by rw [HPB.out]; exact HGr.out.keep (fun _ _ _ => rfl) (fun _ h => h.1), HB.out⟩
      · have hpos : 0 < rest.length := List.length_pos_iff.2 hr
        have T0 := rtext_rt wr g h rest 0 32768 HR.out
        have TL := sText_le 32768 (by decide) rest 0
        have HT1 : Hid ((sText 32768 rest 0).2.2 = 0 → tx b = (pre ++ [(sText 32768 rest 0).1]) ++ tx (sText 32768 rest 0).2.1 ∧ (sText 32768 rest 0).2.1.length < rest.length) := fun h0 => ⟨by rw [HT.out, tx_more hr h0]; simp, sText_lt hr h0⟩
        have HT2 : Hid ((sText 32768 rest 0).2.2 ≠ 0 → parseB b = pre.filterMap stB) := fun h0 => by unfold parseB; rw [HT.out, tx_end hr h0, List.append_nil]
        generalize (sText 32768 rest 0).1 = Y at T0 TL HT1
        generalize (sText 32768 rest 0).2.1 = l2 at T0 HT1
        generalize (sText 32768 rest 0).2.2 = e2 at T0 HT1 HT2
        have TS : Hid (Calls Try.prog 26 #[.pointer (some ⟨g, 0, none⟩), .int .i64 32768] wr (Rr wr g h (.string (str Y)) l2 e2)) := T0
        have HTLY : Hid ((Y.length : Int) ≤ 32768) := TL
        obtain ⟨L, hL⟩ : ∃ L, L = rest.length := ⟨_, rfl⟩
        rw [← hL] at LC hpos
        have hgt2 : (0 : Int) < (L : Int) := by omega
        have HLr : Hid (L = rest.length) := hL
        clear T0 TL hr hL hpos
        go_wp2_with fail
        refine LC.out.mono ?_
        rintro e w2 ⟨rfl, hw2⟩
        have hw2' := hw2.symm
        subst hw2'
        clear hw2
        go_wp2_with fail
        refine TS.out.mono ?_
        rintro e w3 ⟨rfl, r3, k3⟩
        have R3 : Hid (RT w3 g h l2 e2) := r3
        have G3 : Hid (GrS w.heap.size (fun B => w.heap.size ≤ B ∧ B ≠ g) w3 (.slice au (pre.filterMap stB).length cu) (pre.filterMap stB)) := HGr.out.keepC fun B o hB ho _ => k3.2.2.2.2 B (Array.getElem?_eq_some_iff.1 ho).1 (by
          rcases hB with hB | hB
          · exact hB.2
          · intro e; subst e; exact HO.out.1 hB)
        have B3 : Hid (Below w.heap.size w w3) := HB.out.trans (k3.below HG.out.1 HB.out.size)
        have Z3 : Hid (w1.heap.size ≤ w3.heap.size) := Nat.le_trans HZ.out k3.2.2.2.1
        have EC : Hid (Calls Try.prog 27 #[.pointer (some ⟨g, 0, none⟩)] w3 _) := rerr_rt w3 g h l2 e2 r3
        clear r3 k3 TS LC HGr
        by_cases he : e2 = 0
        · have d0 : (e2 != 0) = false := by simp [he]
          subst he
          obtain ⟨q1, q2⟩ := HT1.out rfl
          have HQ1 : Hid (tx b = (pre ++ [Y]) ++ tx l2) := q1
          have HQ2 : Hid (l2.length < L) := by show _ < _; have := HLr.out; omega
          obtain ⟨cap, w4, hcv, hl4, hb4⟩ := conv_hl Y w3 (by have := HTLY.out; omega)
          have SC0 := rstep_calls w4 (.slice (some ⟨w3.heap.size, 0, none⟩) Y.length cap) Y hl4.bytes (by have := HTLY.out; omega)
          have HSB : Hid (stB Y = if (stR Y).2 then some (stR Y).1 else none) := rfl
          generalize stR Y = R at SC0 HSB
          obtain ⟨⟨k, s, nn, bb, ks⟩, ok⟩ := R
          have SC : Hid (Calls Try.prog 10 #[.slice (some ⟨w3.heap.size, 0, none⟩) Y.length cap] w4 (StP w4 (⟨k, s, nn, bb, ks⟩, ok))) := SC0
          have HFL : Hid ((pre.filterMap stB).length ≤ pre.length) := List.length_filterMap_le _ _
          have HPL : Hid (pre.length ≤ 1099511627776) := by show _ ≤ _; have := HLn.out; have := HBL.out; omega
          have HB4 : Hid (Below w3.heap.size w3 w4) := hb4
          clear SC0 q1 q2 hl4 hb4
          cases ok with
          | false =>
            have HN : Hid ((pre ++ [Y]).filterMap stB = pre.filterMap stB) := by show _ = _; rw [List.filterMap_append]; have := HSB.out; simp at this; simp [this]
            go_wp2_with fail
            refine EC.out.mono ?_
            rintro e w5 ⟨rfl, hw5⟩
            have hw5' := hw5.symm
            subst hw5'
            clear hw5
            go_wp2_with fail
            refine SC.out.mono ?_
            rintro e w6 ⟨vb, vk, rfl, hi6, hb6⟩
            obtain ⟨pb, cb, rfl, _⟩ := hi6.1.shape
            obtain ⟨pk, ck, rfl, _⟩ := hi6.2.shape
            have hb7 : Below w3.heap.size w3 (w6.alloc (.cells #[.int .i64 k, .int .i64 s, .int .i64 nn, .slice pb bb.length cb, .slice pk ks.length ck] 28)) := HB4.out.trans ((hb6.mono HB4.out.size).trans ((bel1 w6 _).mono (Nat.le_trans HB4.out.size hb6.size)))
            have R7 : Hid (RT (w6.alloc (.cells #[.int .i64 k, .int .i64 s, .int .i64 nn, .slice pb bb.length cb, .slice pk ks.length ck] 28)) g h l2 0) := R3.out.keep (hb7.block g (by have := Z3.out; have := HZ1.out; omega)) (hb7.block h (by have := Z3.out; have := HZ1.out; omega))
            have G7 : Hid (GrS w.heap.size (fun B => w.heap.size ≤ B ∧ B ≠ g) (w6.alloc (.cells #[.int .i64 k, .int .i64 s, .int .i64 nn, .slice pb bb.length cb, .slice pk ks.length ck] 28)) (.slice au (pre.filterMap stB).length cu) (pre.filterMap stB)) := G3.out.below hb7
            have B7 : Hid (Below w.heap.size w (w6.alloc (.cells #[.int .i64 k, .int .i64 s, .int .i64 nn, .slice pb bb.length cb, .slice pk ks.length ck] 28))) := bel2 B3.out hb7
            have Z7 : Hid (w1.heap.size ≤ (w6.alloc (.cells #[.int .i64 k, .int .i64 s, .int .i64 nn, .slice pb bb.length cb, .slice pk ks.length ck] 28)).heap.size) := Nat.le_trans Z3.out hb7.size
            clear hi6 hb6 hb7 SC EC
            unfold rowS
            dsimp only
            go_wp2_with fail
            refine ⟨⟨pre ++ [Y], l2, au, cu, by rw [HN.out], R7, (by show GrS _ _ _ _ _; rw [HN.out]; exact G7.out), (by show _ ∧ _; rw [HN.out]; exact HO.out), HQ1, (by show _ ≤ _; have := HLn.out; have := HQ2.out; have := HLr.out; rw [List.length_append]; simp; omega), B7, Z7⟩, ?_⟩
            rw [HM.out, left_rt R7.out]
            have := HQ2.out
            have := HLr.out
            omega
          | true =>
            have HN : Hid ((pre ++ [Y]).filterMap stB = pre.filterMap stB ++ [⟨k, s, nn, bb, ks⟩]) := by show _ = _; rw [List.filterMap_append]; have := HSB.out; simp at this; simp [this]
            go_wp2_with fail
            refine EC.out.mono ?_
            rintro e w5 ⟨rfl, hw5⟩
            have hw5' := hw5.symm
            subst hw5'
            clear hw5
            go_wp2_with fail
            refine SC.out.mono ?_
            rintro e w6 ⟨vb, vk, rfl, hi6, hb6⟩
            obtain ⟨pb, cb, rfl, _⟩ := hi6.1.shape
            obtain ⟨pk, ck, rfl, _⟩ := hi6.2.shape
            have hb36 : Below w3.heap.size w3 w6 := HB4.out.trans (hb6.mono HB4.out.size)
            have hb8 : Below w3.heap.size w3 ((w6.alloc (.cells #[.int .i64 k, .int .i64 s, .int .i64 nn, .slice pb bb.length cb, .slice pk ks.length ck] 28)).alloc (.cells #[.int .i64 k, .int .i64 s, .int .i64 nn, .slice pb bb.length cb, .slice pk ks.length ck] 28)) := (hb36.alloc hb36.size _).alloc (by have := hb36.size; simp; omega) _
            have hz3 := B3.out.size
            have hz4 := HB4.out.size
            have hlt := G3.out.lt
            obtain ⟨u', w9, hr9, g9, b9, k9, e9⟩ := GrS.app (src := w6.heap.size + 1) (x := ⟨k, s, nn, bb, ks⟩) (G3.out.below hb8) (box_at' _ _ (by simp) _ _ _ _ _)
              (hi6.keep fun B hB hl => ⟨((below_alloc (w6.alloc (.cells #[.int .i64 k, .int .i64 s, .int .i64 nn, .slice pb bb.length cb, .slice pk ks.length ck] 28)) (.cells #[.int .i64 k, .int .i64 s, .int .i64 nn, .slice pb bb.length cb, .slice pk ks.length ck] 28)).block B (by simp; omega)).trans ((below_alloc w6 _).block B hl), ⟨by have hB' : w4.heap.size ≤ B := hB; omega, by have hB' : w4.heap.size ≤ B := hB; have := Z3.out; have := HZ1.out; omega⟩, fun e => by have := (hlt B e).2; have hB' : w4.heap.size ≤ B := hB; omega⟩)
              (by have := hb8.size; omega) (by have := HFL.out; have := HPL.out; omega)
            obtain ⟨ys, hys⟩ : ∃ ys : List Sp, ys = pre.filterMap stB ++ [⟨k, s, nn, bb, ks⟩] := ⟨_, rfl⟩
            rw [← hys] at g9 HN
            obtain ⟨pu', cu', rfl, _⟩ := g9.shape
            have hzz := Z3.out
            have hz1 := HZ1.out
            have kk : ∀ B, B < w3.heap.size → (Value.slice au (pre.filterMap stB).length cu).ownBlock ≠ some B → w9.heap[B]? = w3.heap[B]? := fun B hB hn => (k9 B (by have := hb8.size; omega) hn).trans (hb8.block B hB)
            have R9 : Hid (RT w9 g h l2 0) := R3.out.keep (kk g (by omega) HO.out.1) (kk h (by omega) HO.out.2)
            have G9 : Hid (GrS w.heap.size (fun B => w.heap.size ≤ B ∧ B ≠ g) w9 (.slice pu' ys.length cu') ys) := g9
            have B9 : Hid (Below w.heap.size w w9) := (bel2 B3.out hb8).trans b9
            have Z9 : Hid (w1.heap.size ≤ w9.heap.size) := Nat.le_trans Z3.out (Nat.le_trans hb8.size b9.size)
            have O9 : Hid ((Value.slice pu' ys.length cu').ownBlock ≠ some g ∧ (Value.slice pu' ys.length cu').ownBlock ≠ some h) := by
              show _ ∧ _
              have hz8 := hb8.size
              rcases e9 with e | e
              · rw [e]; exact HO.out
              · rw [e]
                exact ⟨fun e2 => by injection e2 with e2; omega, fun e2 => by injection e2 with e2; omega⟩
            obtain ⟨o0, o1, o2, o3, o4⟩ := box_at w6 (.int .i64 k) (.int .i64 s) (.int .i64 nn) (.slice pb bb.length cb) (.slice pk ks.length ck)
            clear hi6 hb6 hb36 hb8 SC EC g9 b9 k9 e9 kk hlt hys hz3 hz4 hzz hz1
            unfold rowS
            dsimp only
            go_wp2_with (at_builtin; refine Lib.wpList_append_run _ rfl _ _ 22 22 rfl _ _ rfl rfl _ _ (hr9 _) ?_)
            refine ⟨⟨pre ++ [Y], l2, pu', cu', by rw [HN.out], R9, (by show GrS _ _ _ _ _; rw [HN.out]; exact G9.out), (by show _ ∧ _; rw [HN.out]; exact O9.out), HQ1, (by show _ ≤ _; have := HLn.out; have := HQ2.out; have := HLr.out; rw [List.length_append]; simp; omega), B9, Z9⟩, ?_⟩
            rw [HM.out, left_rt R9.out]
            have := HQ2.out
            have := HLr.out
            omega
        · have d0 : (e2 != 0) = true := by simpa using he
          have HPB : Hid (parseB b = pre.filterMap stB) := HT2.out he
          clear he
          go_wp2_with fail
          refine EC.out.mono ?_
          rintro e w5 ⟨rfl, hw5⟩
          have hw5' := hw5.symm
          subst hw5'
          clear hw5
          go_wp2_with fail
          go_ret
          exact ⟨_, rfl, by rw [HPB.out]; exact G3.out.keep (fun _ _ _ => rfl) (fun _ h => h.1), B3.out⟩
end Go.Proofs.Ytimiklekajelfaa
