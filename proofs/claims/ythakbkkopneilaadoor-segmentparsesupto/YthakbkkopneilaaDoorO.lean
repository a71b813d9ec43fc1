/- The contract of the reference's Parse. -/
import Derived.Test.YthakbkkopneilaaDoorB
namespace Go.Proofs.YthakbkkopneilaaDoor
open Go.ChangeShapes Go.WideShapes Go.ChangeAt Go.RowKit
theorem less_more {L J a b : Nat} (h : J + a ≤ L) (ha : 0 < a) (e : J + a = b) : L - b < L - J := by omega
set_option maxHeartbeats 4000000 in
set_option maxRecDepth 100000 in
theorem rparse_some (v : Value) (l p : List UInt8) (w : World) (hn : takeL l 0 1 = some p) (hv : Hb w v l) (hl : l.length ≤ 1000000000) : Calls Tryd.prog 16 #[v] w (PX w l (parseL l)) := by
  have HV : Hid (Hb w v l) := hv
  have HL : Hid (l.length ≤ 1000000000) := hl
  have N1 : Hid (∀ W, Below w.heap.size w W → Calls Tryd.prog 34 #[v] W (NX W (nextL (l.drop 0)))) := fun W hW => by rw [List.drop_zero]; exact rnext_calls v l W (hv.below hW) (by omega)
  obtain ⟨va, vc, rfl, _, _⟩ := hv
  obtain ⟨A, hA⟩ : ∃ A, A = PK.sNum 9223372036854775807 p 0 := ⟨_, rfl⟩
  obtain ⟨D, hD⟩ : ∃ D, D = PK.sNum 9223372036854775807 A.2.1 A.2.2 := ⟨_, rfl⟩
  obtain ⟨En, hEn⟩ : ∃ En, En = PK.en D.2.1 D.2.2 := ⟨_, rfl⟩
  have HH : Hid (headOf l = if En = 0 ∧ 1 ≤ A.1 then some (A.1, D.1, 9 + p.length) else none) := by show _ = _; unfold headOf; rw [hn]; simp only; rw [← hA, ← hD, ← hEn]
  have hok := takeL_ok hn
  obtain ⟨e1, e2, e3, e4⟩ := take_some hn
  have HPl : Hid (9 + p.length ≤ l.length ∧ p.length ≤ 1048576) := ⟨by omega, hok.2⟩
  have HA : Hid (A = _) := hA
  have HD : Hid (D = _) := hD
  have HEn : Hid (En = _) := hEn
  clear hl hn hok hA hD hEn
  go_enter Tryd.func16, Tryd.ntmps16
  go_wp2_with fail
  refine (N1.out _ (below_alloc w _)).mono ?_
  intro e w1 h1
  obtain ⟨xa, xn, xc, rfl, ox1, hb1⟩ := h1.flat
  rw [e3] at ox1
  rw [e1, e2, e4]
  rw [show ((1 : UInt8).toNat : Int) = 1 from rfl]
  have Z1 : SegAt w1 w.heap.size (.int .i64 0) (.int .i64 0) (.bool false) (.slice none 0 0) (.slice none 0 0) (.int .i64 0) (.bool false) := by
    unfold SegAt; rw [hb1.block _ (by simp)]; exact heap_last w _
  have B1 : Below w.heap.size w w1 := (below_alloc w _).trans (hb1.mono (by simp))
  obtain ⟨W1, hW1⟩ : ∃ W1, W1 = w1.alloc (Obj.cells #[.int .i64 1, .slice xa xn xc] 57) := ⟨_, rfl⟩
  have S1 : Hid (SegAt W1 w.heap.size (.int .i64 0) (.int .i64 0) (.bool false) (.slice none 0 0) (.slice none 0 0) (.int .i64 0) (.bool false)) := by
    rw [hW1]; exact Z1.below (below_alloc w1 _)
  have BB1 : Hid (Below w.heap.size w W1) := by show Below _ _ _; rw [hW1]; exact B1.alloc B1.size _
  have F1 : Hid (W1.heap[w1.heap.size]? = some (Obj.cells #[.int .i64 1, .slice xa xn xc] 57 (0, 0))) := by show _ = _; rw [hW1]; exact heap_last w1 _
  have GF : Hid (w.heap.size < w1.heap.size) := by have h := hb1.size; simp at h; show _ < _; omega
  have GG : Hid (w1.heap.size < W1.heap.size) := by show _ < _; rw [hW1]; simp
  have OC : Hid (Calls Tryd.prog 35 #[.slice xa xn xc] W1 _) := PK.ropen_calls (.slice xa xn xc) p W1 (by rw [hW1]; exact (ox1.below (below_alloc w1 _)).holds) (by have := HPl.out.2; omega)
  obtain ⟨gf, hgf⟩ : ∃ gf, gf = w1.heap.size := ⟨_, rfl⟩
  rw [← hgf] at F1 GF GG
  have HW1 : Hid (W1 = w1.alloc (Obj.cells #[.int .i64 1, .slice xa xn xc] 57)) := hW1
  have HGf : Hid (gf = w1.heap.size) := hgf
  clear h1 ox1 hb1 Z1 B1 hW1 e1 e2 e3 e4 hgf
  obtain ⟨M, hM⟩ : ∃ M, M = 9 + p.length := ⟨_, rfl⟩
  rw [← hM] at HH HPl ⊢
  clear hM
  go_wp2_with fail
  rw [← HW1.out, ← HGf.out]
  refine OC.out.mono ?_
  rintro e w2 ⟨rg, rh, rfl, h1, h2, rt, hb2⟩
  have RG : Hid (w.heap.size < gf ∧ gf < rg ∧ gf < rh) := ⟨GF.out, Nat.lt_of_lt_of_le GG.out h1, Nat.lt_of_lt_of_le GG.out h2⟩
  have S2 : Hid (SegAt w2 w.heap.size (.int .i64 0) (.int .i64 0) (.bool false) (.slice none 0 0) (.slice none 0 0) (.int .i64 0) (.bool false)) := S1.out.below hb2
  have BB2 : Hid (Below w.heap.size w w2) := BB1.out.trans (hb2.mono BB1.out.size)
  have F2 : Hid (w2.heap[gf]? = some (Obj.cells #[.int .i64 1, .slice xa xn xc] 57 (0, 0))) := by show _ = _; rw [hb2.block _ GG.out]; exact F1.out
  have C1 : Hid (Calls Tryd.prog 36 #[.pointer (some ⟨rg, 0, none⟩), .int .i64 9223372036854775807] w2 (PK.Rr w2 rg rh (.int .i64 A.1) A.2.1 A.2.2)) := by rw [HA.out]; exact PK.rnum_rt w2 rg rh p 0 9223372036854775807 rt
  have HGw : Hid (gf < w2.heap.size) := Nat.lt_of_lt_of_le GG.out hb2.size
  clear h1 h2 rt hb2 HW1 HGf F1 S1 BB1 OC N1
  go_wp2_with fail
  refine C1.out.mono ?_
  rintro e w3 ⟨rfl, rt3, kb3⟩
  have S3 : Hid (SegAt w3 w.heap.size (.int .i64 0) (.int .i64 0) (.bool false) (.slice none 0 0) (.slice none 0 0) (.int .i64 0) (.bool false)) := S2.out.kb kb3 (by have := RG.out; omega)
  have BB3 : Hid (Below w.heap.size w w3) := kb_below BB2.out kb3 BB2.out.size (by have := RG.out; omega)
  have F3 : Hid (w3.heap[gf]? = some (Obj.cells #[.int .i64 1, .slice xa xn xc] 57 (0, 0))) := by show _ = _; rw [kb3.2.2.2.2 _ HGw.out (by have := RG.out; omega)]; exact F2.out
  have C2 : Hid (Calls Tryd.prog 36 #[.pointer (some ⟨rg, 0, none⟩), .int .i64 9223372036854775807] w3 (PK.Rr w3 rg rh (.int .i64 D.1) D.2.1 D.2.2)) := by rw [HD.out]; exact PK.rnum_rt w3 rg rh A.2.1 A.2.2 9223372036854775807 rt3
  have HGw3 : Hid (gf < w3.heap.size) := Nat.lt_of_lt_of_le HGw.out kb3.2.2.2.1
  clear rt3 kb3 C1 S2 BB2 F2 HGw
  go_wp2_with fail
  refine C2.out.mono ?_
  rintro e w4 ⟨rfl, rt4, kb4⟩
  have s4 : SegAt w4 w.heap.size (.int .i64 0) (.int .i64 0) (.bool false) (.slice none 0 0) (.slice none 0 0) (.int .i64 0) (.bool false) := S3.out.kb kb4 (by have := RG.out; omega)
  have b4 : Below w.heap.size w w4 := kb_below BB3.out kb4 BB3.out.size (by have := RG.out; omega)
  have f4 : w4.heap[gf]? = some (Obj.cells #[.int .i64 1, .slice xa xn xc] 57 (0, 0)) := by rw [kb4.2.2.2.2 _ HGw3.out (by have := RG.out; omega)]; exact F3.out
  have hgw4 : gf < w4.heap.size := Nat.lt_of_lt_of_le HGw3.out kb4.2.2.2.1
  obtain ⟨W5, hW5⟩ : ∃ W5, W5 = w4.alloc (Obj.cells #[.int .i64 A.1, .int .i64 D.1, .bool false, .slice none 0 0, .slice none 0 0, .int .i64 0, .bool false] 30) := ⟨_, rfl⟩
  have b45 : Below w4.heap.size w4 W5 := by rw [hW5]; exact below_alloc _ _
  have S5 : Hid (SegAt W5 w.heap.size (.int .i64 0) (.int .i64 0) (.bool false) (.slice none 0 0) (.slice none 0 0) (.int .i64 0) (.bool false)) := s4.below b45
  have BB5 : Hid (Below w.heap.size w W5) := b4.trans (b45.mono b4.size)
  have F5 : Hid (W5.heap[gf]? = some (Obj.cells #[.int .i64 1, .slice xa xn xc] 57 (0, 0))) := by show _ = _; rw [b45.block _ hgw4]; exact f4
  have G5 : Hid (SegAt W5 w4.heap.size (.int .i64 A.1) (.int .i64 D.1) (.bool false) (.slice none 0 0) (.slice none 0 0) (.int .i64 0) (.bool false)) := by rw [hW5]; exact heap_last w4 _
  obtain ⟨gs, hgs⟩ : ∃ gs, gs = w4.heap.size := ⟨_, rfl⟩
  rw [← hgs] at G5
  have rlt : rg < w4.heap.size ∧ rh < w4.heap.size ∨ True := Or.inr trivial
  have C3 : Hid (Calls Tryd.prog 37 #[.pointer (some ⟨rg, 0, none⟩)] W5 fun x w' => x = .returned (.int .i64 En) ∧ w' = W5) := by
    rw [HEn.out]
    have kb : PK.KB W5.heap.size w4 W5 := PK.KB.of_below b45
    obtain ⟨q, c, r⟩ := rt4
    have r1 : rg < w4.heap.size := World.block_lt_of_cell? w4 ⟨rg, 0, none⟩ r.1
    refine PK.rend_rt W5 rg rh D.2.1 D.2.2 (PK.RT.kb ⟨q, c, r⟩ (g' := W5.heap.size + rh + 1) (PK.KB.of_below b45) ?_ (by omega))
    have := b45.size
    omega
  have RG5 : Hid (w.heap.size < gf ∧ gf < gs ∧ w.heap.size < gs ∧ gs < W5.heap.size) := by have := RG.out; refine ⟨RG.out.1, by omega, by omega, ?_⟩; rw [hW5]; simp; omega
  have HW5 : Hid (W5 = w4.alloc (Obj.cells #[.int .i64 A.1, .int .i64 D.1, .bool false, .slice none 0 0, .slice none 0 0, .int .i64 0, .bool false] 30)) := hW5
  have HGs : Hid (gs = w4.heap.size) := hgs
  clear rt4 kb4 C2 S3 BB3 F3 HGw3 s4 b4 f4 hgw4 b45 hgs hW5 rlt
  go_wp2_with fail
  rw [← HW5.out, ← HGs.out]
  refine C3.out.mono ?_
  rintro e w6 ⟨rfl, hw6⟩
  have hw7 := hw6.symm
  subst hw7
  clear hw6
  have u0 : W5.cell? ⟨gs, 0, none⟩ = some (.int .i64 A.1) := by rw [G5.out.cell 0]; rfl
  by_cases hE : En = 0
  · have dE : (En != 0) = false := by simp [hE]
    by_cases hA1 : 1 ≤ A.1
    · have dA : decide (A.1 < 1) = false := decide_eq_false (by omega)
      have HHd : Hid (headOf l = some (A.1, D.1, M)) := by show _ = _; rw [HH.out, if_pos ⟨hE, hA1⟩]
      clear hE hA1
      obtain ⟨vr0, er0, qr0⟩ := cut_l M HV.out HPl.out.1
      have NC : Hid (Calls Tryd.prog 34 #[vr0] W5 (NX W5 (nextL (l.drop M)))) := rnext_calls vr0 (l.drop M) W5 (qr0 W5 (HV.out.below BB5.out)) (by have := HL.out; simp; omega)
      have hMb : (M : Int) ≤ 1000000000 := by have := HL.out; have := HPl.out.1; omega
      clear qr0
      go_wp2_with fail
      refine NC.out.mono ?_
      intro e w6 h6
      obtain ⟨ya, yn, yc, rfl, oy, hb6⟩ := h6.flat
      have hgf5 : gf < W5.heap.size := by have := RG5.out; omega
      have s6 := G5.out.below hb6
      have g6 := S5.out.below hb6
      have f6 : w6.heap[gf]? = some (Obj.cells #[.int .i64 1, .slice xa xn xc] 57 (0, 0)) := by rw [hb6.block _ hgf5]; exact F5.out
      have b6 := BB5.out.trans (hb6.mono BB5.out.size)
      have oy6 := oy.lower BB5.out.size
      have q0 : w6.cell? ⟨gf, 0, none⟩ = some (.int .i64 1) := by rw [cell_of_row _ _ 0 _ 57 (0, 0) f6]; rfl
      have q1 : w6.cell? ⟨gf, 1, none⟩ = some (.slice xa xn xc) := by rw [cell_of_row _ _ 1 _ 57 (0, 0) f6]; rfl
      have r0 := frozen_of_row w6 gf 0 _ 57 f6
      have r1 := frozen_of_row w6 gf 1 _ 57 f6
      cases hn2 : takeL l M 2 with
      | none =>
        have HN := take_none hn2
        rw [show ((2 : UInt8).toNat : Int) = 2 from rfl] at HN
        have HPL : Hid (parseL l = some (A.1, D.1, none, recsL l M, M + rwide (recsL l M))) := by show _ = _; unfold parseL; rw [HHd.out]; simp only; rw [hn2]
        generalize nk (nextL (l.drop M)) = K2 at HN oy ⊢
        generalize nc (nextL (l.drop M)) = C2 at HN oy ⊢
        generalize nn (nextL (l.drop M)) = M2 at HN oy ⊢
        have k7 : w6.heap[gf]? = some _ := f6
        have f7 : (w6.setCell ⟨gf, 0, none⟩ (.int .i64 K2)).heap[gf]? = some (Obj.cells #[.int .i64 K2, .slice xa xn xc] 57 (0, 0)) := heap_setCell_same w6 gf 0 _ 57 _ f6
        have kt7 : KT (fun t => t ≠ 57) w6 ((w6.setCell ⟨gf, 0, none⟩ (.int .i64 K2)).setCell ⟨gf, 1, none⟩ (.slice ya yn yc)) := (KT.set f6 0 _).trans (KT.set f7 1 _)
        have S7 : Hid (SegAt _ gs _ _ _ _ _ _ _) := s6.kt kt7 (by decide)
        have G7 : Hid (SegAt _ w.heap.size _ _ _ _ _ _ _) := g6.kt kt7 (by decide)
        have B7 : Hid (Below w.heap.size w ((w6.setCell ⟨gf, 0, none⟩ (.int .i64 K2)).setCell ⟨gf, 1, none⟩ (.slice ya yn yc))) := (b6.setCell (p := ⟨gf, _, none⟩) (by have := RG5.out; show _ ≤ gf; omega) _).setCell (p := ⟨gf, _, none⟩) (by have := RG5.out; show _ ≤ gf; omega) _
        have HZ0 : Hid (M ≤ l.length) := HPl.out.1
        clear h6 oy hb6 hn2 s6 g6 f6 f7 b6 oy6 kt7 k7 hgf5
        obtain ⟨z0, hz0⟩ : ∃ z0, z0 = M := ⟨_, rfl⟩
        rw [← hz0] at HPL HZ0 hMb ⊢
        have HZM : Hid (z0 = M) := hz0
        have er1 := er0
        rw [← hz0] at er1
        clear er0 hz0
        rcases HN with hc | ⟨hc, hk⟩
        · have dc : (C2 == 0) = false := by simp [hc]
          go_wp2_with fail
          go_loopw [5] (fun i wr => ∃ (acc : List (List UInt8)) (R : Value), i = .int .i64 ((z0 + rwide acc : Nat) : Int) ∧ Hid (SegAt wr gs (.int .i64 A.1) (.int .i64 D.1) (.bool false) (.slice none 0 0) R (.int .i64 0) (.bool false)) ∧ Hid (SegAt wr w.heap.size (.int .i64 0) (.int .i64 0) (.bool false) (.slice none 0 0) (.slice none 0 0) (.int .i64 0) (.bool false)) ∧ Hid (Own w.heap.size wr (.slice none 0 0) []) ∧ Hid (Ls w.heap.size wr R acc) ∧ Hid (z0 + rwide acc ≤ l.length) ∧ Hid (recsL l z0 = acc ++ recsL l (z0 + rwide acc)) ∧ Hid (Below w.heap.size w wr)) (fun i _ => l.length - (intOf i).toNat)
          case atStart => exact ⟨[], _, rfl, S7, G7, Own.nil _ _, Ls.nil _ _, HZ0, by show _ = _; simp [rwide], B7⟩
          case round =>
            obtain ⟨acc, R, rfl, HSr, HGr, HOr, HLr, HZ, HE, HBr⟩ := hrel
            obtain ⟨vr, er, qr⟩ := cut_l (z0 + rwide acc) HV.out HZ.out
            have NC : Hid (Calls Tryd.prog 34 #[vr] wr (NX wr (nextL (l.drop (z0 + rwide acc))))) := rnext_calls vr (l.drop (z0 + rwide acc)) wr (qr wr (HV.out.below HBr.out)) (by have := HL.out; simp; omega)
            have hjb : ((z0 + rwide acc : Nat) : Int) ≤ 1000000000 := by have := HL.out; have := HZ.out; omega
            obtain ⟨Ra, Rn, Rc, rfl⟩ := HLr.out.shape
            clear qr
            obtain ⟨J, hJ⟩ : ∃ J, J = z0 + rwide acc := ⟨_, rfl⟩
            rw [← hJ] at er NC hjb HZ ⊢
            have HJ : Hid (J = z0 + rwide acc) := hJ
            clear hJ
            go_wp2_with fail
            refine NC.out.mono ?_
            intro e w8 h8
            obtain ⟨ua, un, uc, rfl, ou, hb8⟩ := h8.flat
            have s8 := HSr.out.below hb8
            have g8 := HGr.out.below hb8
            have o8 := HOr.out.below hb8
            have l8 := HLr.out.kt (S := fun _ => True) (KT.below hb8) trivial trivial
            have b8 := HBr.out.trans (hb8.mono HBr.out.size)
            cases hn3 : takeL l J 3 with
            | none =>
              have HE2 : Hid (recsL l z0 = acc) := by show _ = _; rw [HE.out, ← HJ.out, recsL_none hn3, List.append_nil]
              have HN := take_none hn3
              rw [show ((3 : UInt8).toNat : Int) = 3 from rfl] at HN
              generalize nk (nextL (l.drop J)) = K3 at HN ou ⊢
              generalize nc (nextL (l.drop J)) = C3 at HN ou ⊢
              generalize nn (nextL (l.drop J)) = M3 at HN ou ⊢
              clear h8 ou hb8 hn3
              rcases HN with hc | ⟨hc, hk⟩
              · have dc : (C3 != 0) = true := by simp [hc]
                go_upto_region 17 with fail
                have sA : SegAt (w8.alloc (Obj.cells #[.int .i64 K3, .slice ua un uc] 57)) gs (.int .i64 A.1) (.int .i64 D.1) (.bool false) (.slice none 0 0) (.slice Ra Rn Rc) (.int .i64 0) (.bool false) := s8.below (below_alloc w8 _)
                have gA : SegAt (w8.alloc (Obj.cells #[.int .i64 K3, .slice ua un uc] 57)) w.heap.size (.int .i64 0) (.int .i64 0) (.bool false) (.slice none 0 0) (.slice none 0 0) (.int .i64 0) (.bool false) := g8.below (below_alloc w8 _)
                have oA : Own w.heap.size (w8.alloc (Obj.cells #[.int .i64 K3, .slice ua un uc] 57)) (.slice none 0 0) [] := o8.below (below_alloc w8 _)
                have lA : Ls w.heap.size (w8.alloc (Obj.cells #[.int .i64 K3, .slice ua un uc] 57)) (.slice Ra Rn Rc) acc := l8.kt (S := fun _ => True) (KT.below (below_alloc w8 _)) trivial trivial
                have bA : Below w.heap.size w (w8.alloc (Obj.cells #[.int .i64 K3, .slice ua un uc] 57)) := b8.alloc b8.size _
                generalize (w8.alloc (Obj.cells #[.int .i64 K3, .slice ua un uc] 57)) = WA at sA gA oA lA bA ⊢
                have HP : Hid (parseL l = some (A.1, D.1, none, acc, J)) := by show _ = _; rw [HPL.out, HE2.out, HJ.out]
                obtain ⟨tb, htb⟩ : ∃ tb, tb = decide (J < l.length) := ⟨_, rfl⟩
                have HTB : Hid (tb = decide (J < l.length)) := htb
                have q5 : WA.cell? ⟨gs, 5, none⟩ = some (.int .i64 0) := by rw [sA.cell 5]; rfl
                have q6 : WA.cell? ⟨gs, 6, none⟩ = some (.bool false) := by rw [sA.cell 6]; rfl
                have f5 := sA.free 5
                have f6 := sA.free 6
                have sB : SegAt (WA.setCell ⟨gs, 5, none⟩ (.int .i64 (J : Int))) gs (.int .i64 A.1) (.int .i64 D.1) (.bool false) (.slice none 0 0) (.slice Ra Rn Rc) (.int .i64 (J : Int)) (.bool false) := sA.set 5 _
                have sC : SegAt ((WA.setCell ⟨gs, 5, none⟩ (.int .i64 (J : Int))).setCell ⟨gs, 6, none⟩ (.bool (decide (J < l.length)))) gs (.int .i64 A.1) (.int .i64 D.1) (.bool false) (.slice none 0 0) (.slice Ra Rn Rc) (.int .i64 (J : Int)) (.bool (decide (J < l.length))) := sB.set 6 _
                have kC : KT (fun t => t ≠ 30) WA ((WA.setCell ⟨gs, 5, none⟩ (.int .i64 (J : Int))).setCell ⟨gs, 6, none⟩ (.bool (decide (J < l.length)))) := (KT.set sA 5 _).trans (KT.set sB 6 _)
                have hgne : w.heap.size ≠ gs := by have := RG5.out; omega
                have gC : SegAt ((WA.setCell ⟨gs, 5, none⟩ (.int .i64 (J : Int))).setCell ⟨gs, 6, none⟩ (.bool (decide (J < l.length)))) w.heap.size (.int .i64 0) (.int .i64 0) (.bool false) (.slice none 0 0) (.slice none 0 0) (.int .i64 0) (.bool false) := by unfold SegAt at gA ⊢; rw [Below.heap_setCell _ _ _ _ hgne, Below.heap_setCell _ _ _ _ hgne]; exact gA
                have HoC : Hid (Own w.heap.size ((WA.setCell ⟨gs, 5, none⟩ (.int .i64 (J : Int))).setCell ⟨gs, 6, none⟩ (.bool (decide (J < l.length)))) (.slice none 0 0) []) := oA.kt kC (by decide)
                have HlC : Hid (Ls w.heap.size ((WA.setCell ⟨gs, 5, none⟩ (.int .i64 (J : Int))).setCell ⟨gs, 6, none⟩ (.bool (decide (J < l.length)))) (.slice Ra Rn Rc) acc) := lA.kt kC (by decide) (by decide)
                have HbC : Hid (Below w.heap.size w ((WA.setCell ⟨gs, 5, none⟩ (.int .i64 (J : Int))).setCell ⟨gs, 6, none⟩ (.bool (decide (J < l.length))))) := (bA.setCell (p := ⟨gs, _, none⟩) (by have := RG5.out; show _ ≤ gs; omega) _).setCell (p := ⟨gs, _, none⟩) (by have := RG5.out; show _ ≤ gs; omega) _
                clear sA gA oA lA bA sB kC htb s8 g8 o8 l8 b8
                go_upto_region 19 with fail
                generalize ((WA.setCell ⟨gs, 5, none⟩ (.int .i64 (J : Int))).setCell ⟨gs, 6, none⟩ (.bool (decide (J < l.length)))) = WC at sC gC HoC HlC HbC ⊢
                clear q5 q6 f5 f6
                rw [← HTB.out] at sC
                have t0 : WC.cell? ⟨gs, 0, none⟩ = some (.int .i64 A.1) := by rw [sC.cell 0]; rfl
                have t1 : WC.cell? ⟨gs, 1, none⟩ = some (.int .i64 D.1) := by rw [sC.cell 1]; rfl
                have t2 : WC.cell? ⟨gs, 2, none⟩ = some (.bool false) := by rw [sC.cell 2]; rfl
                have t3 : WC.cell? ⟨gs, 3, none⟩ = some (.slice none 0 0) := by rw [sC.cell 3]; rfl
                have t4 : WC.cell? ⟨gs, 4, none⟩ = some (.slice Ra Rn Rc) := by rw [sC.cell 4]; rfl
                have t5 : WC.cell? ⟨gs, 5, none⟩ = some (.int .i64 (J : Int)) := by rw [sC.cell 5]; rfl
                have t6 : WC.cell? ⟨gs, 6, none⟩ = some (.bool tb) := by rw [sC.cell 6]; rfl
                obtain ⟨y0, y1, y2, y3, y4, y5, y6, z0', z1', z2', z3', z4', z5', z6'⟩ := gC.all
                have a0 : SegAt _ w.heap.size (.int .i64 A.1) (.int .i64 0) (.bool false) (.slice none 0 0) (.slice none 0 0) (.int .i64 0) (.bool false) := gC.set 0 (.int .i64 A.1)
                have a1 : SegAt _ w.heap.size (.int .i64 A.1) (.int .i64 D.1) (.bool false) (.slice none 0 0) (.slice none 0 0) (.int .i64 0) (.bool false) := a0.set 1 (.int .i64 D.1)
                have a2 : SegAt _ w.heap.size (.int .i64 A.1) (.int .i64 D.1) (.bool false) (.slice none 0 0) (.slice none 0 0) (.int .i64 0) (.bool false) := a1.set 2 (.bool false)
                have a3 : SegAt _ w.heap.size (.int .i64 A.1) (.int .i64 D.1) (.bool false) (.slice none 0 0) (.slice none 0 0) (.int .i64 0) (.bool false) := a2.set 3 (.slice none 0 0)
                have a4 : SegAt _ w.heap.size (.int .i64 A.1) (.int .i64 D.1) (.bool false) (.slice none 0 0) (.slice Ra Rn Rc) (.int .i64 0) (.bool false) := a3.set 4 (.slice Ra Rn Rc)
                have a5 : SegAt _ w.heap.size (.int .i64 A.1) (.int .i64 D.1) (.bool false) (.slice none 0 0) (.slice Ra Rn Rc) (.int .i64 (J : Int)) (.bool false) := a4.set 5 (.int .i64 (J : Int))
                have A6 : Hid (SegAt _ w.heap.size (.int .i64 A.1) (.int .i64 D.1) (.bool false) (.slice none 0 0) (.slice Ra Rn Rc) (.int .i64 (J : Int)) (.bool tb)) := a5.set 6 (.bool tb)
                have KC : KT (fun t => t ≠ 30) WC _ := (((((KT.set gC 0 (.int .i64 A.1)).trans (KT.set a0 1 (.int .i64 D.1))).trans (KT.set a1 2 (.bool false))).trans (KT.set a2 3 (.slice none 0 0))).trans (KT.set a3 4 (.slice Ra Rn Rc))).trans (KT.set a4 5 (.int .i64 (J : Int))) |>.trans (KT.set a5 6 (.bool tb))
                have OF := HoC.out.kt KC (by decide)
                have LF := HlC.out.kt KC (by decide) (by decide)
                have BF := ((((((HbC.out.setCell (p := ⟨w.heap.size, 0, none⟩) (Nat.le_refl _) (.int .i64 A.1)).setCell (p := ⟨w.heap.size, 1, none⟩) (Nat.le_refl _) (.int .i64 D.1)).setCell (p := ⟨w.heap.size, 2, none⟩) (Nat.le_refl _) (.bool false)).setCell (p := ⟨w.heap.size, 3, none⟩) (Nat.le_refl _) (.slice none 0 0)).setCell (p := ⟨w.heap.size, 4, none⟩) (Nat.le_refl _) (.slice Ra Rn Rc)).setCell (p := ⟨w.heap.size, 5, none⟩) (Nat.le_refl _) (.int .i64 (J : Int))).setCell (p := ⟨w.heap.size, 6, none⟩) (Nat.le_refl _) (.bool tb)
                have HF : Hid _ := And.intro OF (And.intro LF BF)
                clear sC gC a0 a1 a2 a3 a4 a5 KC OF LF BF
                go_wp2_with fail
                refine bodyPost_ret (ret16 _ rfl rfl A6.out) rfl ?_
                rw [HP.out]
                exact ⟨HF.out.2.2, (.slice none 0 0), .slice Ra Rn Rc, by rw [HTB.out]; rfl, HF.out.1, HF.out.2.1⟩
              · have dc : (C3 != 0) = false := by simp [hc]
                have dk : (K3 != 3) = true := by simpa using hk
                go_upto_region 17 with fail
                have sA : SegAt (w8.alloc (Obj.cells #[.int .i64 K3, .slice ua un uc] 57)) gs (.int .i64 A.1) (.int .i64 D.1) (.bool false) (.slice none 0 0) (.slice Ra Rn Rc) (.int .i64 0) (.bool false) := s8.below (below_alloc w8 _)
                have gA : SegAt (w8.alloc (Obj.cells #[.int .i64 K3, .slice ua un uc] 57)) w.heap.size (.int .i64 0) (.int .i64 0) (.bool false) (.slice none 0 0) (.slice none 0 0) (.int .i64 0) (.bool false) := g8.below (below_alloc w8 _)
                have oA : Own w.heap.size (w8.alloc (Obj.cells #[.int .i64 K3, .slice ua un uc] 57)) (.slice none 0 0) [] := o8.below (below_alloc w8 _)
                have lA : Ls w.heap.size (w8.alloc (Obj.cells #[.int .i64 K3, .slice ua un uc] 57)) (.slice Ra Rn Rc) acc := l8.kt (S := fun _ => True) (KT.below (below_alloc w8 _)) trivial trivial
                have bA : Below w.heap.size w (w8.alloc (Obj.cells #[.int .i64 K3, .slice ua un uc] 57)) := b8.alloc b8.size _
                generalize (w8.alloc (Obj.cells #[.int .i64 K3, .slice ua un uc] 57)) = WA at sA gA oA lA bA ⊢
                have HP : Hid (parseL l = some (A.1, D.1, none, acc, J)) := by show _ = _; rw [HPL.out, HE2.out, HJ.out]
                obtain ⟨tb, htb⟩ : ∃ tb, tb = decide (J < l.length) := ⟨_, rfl⟩
                have HTB : Hid (tb = decide (J < l.length)) := htb
                have q5 : WA.cell? ⟨gs, 5, none⟩ = some (.int .i64 0) := by rw [sA.cell 5]; rfl
                have q6 : WA.cell? ⟨gs, 6, none⟩ = some (.bool false) := by rw [sA.cell 6]; rfl
                have f5 := sA.free 5
                have f6 := sA.free 6
                have sB : SegAt (WA.setCell ⟨gs, 5, none⟩ (.int .i64 (J : Int))) gs (.int .i64 A.1) (.int .i64 D.1) (.bool false) (.slice none 0 0) (.slice Ra Rn Rc) (.int .i64 (J : Int)) (.bool false) := sA.set 5 _
                have sC : SegAt ((WA.setCell ⟨gs, 5, none⟩ (.int .i64 (J : Int))).setCell ⟨gs, 6, none⟩ (.bool (decide (J < l.length)))) gs (.int .i64 A.1) (.int .i64 D.1) (.bool false) (.slice none 0 0) (.slice Ra Rn Rc) (.int .i64 (J : Int)) (.bool (decide (J < l.length))) := sB.set 6 _
                have kC : KT (fun t => t ≠ 30) WA ((WA.setCell ⟨gs, 5, none⟩ (.int .i64 (J : Int))).setCell ⟨gs, 6, none⟩ (.bool (decide (J < l.length)))) := (KT.set sA 5 _).trans (KT.set sB 6 _)
                have hgne : w.heap.size ≠ gs := by have := RG5.out; omega
                have gC : SegAt ((WA.setCell ⟨gs, 5, none⟩ (.int .i64 (J : Int))).setCell ⟨gs, 6, none⟩ (.bool (decide (J < l.length)))) w.heap.size (.int .i64 0) (.int .i64 0) (.bool false) (.slice none 0 0) (.slice none 0 0) (.int .i64 0) (.bool false) := by unfold SegAt at gA ⊢; rw [Below.heap_setCell _ _ _ _ hgne, Below.heap_setCell _ _ _ _ hgne]; exact gA
                have HoC : Hid (Own w.heap.size ((WA.setCell ⟨gs, 5, none⟩ (.int .i64 (J : Int))).setCell ⟨gs, 6, none⟩ (.bool (decide (J < l.length)))) (.slice none 0 0) []) := oA.kt kC (by decide)
                have HlC : Hid (Ls w.heap.size ((WA.setCell ⟨gs, 5, none⟩ (.int .i64 (J : Int))).setCell ⟨gs, 6, none⟩ (.bool (decide (J < l.length)))) (.slice Ra Rn Rc) acc) := lA.kt kC (by decide) (by decide)
                have HbC : Hid (Below w.heap.size w ((WA.setCell ⟨gs, 5, none⟩ (.int .i64 (J : Int))).setCell ⟨gs, 6, none⟩ (.bool (decide (J < l.length))))) := (bA.setCell (p := ⟨gs, _, none⟩) (by have := RG5.out; show _ ≤ gs; omega) _).setCell (p := ⟨gs, _, none⟩) (by have := RG5.out; show _ ≤ gs; omega) _
                clear sA gA oA lA bA sB kC htb s8 g8 o8 l8 b8
                go_upto_region 19 with fail
                generalize ((WA.setCell ⟨gs, 5, none⟩ (.int .i64 (J : Int))).setCell ⟨gs, 6, none⟩ (.bool (decide (J < l.length)))) = WC at sC gC HoC HlC HbC ⊢
                clear q5 q6 f5 f6
                rw [← HTB.out] at sC
                have t0 : WC.cell? ⟨gs, 0, none⟩ = some (.int .i64 A.1) := by rw [sC.cell 0]; rfl
                have t1 : WC.cell? ⟨gs, 1, none⟩ = some (.int .i64 D.1) := by rw [sC.cell 1]; rfl
                have t2 : WC.cell? ⟨gs, 2, none⟩ = some (.bool false) := by rw [sC.cell 2]; rfl
                have t3 : WC.cell? ⟨gs, 3, none⟩ = some (.slice none 0 0) := by rw [sC.cell 3]; rfl
                have t4 : WC.cell? ⟨gs, 4, none⟩ = some (.slice Ra Rn Rc) := by rw [sC.cell 4]; rfl
                have t5 : WC.cell? ⟨gs, 5, none⟩ = some (.int .i64 (J : Int)) := by rw [sC.cell 5]; rfl
                have t6 : WC.cell? ⟨gs, 6, none⟩ = some (.bool tb) := by rw [sC.cell 6]; rfl
                obtain ⟨y0, y1, y2, y3, y4, y5, y6, z0', z1', z2', z3', z4', z5', z6'⟩ := gC.all
                have a0 : SegAt _ w.heap.size (.int .i64 A.1) (.int .i64 0) (.bool false) (.slice none 0 0) (.slice none 0 0) (.int .i64 0) (.bool false) := gC.set 0 (.int .i64 A.1)
                have a1 : SegAt _ w.heap.size (.int .i64 A.1) (.int .i64 D.1) (.bool false) (.slice none 0 0) (.slice none 0 0) (.int .i64 0) (.bool false) := a0.set 1 (.int .i64 D.1)
                have a2 : SegAt _ w.heap.size (.int .i64 A.1) (.int .i64 D.1) (.bool false) (.slice none 0 0) (.slice none 0 0) (.int .i64 0) (.bool false) := a1.set 2 (.bool false)
                have a3 : SegAt _ w.heap.size (.int .i64 A.1) (.int .i64 D.1) (.bool false) (.slice none 0 0) (.slice none 0 0) (.int .i64 0) (.bool false) := a2.set 3 (.slice none 0 0)
                have a4 : SegAt _ w.heap.size (.int .i64 A.1) (.int .i64 D.1) (.bool false) (.slice none 0 0) (.slice Ra Rn Rc) (.int .i64 0) (.bool false) := a3.set 4 (.slice Ra Rn Rc)
                have a5 : SegAt _ w.heap.size (.int .i64 A.1) (.int .i64 D.1) (.bool false) (.slice none 0 0) (.slice Ra Rn Rc) (.int .i64 (J : Int)) (.bool false) := a4.set 5 (.int .i64 (J : Int))
                have A6 : Hid (SegAt _ w.heap.size (.int .i64 A.1) (.int .i64 D.1) (.bool false) (.slice none 0 0) (.slice Ra Rn Rc) (.int .i64 (J : Int)) (.bool tb)) := a5.set 6 (.bool tb)
                have KC : KT (fun t => t ≠ 30) WC _ := (((((KT.set gC 0 (.int .i64 A.1)).trans (KT.set a0 1 (.int .i64 D.1))).trans (KT.set a1 2 (.bool false))).trans (KT.set a2 3 (.slice none 0 0))).trans (KT.set a3 4 (.slice Ra Rn Rc))).trans (KT.set a4 5 (.int .i64 (J : Int))) |>.trans (KT.set a5 6 (.bool tb))
                have OF := HoC.out.kt KC (by decide)
                have LF := HlC.out.kt KC (by decide) (by decide)
                have BF := ((((((HbC.out.setCell (p := ⟨w.heap.size, 0, none⟩) (Nat.le_refl _) (.int .i64 A.1)).setCell (p := ⟨w.heap.size, 1, none⟩) (Nat.le_refl _) (.int .i64 D.1)).setCell (p := ⟨w.heap.size, 2, none⟩) (Nat.le_refl _) (.bool false)).setCell (p := ⟨w.heap.size, 3, none⟩) (Nat.le_refl _) (.slice none 0 0)).setCell (p := ⟨w.heap.size, 4, none⟩) (Nat.le_refl _) (.slice Ra Rn Rc)).setCell (p := ⟨w.heap.size, 5, none⟩) (Nat.le_refl _) (.int .i64 (J : Int))).setCell (p := ⟨w.heap.size, 6, none⟩) (Nat.le_refl _) (.bool tb)
                have HF : Hid _ := And.intro OF (And.intro LF BF)
                clear sC gC a0 a1 a2 a3 a4 a5 KC OF LF BF
                go_wp2_with fail
                refine bodyPost_ret (ret16 _ rfl rfl A6.out) rfl ?_
                rw [HP.out]
                exact ⟨HF.out.2.2, (.slice none 0 0), .slice Ra Rn Rc, by rw [HTB.out]; rfl, HF.out.1, HF.out.2.1⟩
            | some p3 =>
              obtain ⟨d1, d2, d3, d4⟩ := take_some hn3
              have hok3 := takeL_ok hn3
              rw [d1, d2, d4]
              rw [d3] at ou
              rw [show ((3 : UInt8).toNat : Int) = 3 from rfl]
              have HE3 : Hid (recsL l z0 = (acc ++ [p3]) ++ recsL l (z0 + rwide (acc ++ [p3]))) := by
                show _ = _
                rw [HE.out, ← HJ.out, recsL_some hn3, rwide_append, HJ.out, List.append_assoc]
                simp [rwide, Nat.add_assoc]
              have e3 : J + (9 + p3.length) = z0 + rwide (acc ++ [p3]) := by rw [rwide_append, HJ.out]; simp [rwide]; omega
              have hz3 : z0 + rwide (acc ++ [p3]) ≤ l.length := by rw [← e3]; exact hok3.1
              have HZ3 : Hid (z0 + rwide (acc ++ [p3]) ≤ l.length) := hz3
              have HW3 : Hid (wrap64 ((J : Int) + ((9 + p3.length : Nat) : Int)) = ((z0 + rwide (acc ++ [p3]) : Nat) : Int)) := by show _ = _; rw [← e3]; have := HL.out; unfold wrap64; omega
              have HMS : Hid (l.length - (z0 + rwide (acc ++ [p3])) < l.length - J) := less_more hok3.1 (Nat.lt_of_lt_of_le (by decide) (Nat.le_add_right 9 _)) e3
              have BA := below_alloc w8 (.cells #[.int .i64 3, .slice ua un uc] 57)
              have sA := s8.below BA
              have gA := g8.below BA
              have oA := o8.below BA
              have lA := l8.kt (S := fun _ => True) (KT.below BA) trivial trivial
              have bA := b8.trans (BA.mono b8.size)
              have uA := (ou.lower HBr.out.size).below BA
              obtain ⟨WA, hWA⟩ : ∃ WA, WA = w8.alloc (Obj.cells #[.int .i64 3, .slice ua un uc] 57) := ⟨_, rfl⟩
              rw [← hWA] at sA gA oA lA bA uA
              have p1 : WA.cell? ⟨w8.heap.size, 1, none⟩ = some (.slice ua un uc) := by rw [hWA, cell_of_row _ _ 1 _ 57 (0, 0) (heap_last w8 _)]; rfl
              have HWA : Hid (WA = w8.alloc (Obj.cells #[.int .i64 3, .slice ua un uc] 57)) := hWA
              have hacc : acc.length ≤ 1000000000 := by have a := rwide_ge acc; have b := HZ.out; have c := HL.out; have d := HJ.out; omega
              obtain ⟨R2, w9, hr9, hL9, hb9, hk9, hz9⟩ := lapp_run lA uA bA.size hacc
              obtain ⟨Ra2, Rn2, Rc2, rfl⟩ := hL9.shape
              have s9 := sA.kt hk9 (by decide)
              have q4 : WA.cell? ⟨gs, 4, none⟩ = some (.slice Ra Rn Rc) := by rw [sA.cell 4]; rfl
              have q9 : w9.cell? ⟨gs, 4, none⟩ = some (.slice Ra Rn Rc) := by rw [s9.cell 4]; rfl
              have f9 := s9.free 4
              have s10 : SegAt (w9.setCell ⟨gs, 4, none⟩ (.slice Ra2 Rn2 Rc2)) gs (.int .i64 A.1) (.int .i64 D.1) (.bool false) (.slice none 0 0) (.slice Ra2 Rn2 Rc2) (.int .i64 0) (.bool false) := s9.set 4 _
              have hgne : w.heap.size ≠ gs := by have := RG5.out; omega
              have G10 : Hid (SegAt (w9.setCell ⟨gs, 4, none⟩ (.slice Ra2 Rn2 Rc2)) w.heap.size (.int .i64 0) (.int .i64 0) (.bool false) (.slice none 0 0) (.slice none 0 0) (.int .i64 0) (.bool false)) := by
                have h := gA.kt hk9 (by decide)
                show SegAt _ _ _ _ _ _ _ _ _
                unfold SegAt at h ⊢
                rw [Below.heap_setCell _ _ _ _ hgne]
                exact h
              have S10 : Hid (SegAt (w9.setCell ⟨gs, 4, none⟩ (.slice Ra2 Rn2 Rc2)) gs (.int .i64 A.1) (.int .i64 D.1) (.bool false) (.slice none 0 0) (.slice Ra2 Rn2 Rc2) (.int .i64 0) (.bool false)) := s10
              have O10 : Hid (Own w.heap.size (w9.setCell ⟨gs, 4, none⟩ (.slice Ra2 Rn2 Rc2)) (.slice none 0 0) []) := (oA.kt hk9 (by decide)).kt (KT.set s9 4 _) (by decide)
              have L10 : Hid (Ls w.heap.size (w9.setCell ⟨gs, 4, none⟩ (.slice Ra2 Rn2 Rc2)) (.slice Ra2 Rn2 Rc2) (acc ++ [p3])) := hL9.kt (KT.set s9 4 _) (by decide) (by decide)
              have B10 : Hid (Below w.heap.size w (w9.setCell ⟨gs, 4, none⟩ (.slice Ra2 Rn2 Rc2))) := (bA.trans hb9).setCell (p := ⟨gs, _, none⟩) (by have := RG5.out; show _ ≤ gs; omega) _
              obtain ⟨m3, hm3⟩ : ∃ m3, m3 = 9 + p3.length := ⟨_, rfl⟩
              rw [← hm3] at HW3 ⊢
              have HEJ : Hid ((J : Int) + (m3 : Int) = ((z0 + rwide (acc ++ [p3]) : Nat) : Int)) := by show _ = _; rw [← e3, ← hm3, Int.natCast_add]
              have hmb : (m3 : Int) ≤ 1048585 := by have := hok3.2; omega
              clear h8 ou hb8 hn3 d1 d2 d3 d4 hok3 s8 g8 o8 l8 b8 BA sA gA oA lA bA uA hacc hL9 hb9 hk9 hz9 s9 s10 e3 hz3 hm3 hWA
              go_upto_region 15 with fail
              rw [← HWA.out]
              go_wp2_with (at_builtin; refine Lib.wpList_append_run _ rfl _ _ 28 28 rfl _ _ rfl rfl _ _ (hr9 _) ?_)
              refine ⟨⟨acc ++ [p3], _, by rw [HEJ.out], S10, G10, O10, L10, HZ3, HE3, B10⟩, ?_⟩
              rw [HEJ.out]
              show l.length - (((z0 + rwide (acc ++ [p3]) : Nat) : Int)).toNat < l.length - ((J : Nat) : Int).toNat
              rw [Int.toNat_natCast, Int.toNat_natCast]
              exact HMS.out
        · have dc : (C2 == 0) = true := by simp [hc]
          have dk : (K2 == 2) = false := by simpa using hk
          go_wp2_with fail
          go_loopw [5] (fun i wr => ∃ (acc : List (List UInt8)) (R : Value), i = .int .i64 ((z0 + rwide acc : Nat) : Int) ∧ Hid (SegAt wr gs (.int .i64 A.1) (.int .i64 D.1) (.bool false) (.slice none 0 0) R (.int .i64 0) (.bool false)) ∧ Hid (SegAt wr w.heap.size (.int .i64 0) (.int .i64 0) (.bool false) (.slice none 0 0) (.slice none 0 0) (.int .i64 0) (.bool false)) ∧ Hid (Own w.heap.size wr (.slice none 0 0) []) ∧ Hid (Ls w.heap.size wr R acc) ∧ Hid (z0 + rwide acc ≤ l.length) ∧ Hid (recsL l z0 = acc ++ recsL l (z0 + rwide acc)) ∧ Hid (Below w.heap.size w wr)) (fun i _ => l.length - (intOf i).toNat)
          case atStart => exact ⟨[], _, rfl, S7, G7, Own.nil _ _, Ls.nil _ _, HZ0, by show _ = _; simp [rwide], B7⟩
          case round =>
            obtain ⟨acc, R, rfl, HSr, HGr, HOr, HLr, HZ, HE, HBr⟩ := hrel
            obtain ⟨vr, er, qr⟩ := cut_l (z0 + rwide acc) HV.out HZ.out
            have NC : Hid (Calls Tryd.prog 34 #[vr] wr (NX wr (nextL (l.drop (z0 + rwide acc))))) := rnext_calls vr (l.drop (z0 + rwide acc)) wr (qr wr (HV.out.below HBr.out)) (by have := HL.out; simp; omega)
            have hjb : ((z0 + rwide acc : Nat) : Int) ≤ 1000000000 := by have := HL.out; have := HZ.out; omega
            obtain ⟨Ra, Rn, Rc, rfl⟩ := HLr.out.shape
            clear qr
            obtain ⟨J, hJ⟩ : ∃ J, J = z0 + rwide acc := ⟨_, rfl⟩
            rw [← hJ] at er NC hjb HZ ⊢
            have HJ : Hid (J = z0 + rwide acc) := hJ
            clear hJ
            go_wp2_with fail
            refine NC.out.mono ?_
            intro e w8 h8
            obtain ⟨ua, un, uc, rfl, ou, hb8⟩ := h8.flat
            have s8 := HSr.out.below hb8
            have g8 := HGr.out.below hb8
            have o8 := HOr.out.below hb8
            have l8 := HLr.out.kt (S := fun _ => True) (KT.below hb8) trivial trivial
            have b8 := HBr.out.trans (hb8.mono HBr.out.size)
            cases hn3 : takeL l J 3 with
            | none =>
              have HE2 : Hid (recsL l z0 = acc) := by show _ = _; rw [HE.out, ← HJ.out, recsL_none hn3, List.append_nil]
              have HN := take_none hn3
              rw [show ((3 : UInt8).toNat : Int) = 3 from rfl] at HN
              generalize nk (nextL (l.drop J)) = K3 at HN ou ⊢
              generalize nc (nextL (l.drop J)) = C3 at HN ou ⊢
              generalize nn (nextL (l.drop J)) = M3 at HN ou ⊢
              clear h8 ou hb8 hn3
              rcases HN with hc | ⟨hc, hk⟩
              · have dc : (C3 != 0) = true := by simp [hc]
                go_upto_region 17 with fail
                have sA : SegAt (w8.alloc (Obj.cells #[.int .i64 K3, .slice ua un uc] 57)) gs (.int .i64 A.1) (.int .i64 D.1) (.bool false) (.slice none 0 0) (.slice Ra Rn Rc) (.int .i64 0) (.bool false) := s8.below (below_alloc w8 _)
                have gA : SegAt (w8.alloc (Obj.cells #[.int .i64 K3, .slice ua un uc] 57)) w.heap.size (.int .i64 0) (.int .i64 0) (.bool false) (.slice none 0 0) (.slice none 0 0) (.int .i64 0) (.bool false) := g8.below (below_alloc w8 _)
                have oA : Own w.heap.size (w8.alloc (Obj.cells #[.int .i64 K3, .slice ua un uc] 57)) (.slice none 0 0) [] := o8.below (below_alloc w8 _)
                have lA : Ls w.heap.size (w8.alloc (Obj.cells #[.int .i64 K3, .slice ua un uc] 57)) (.slice Ra Rn Rc) acc := l8.kt (S := fun _ => True) (KT.below (below_alloc w8 _)) trivial trivial
                have bA : Below w.heap.size w (w8.alloc (Obj.cells #[.int .i64 K3, .slice ua un uc] 57)) := b8.alloc b8.size _
                generalize (w8.alloc (Obj.cells #[.int .i64 K3, .slice ua un uc] 57)) = WA at sA gA oA lA bA ⊢
                have HP : Hid (parseL l = some (A.1, D.1, none, acc, J)) := by show _ = _; rw [HPL.out, HE2.out, HJ.out]
                obtain ⟨tb, htb⟩ : ∃ tb, tb = decide (J < l.length) := ⟨_, rfl⟩
                have HTB : Hid (tb = decide (J < l.length)) := htb
                have q5 : WA.cell? ⟨gs, 5, none⟩ = some (.int .i64 0) := by rw [sA.cell 5]; rfl
                have q6 : WA.cell? ⟨gs, 6, none⟩ = some (.bool false) := by rw [sA.cell 6]; rfl
                have f5 := sA.free 5
                have f6 := sA.free 6
                have sB : SegAt (WA.setCell ⟨gs, 5, none⟩ (.int .i64 (J : Int))) gs (.int .i64 A.1) (.int .i64 D.1) (.bool false) (.slice none 0 0) (.slice Ra Rn Rc) (.int .i64 (J : Int)) (.bool false) := sA.set 5 _
                have sC : SegAt ((WA.setCell ⟨gs, 5, none⟩ (.int .i64 (J : Int))).setCell ⟨gs, 6, none⟩ (.bool (decide (J < l.length)))) gs (.int .i64 A.1) (.int .i64 D.1) (.bool false) (.slice none 0 0) (.slice Ra Rn Rc) (.int .i64 (J : Int)) (.bool (decide (J < l.length))) := sB.set 6 _
                have kC : KT (fun t => t ≠ 30) WA ((WA.setCell ⟨gs, 5, none⟩ (.int .i64 (J : Int))).setCell ⟨gs, 6, none⟩ (.bool (decide (J < l.length)))) := (KT.set sA 5 _).trans (KT.set sB 6 _)
                have hgne : w.heap.size ≠ gs := by have := RG5.out; omega
                have gC : SegAt ((WA.setCell ⟨gs, 5, none⟩ (.int .i64 (J : Int))).setCell ⟨gs, 6, none⟩ (.bool (decide (J < l.length)))) w.heap.size (.int .i64 0) (.int .i64 0) (.bool false) (.slice none 0 0) (.slice none 0 0) (.int .i64 0) (.bool false) := by unfold SegAt at gA ⊢; rw [Below.heap_setCell _ _ _ _ hgne, Below.heap_setCell _ _ _ _ hgne]; exact gA
                have HoC : Hid (Own w.heap.size ((WA.setCell ⟨gs, 5, none⟩ (.int .i64 (J : Int))).setCell ⟨gs, 6, none⟩ (.bool (decide (J < l.length)))) (.slice none 0 0) []) := oA.kt kC (by decide)
                have HlC : Hid (Ls w.heap.size ((WA.setCell ⟨gs, 5, none⟩ (.int .i64 (J : Int))).setCell ⟨gs, 6, none⟩ (.bool (decide (J < l.length)))) (.slice Ra Rn Rc) acc) := lA.kt kC (by decide) (by decide)
                have HbC : Hid (Below w.heap.size w ((WA.setCell ⟨gs, 5, none⟩ (.int .i64 (J : Int))).setCell ⟨gs, 6, none⟩ (.bool (decide (J < l.length))))) := (bA.setCell (p := ⟨gs, _, none⟩) (by have := RG5.out; show _ ≤ gs; omega) _).setCell (p := ⟨gs, _, none⟩) (by have := RG5.out; show _ ≤ gs; omega) _
                clear sA gA oA lA bA sB kC htb s8 g8 o8 l8 b8
                go_upto_region 19 with fail
                generalize ((WA.setCell ⟨gs, 5, none⟩ (.int .i64 (J : Int))).setCell ⟨gs, 6, none⟩ (.bool (decide (J < l.length)))) = WC at sC gC HoC HlC HbC ⊢
                clear q5 q6 f5 f6
                rw [← HTB.out] at sC
                have t0 : WC.cell? ⟨gs, 0, none⟩ = some (.int .i64 A.1) := by rw [sC.cell 0]; rfl
                have t1 : WC.cell? ⟨gs, 1, none⟩ = some (.int .i64 D.1) := by rw [sC.cell 1]; rfl
                have t2 : WC.cell? ⟨gs, 2, none⟩ = some (.bool false) := by rw [sC.cell 2]; rfl
                have t3 : WC.cell? ⟨gs, 3, none⟩ = some (.slice none 0 0) := by rw [sC.cell 3]; rfl
                have t4 : WC.cell? ⟨gs, 4, none⟩ = some (.slice Ra Rn Rc) := by rw [sC.cell 4]; rfl
                have t5 : WC.cell? ⟨gs, 5, none⟩ = some (.int .i64 (J : Int)) := by rw [sC.cell 5]; rfl
                have t6 : WC.cell? ⟨gs, 6, none⟩ = some (.bool tb) := by rw [sC.cell 6]; rfl
                obtain ⟨y0, y1, y2, y3, y4, y5, y6, z0', z1', z2', z3', z4', z5', z6'⟩ := gC.all
                have a0 : SegAt _ w.heap.size (.int .i64 A.1) (.int .i64 0) (.bool false) (.slice none 0 0) (.slice none 0 0) (.int .i64 0) (.bool false) := gC.set 0 (.int .i64 A.1)
                have a1 : SegAt _ w.heap.size (.int .i64 A.1) (.int .i64 D.1) (.bool false) (.slice none 0 0) (.slice none 0 0) (.int .i64 0) (.bool false) := a0.set 1 (.int .i64 D.1)
                have a2 : SegAt _ w.heap.size (.int .i64 A.1) (.int .i64 D.1) (.bool false) (.slice none 0 0) (.slice none 0 0) (.int .i64 0) (.bool false) := a1.set 2 (.bool false)
                have a3 : SegAt _ w.heap.size (.int .i64 A.1) (.int .i64 D.1) (.bool false) (.slice none 0 0) (.slice none 0 0) (.int .i64 0) (.bool false) := a2.set 3 (.slice none 0 0)
                have a4 : SegAt _ w.heap.size (.int .i64 A.1) (.int .i64 D.1) (.bool false) (.slice none 0 0) (.slice Ra Rn Rc) (.int .i64 0) (.bool false) := a3.set 4 (.slice Ra Rn Rc)
                have a5 : SegAt _ w.heap.size (.int .i64 A.1) (.int .i64 D.1) (.bool false) (.slice none 0 0) (.slice Ra Rn Rc) (.int .i64 (J : Int)) (.bool false) := a4.set 5 (.int .i64 (J : Int))
                have A6 : Hid (SegAt _ w.heap.size (.int .i64 A.1) (.int .i64 D.1) (.bool false) (.slice none 0 0) (.slice Ra Rn Rc) (.int .i64 (J : Int)) (.bool tb)) := a5.set 6 (.bool tb)
                have KC : KT (fun t => t ≠ 30) WC _ := (((((KT.set gC 0 (.int .i64 A.1)).trans (KT.set a0 1 (.int .i64 D.1))).trans (KT.set a1 2 (.bool false))).trans (KT.set a2 3 (.slice none 0 0))).trans (KT.set a3 4 (.slice Ra Rn Rc))).trans (KT.set a4 5 (.int .i64 (J : Int))) |>.trans (KT.set a5 6 (.bool tb))
                have OF := HoC.out.kt KC (by decide)
                have LF := HlC.out.kt KC (by decide) (by decide)
                have BF := ((((((HbC.out.setCell (p := ⟨w.heap.size, 0, none⟩) (Nat.le_refl _) (.int .i64 A.1)).setCell (p := ⟨w.heap.size, 1, none⟩) (Nat.le_refl _) (.int .i64 D.1)).setCell (p := ⟨w.heap.size, 2, none⟩) (Nat.le_refl _) (.bool false)).setCell (p := ⟨w.heap.size, 3, none⟩) (Nat.le_refl _) (.slice none 0 0)).setCell (p := ⟨w.heap.size, 4, none⟩) (Nat.le_refl _) (.slice Ra Rn Rc)).setCell (p := ⟨w.heap.size, 5, none⟩) (Nat.le_refl _) (.int .i64 (J : Int))).setCell (p := ⟨w.heap.size, 6, none⟩) (Nat.le_refl _) (.bool tb)
                have HF : Hid _ := And.intro OF (And.intro LF BF)
                clear sC gC a0 a1 a2 a3 a4 a5 KC OF LF BF
                go_wp2_with fail
                refine bodyPost_ret (ret16 _ rfl rfl A6.out) rfl ?_
                rw [HP.out]
                exact ⟨HF.out.2.2, (.slice none 0 0), .slice Ra Rn Rc, by rw [HTB.out]; rfl, HF.out.1, HF.out.2.1⟩
              · have dc : (C3 != 0) = false := by simp [hc]
                have dk : (K3 != 3) = true := by simpa using hk
                go_upto_region 17 with fail
                have sA : SegAt (w8.alloc (Obj.cells #[.int .i64 K3, .slice ua un uc] 57)) gs (.int .i64 A.1) (.int .i64 D.1) (.bool false) (.slice none 0 0) (.slice Ra Rn Rc) (.int .i64 0) (.bool false) := s8.below (below_alloc w8 _)
                have gA : SegAt (w8.alloc (Obj.cells #[.int .i64 K3, .slice ua un uc] 57)) w.heap.size (.int .i64 0) (.int .i64 0) (.bool false) (.slice none 0 0) (.slice none 0 0) (.int .i64 0) (.bool false) := g8.below (below_alloc w8 _)
                have oA : Own w.heap.size (w8.alloc (Obj.cells #[.int .i64 K3, .slice ua un uc] 57)) (.slice none 0 0) [] := o8.below (below_alloc w8 _)
                have lA : Ls w.heap.size (w8.alloc (Obj.cells #[.int .i64 K3, .slice ua un uc] 57)) (.slice Ra Rn Rc) acc := l8.kt (S := fun _ => True) (KT.below (below_alloc w8 _)) trivial trivial
                have bA : Below w.heap.size w (w8.alloc (Obj.cells #[.int .i64 K3, .slice ua un uc] 57)) := b8.alloc b8.size _
                generalize (w8.alloc (Obj.cells #[.int .i64 K3, .slice ua un uc] 57)) = WA at sA gA oA lA bA ⊢
                have HP : Hid (parseL l = some (A.1, D.1, none, acc, J)) := by show _ = _; rw [HPL.out, HE2.out, HJ.out]
                obtain ⟨tb, htb⟩ : ∃ tb, tb = decide (J < l.length) := ⟨_, rfl⟩
                have HTB : Hid (tb = decide (J < l.length)) := htb
                have q5 : WA.cell? ⟨gs, 5, none⟩ = some (.int .i64 0) := by rw [sA.cell 5]; rfl
                have q6 : WA.cell? ⟨gs, 6, none⟩ = some (.bool false) := by rw [sA.cell 6]; rfl
                have f5 := sA.free 5
                have f6 := sA.free 6
                have sB : SegAt (WA.setCell ⟨gs, 5, none⟩ (.int .i64 (J : Int))) gs (.int .i64 A.1) (.int .i64 D.1) (.bool false) (.slice none 0 0) (.slice Ra Rn Rc) (.int .i64 (J : Int)) (.bool false) := sA.set 5 _
                have sC : SegAt ((WA.setCell ⟨gs, 5, none⟩ (.int .i64 (J : Int))).setCell ⟨gs, 6, none⟩ (.bool (decide (J < l.length)))) gs (.int .i64 A.1) (.int .i64 D.1) (.bool false) (.slice none 0 0) (.slice Ra Rn Rc) (.int .i64 (J : Int)) (.bool (decide (J < l.length))) := sB.set 6 _
                have kC : KT (fun t => t ≠ 30) WA ((WA.setCell ⟨gs, 5, none⟩ (.int .i64 (J : Int))).setCell ⟨gs, 6, none⟩ (.bool (decide (J < l.length)))) := (KT.set sA 5 _).trans (KT.set sB 6 _)
                have hgne : w.heap.size ≠ gs := by have := RG5.out; omega
                have gC : SegAt ((WA.setCell ⟨gs, 5, none⟩ (.int .i64 (J : Int))).setCell ⟨gs, 6, none⟩ (.bool (decide (J < l.length)))) w.heap.size (.int .i64 0) (.int .i64 0) (.bool false) (.slice none 0 0) (.slice none 0 0) (.int .i64 0) (.bool false) := by unfold SegAt at gA ⊢; rw [Below.heap_setCell _ _ _ _ hgne, Below.heap_setCell _ _ _ _ hgne]; exact gA
                have HoC : Hid (Own w.heap.size ((WA.setCell ⟨gs, 5, none⟩ (.int .i64 (J : Int))).setCell ⟨gs, 6, none⟩ (.bool (decide (J < l.length)))) (.slice none 0 0) []) := oA.kt kC (by decide)
                have HlC : Hid (Ls w.heap.size ((WA.setCell ⟨gs, 5, none⟩ (.int .i64 (J : Int))).setCell ⟨gs, 6, none⟩ (.bool (decide (J < l.length)))) (.slice Ra Rn Rc) acc) := lA.kt kC (by decide) (by decide)
                have HbC : Hid (Below w.heap.size w ((WA.setCell ⟨gs, 5, none⟩ (.int .i64 (J : Int))).setCell ⟨gs, 6, none⟩ (.bool (decide (J < l.length))))) := (bA.setCell (p := ⟨gs, _, none⟩) (by have := RG5.out; show _ ≤ gs; omega) _).setCell (p := ⟨gs, _, none⟩) (by have := RG5.out; show _ ≤ gs; omega) _
                clear sA gA oA lA bA sB kC htb s8 g8 o8 l8 b8
                go_upto_region 19 with fail
                generalize ((WA.setCell ⟨gs, 5, none⟩ (.int .i64 (J : Int))).setCell ⟨gs, 6, none⟩ (.bool (decide (J < l.length)))) = WC at sC gC HoC HlC HbC ⊢
                clear q5 q6 f5 f6
                rw [← HTB.out] at sC
                have t0 : WC.cell? ⟨gs, 0, none⟩ = some (.int .i64 A.1) := by rw [sC.cell 0]; rfl
                have t1 : WC.cell? ⟨gs, 1, none⟩ = some (.int .i64 D.1) := by rw [sC.cell 1]; rfl
                have t2 : WC.cell? ⟨gs, 2, none⟩ = some (.bool false) := by rw [sC.cell 2]; rfl
                have t3 : WC.cell? ⟨gs, 3, none⟩ = some (.slice none 0 0) := by rw [sC.cell 3]; rfl
                have t4 : WC.cell? ⟨gs, 4, none⟩ = some (.slice Ra Rn Rc) := by rw [sC.cell 4]; rfl
                have t5 : WC.cell? ⟨gs, 5, none⟩ = some (.int .i64 (J : Int)) := by rw [sC.cell 5]; rfl
                have t6 : WC.cell? ⟨gs, 6, none⟩ = some (.bool tb) := by rw [sC.cell 6]; rfl
                obtain ⟨y0, y1, y2, y3, y4, y5, y6, z0', z1', z2', z3', z4', z5', z6'⟩ := gC.all
                have a0 : SegAt _ w.heap.size (.int .i64 A.1) (.int .i64 0) (.bool false) (.slice none 0 0) (.slice none 0 0) (.int .i64 0) (.bool false) := gC.set 0 (.int .i64 A.1)
                have a1 : SegAt _ w.heap.size (.int .i64 A.1) (.int .i64 D.1) (.bool false) (.slice none 0 0) (.slice none 0 0) (.int .i64 0) (.bool false) := a0.set 1 (.int .i64 D.1)
                have a2 : SegAt _ w.heap.size (.int .i64 A.1) (.int .i64 D.1) (.bool false) (.slice none 0 0) (.slice none 0 0) (.int .i64 0) (.bool false) := a1.set 2 (.bool false)
                have a3 : SegAt _ w.heap.size (.int .i64 A.1) (.int .i64 D.1) (.bool false) (.slice none 0 0) (.slice none 0 0) (.int .i64 0) (.bool false) := a2.set 3 (.slice none 0 0)
                have a4 : SegAt _ w.heap.size (.int .i64 A.1) (.int .i64 D.1) (.bool false) (.slice none 0 0) (.slice Ra Rn Rc) (.int .i64 0) (.bool false) := a3.set 4 (.slice Ra Rn Rc)
                have a5 : SegAt _ w.heap.size (.int .i64 A.1) (.int .i64 D.1) (.bool false) (.slice none 0 0) (.slice Ra Rn Rc) (.int .i64 (J : Int)) (.bool false) := a4.set 5 (.int .i64 (J : Int))
                have A6 : Hid (SegAt _ w.heap.size (.int .i64 A.1) (.int .i64 D.1) (.bool false) (.slice none 0 0) (.slice Ra Rn Rc) (.int .i64 (J : Int)) (.bool tb)) := a5.set 6 (.bool tb)
                have KC : KT (fun t => t ≠ 30) WC _ := (((((KT.set gC 0 (.int .i64 A.1)).trans (KT.set a0 1 (.int .i64 D.1))).trans (KT.set a1 2 (.bool false))).trans (KT.set a2 3 (.slice none 0 0))).trans (KT.set a3 4 (.slice Ra Rn Rc))).trans (KT.set a4 5 (.int .i64 (J : Int))) |>.trans (KT.set a5 6 (.bool tb))
                have OF := HoC.out.kt KC (by decide)
                have LF := HlC.out.kt KC (by decide) (by decide)
                have BF := ((((((HbC.out.setCell (p := ⟨w.heap.size, 0, none⟩) (Nat.le_refl _) (.int .i64 A.1)).setCell (p := ⟨w.heap.size, 1, none⟩) (Nat.le_refl _) (.int .i64 D.1)).setCell (p := ⟨w.heap.size, 2, none⟩) (Nat.le_refl _) (.bool false)).setCell (p := ⟨w.heap.size, 3, none⟩) (Nat.le_refl _) (.slice none 0 0)).setCell (p := ⟨w.heap.size, 4, none⟩) (Nat.le_refl _) (.slice Ra Rn Rc)).setCell (p := ⟨w.heap.size, 5, none⟩) (Nat.le_refl _) (.int .i64 (J : Int))).setCell (p := ⟨w.heap.size, 6, none⟩) (Nat.le_refl _) (.bool tb)
                have HF : Hid _ := And.intro OF (And.intro LF BF)
                clear sC gC a0 a1 a2 a3 a4 a5 KC OF LF BF
                go_wp2_with fail
                refine bodyPost_ret (ret16 _ rfl rfl A6.out) rfl ?_
                rw [HP.out]
                exact ⟨HF.out.2.2, (.slice none 0 0), .slice Ra Rn Rc, by rw [HTB.out]; rfl, HF.out.1, HF.out.2.1⟩
            | some p3 =>
              obtain ⟨d1, d2, d3, d4⟩ := take_some hn3
              have hok3 := takeL_ok hn3
              rw [d1, d2, d4]
              rw [d3] at ou
              rw [show ((3 : UInt8).toNat : Int) = 3 from rfl]
              have HE3 : Hid (recsL l z0 = (acc ++ [p3]) ++ recsL l (z0 + rwide (acc ++ [p3]))) := by
                show _ = _
                rw [HE.out, ← HJ.out, recsL_some hn3, rwide_append, HJ.out, List.append_assoc]
                simp [rwide, Nat.add_assoc]
              have e3 : J + (9 + p3.length) = z0 + rwide (acc ++ [p3]) := by rw [rwide_append, HJ.out]; simp [rwide]; omega
              have hz3 : z0 + rwide (acc ++ [p3]) ≤ l.length := by rw [← e3]; exact hok3.1
              have HZ3 : Hid (z0 + rwide (acc ++ [p3]) ≤ l.length) := hz3
              have HW3 : Hid (wrap64 ((J : Int) + ((9 + p3.length : Nat) : Int)) = ((z0 + rwide (acc ++ [p3]) : Nat) : Int)) := by show _ = _; rw [← e3]; have := HL.out; unfold wrap64; omega
              have HMS : Hid (l.length - (z0 + rwide (acc ++ [p3])) < l.length - J) := less_more hok3.1 (Nat.lt_of_lt_of_le (by decide) (Nat.le_add_right 9 _)) e3
              have BA := below_alloc w8 (.cells #[.int .i64 3, .slice ua un uc] 57)
              have sA := s8.below BA
              have gA := g8.below BA
              have oA := o8.below BA
              have lA := l8.kt (S := fun _ => True) (KT.below BA) trivial trivial
              have bA := b8.trans (BA.mono b8.size)
              have uA := (ou.lower HBr.out.size).below BA
              obtain ⟨WA, hWA⟩ : ∃ WA, WA = w8.alloc (Obj.cells #[.int .i64 3, .slice ua un uc] 57) := ⟨_, rfl⟩
              rw [← hWA] at sA gA oA lA bA uA
              have p1 : WA.cell? ⟨w8.heap.size, 1, none⟩ = some (.slice ua un uc) := by rw [hWA, cell_of_row _ _ 1 _ 57 (0, 0) (heap_last w8 _)]; rfl
              have HWA : Hid (WA = w8.alloc (Obj.cells #[.int .i64 3, .slice ua un uc] 57)) := hWA
              have hacc : acc.length ≤ 1000000000 := by have a := rwide_ge acc; have b := HZ.out; have c := HL.out; have d := HJ.out; omega
              obtain ⟨R2, w9, hr9, hL9, hb9, hk9, hz9⟩ := lapp_run lA uA bA.size hacc
              obtain ⟨Ra2, Rn2, Rc2, rfl⟩ := hL9.shape
              have s9 := sA.kt hk9 (by decide)
              have q4 : WA.cell? ⟨gs, 4, none⟩ = some (.slice Ra Rn Rc) := by rw [sA.cell 4]; rfl
              have q9 : w9.cell? ⟨gs, 4, none⟩ = some (.slice Ra Rn Rc) := by rw [s9.cell 4]; rfl
              have f9 := s9.free 4
              have s10 : SegAt (w9.setCell ⟨gs, 4, none⟩ (.slice Ra2 Rn2 Rc2)) gs (.int .i64 A.1) (.int .i64 D.1) (.bool false) (.slice none 0 0) (.slice Ra2 Rn2 Rc2) (.int .i64 0) (.bool false) := s9.set 4 _
              have hgne : w.heap.size ≠ gs := by have := RG5.out; omega
              have G10 : Hid (SegAt (w9.setCell ⟨gs, 4, none⟩ (.slice Ra2 Rn2 Rc2)) w.heap.size (.int .i64 0) (.int .i64 0) (.bool false) (.slice none 0 0) (.slice none 0 0) (.int .i64 0) (.bool false)) := by
                have h := gA.kt hk9 (by decide)
                show SegAt _ _ _ _ _ _ _ _ _
                unfold SegAt at h ⊢
                rw [Below.heap_setCell _ _ _ _ hgne]
                exact h
              have S10 : Hid (SegAt (w9.setCell ⟨gs, 4, none⟩ (.slice Ra2 Rn2 Rc2)) gs (.int .i64 A.1) (.int .i64 D.1) (.bool false) (.slice none 0 0) (.slice Ra2 Rn2 Rc2) (.int .i64 0) (.bool false)) := s10
              have O10 : Hid (Own w.heap.size (w9.setCell ⟨gs, 4, none⟩ (.slice Ra2 Rn2 Rc2)) (.slice none 0 0) []) := (oA.kt hk9 (by decide)).kt (KT.set s9 4 _) (by decide)
              have L10 : Hid (Ls w.heap.size (w9.setCell ⟨gs, 4, none⟩ (.slice Ra2 Rn2 Rc2)) (.slice Ra2 Rn2 Rc2) (acc ++ [p3])) := hL9.kt (KT.set s9 4 _) (by decide) (by decide)
              have B10 : Hid (Below w.heap.size w (w9.setCell ⟨gs, 4, none⟩ (.slice Ra2 Rn2 Rc2))) := (bA.trans hb9).setCell (p := ⟨gs, _, none⟩) (by have := RG5.out; show _ ≤ gs; omega) _
              obtain ⟨m3, hm3⟩ : ∃ m3, m3 = 9 + p3.length := ⟨_, rfl⟩
              rw [← hm3] at HW3 ⊢
              have HEJ : Hid ((J : Int) + (m3 : Int) = ((z0 + rwide (acc ++ [p3]) : Nat) : Int)) := by show _ = _; rw [← e3, ← hm3, Int.natCast_add]
              have hmb : (m3 : Int) ≤ 1048585 := by have := hok3.2; omega
              clear h8 ou hb8 hn3 d1 d2 d3 d4 hok3 s8 g8 o8 l8 b8 BA sA gA oA lA bA uA hacc hL9 hb9 hk9 hz9 s9 s10 e3 hz3 hm3 hWA
              go_upto_region 15 with fail
              rw [← HWA.out]
              go_wp2_with (at_builtin; refine Lib.wpList_append_run _ rfl _ _ 28 28 rfl _ _ rfl rfl _ _ (hr9 _) ?_)
              refine ⟨⟨acc ++ [p3], _, by rw [HEJ.out], S10, G10, O10, L10, HZ3, HE3, B10⟩, ?_⟩
              rw [HEJ.out]
              show l.length - (((z0 + rwide (acc ++ [p3]) : Nat) : Int)).toNat < l.length - ((J : Nat) : Int).toNat
              rw [Int.toNat_natCast, Int.toNat_natCast]
              exact HMS.out
      | some p2 =>
        obtain ⟨d1, d2, d3, d4⟩ := take_some hn2
        have hok2 := takeL_ok hn2
        rw [d1, d2, d4]
        rw [d3] at oy6
        rw [show ((2 : UInt8).toNat : Int) = 2 from rfl]
        have hPL : parseL l = some (A.1, D.1, some p2, recsL l (M + (9 + p2.length)), M + (9 + p2.length) + rwide (recsL l (M + (9 + p2.length)))) := by unfold parseL; rw [HHd.out]; simp only; rw [hn2]
        obtain ⟨m2, hm2⟩ : ∃ m2, m2 = 9 + p2.length := ⟨_, rfl⟩
        rw [← hm2] at hPL hok2 ⊢
        obtain ⟨z0, hz0⟩ : ∃ z0, z0 = M + m2 := ⟨_, rfl⟩
        rw [← hz0] at hPL hok2
        have HPL : Hid (parseL l = some (A.1, D.1, some p2, recsL l z0, z0 + rwide (recsL l z0))) := hPL
        have HZ0 : Hid (z0 ≤ l.length) := hok2.1
        have HZM : Hid (((M : Int) + (m2 : Int)) = ((z0 + rwide [] : Nat) : Int)) := by show _ = _; rw [hz0]; simp [rwide]
        have hm2b : (m2 : Int) ≤ 1048585 := by have := hok2.2; omega
        have f7 : (w6.setCell ⟨gf, 0, none⟩ (.int .i64 2)).heap[gf]? = some (Obj.cells #[.int .i64 2, .slice xa xn xc] 57 (0, 0)) := heap_setCell_same w6 gf 0 _ 57 _ f6
        have f7' : ((w6.setCell ⟨gf, 0, none⟩ (.int .i64 2)).setCell ⟨gf, 1, none⟩ (.slice ya yn yc)).heap[gf]? = some (Obj.cells #[.int .i64 2, .slice ya yn yc] 57 (0, 0)) := heap_setCell_same _ gf 1 _ 57 _ f7
        have kt7 : KT (fun t => t ≠ 57) w6 ((w6.setCell ⟨gf, 0, none⟩ (.int .i64 2)).setCell ⟨gf, 1, none⟩ (.slice ya yn yc)) := (KT.set f6 0 _).trans (KT.set f7 1 _)
        obtain ⟨W7, hW7⟩ : ∃ W7, W7 = (w6.setCell ⟨gf, 0, none⟩ (.int .i64 2)).setCell ⟨gf, 1, none⟩ (.slice ya yn yc) := ⟨_, rfl⟩
        rw [← hW7] at f7' kt7
        have s7 := s6.kt kt7 (by decide)
        have g7 := g6.kt kt7 (by decide)
        have o7 := oy6.kt kt7 (by decide)
        have b7 : Below w.heap.size w W7 := by rw [hW7]; exact (b6.setCell (p := ⟨gf, _, none⟩) (by have := RG5.out; show _ ≤ gf; omega) _).setCell (p := ⟨gf, _, none⟩) (by have := RG5.out; show _ ≤ gf; omega) _
        have p0 : W7.cell? ⟨gf, 0, none⟩ = some (.int .i64 2) := by rw [cell_of_row _ _ 0 _ 57 (0, 0) f7']; rfl
        have p1 : W7.cell? ⟨gf, 1, none⟩ = some (.slice ya yn yc) := by rw [cell_of_row _ _ 1 _ 57 (0, 0) f7']; rfl
        have u2 : W7.cell? ⟨gs, 2, none⟩ = some (.bool false) := by rw [s7.cell 2]; rfl
        have u3 : W7.cell? ⟨gs, 3, none⟩ = some (.slice none 0 0) := by rw [s7.cell 3]; rfl
        have v2 := s7.free 2
        have v3 := s7.free 3
        have hne : gf ≠ gs := by have := RG5.out; omega
        have hne2 : w.heap.size ≠ gs := by have := RG5.out; omega
        have s8 : SegAt (W7.setCell ⟨gs, 2, none⟩ (.bool true)) gs (.int .i64 A.1) (.int .i64 D.1) (.bool true) (.slice none 0 0) (.slice none 0 0) (.int .i64 0) (.bool false) := s7.set 2 _
        have S9 : Hid (SegAt ((W7.setCell ⟨gs, 2, none⟩ (.bool true)).setCell ⟨gs, 3, none⟩ (.slice ya yn yc)) gs (.int .i64 A.1) (.int .i64 D.1) (.bool true) (.slice ya yn yc) (.slice none 0 0) (.int .i64 0) (.bool false)) := s8.set 3 _
        have G9 : Hid (SegAt ((W7.setCell ⟨gs, 2, none⟩ (.bool true)).setCell ⟨gs, 3, none⟩ (.slice ya yn yc)) w.heap.size (.int .i64 0) (.int .i64 0) (.bool false) (.slice none 0 0) (.slice none 0 0) (.int .i64 0) (.bool false)) := by
          show SegAt _ _ _ _ _ _ _ _ _
          unfold SegAt at g7 ⊢
          rw [Below.heap_setCell _ _ _ _ hne2, Below.heap_setCell _ _ _ _ hne2]
          exact g7
        have O9 : Hid (Own w.heap.size ((W7.setCell ⟨gs, 2, none⟩ (.bool true)).setCell ⟨gs, 3, none⟩ (.slice ya yn yc)) (.slice ya yn yc) p2) := (o7.kt (KT.set s7 2 _) (by decide)).kt (KT.set s8 3 _) (by decide)
        have B9 : Hid (Below w.heap.size w ((W7.setCell ⟨gs, 2, none⟩ (.bool true)).setCell ⟨gs, 3, none⟩ (.slice ya yn yc))) := (b7.setCell (p := ⟨gs, _, none⟩) (by have := RG5.out; show _ ≤ gs; omega) _).setCell (p := ⟨gs, _, none⟩) (by have := RG5.out; show _ ≤ gs; omega) _
        have HW7 : Hid (W7 = (w6.setCell ⟨gf, 0, none⟩ (.int .i64 2)).setCell ⟨gf, 1, none⟩ (.slice ya yn yc)) := hW7
        clear h6 oy hb6 hn2 s6 g6 f6 f7 f7' b6 oy6 kt7 hgf5 hok2 hPL hm2 hz0 hW7 s7 g7 o7 b7 s8 d1 d2 d3 d4 hne2
        go_upto_region 9 with fail
        rw [← HW7.out]
        clear q0 q1 r0 r1
        go_wp2_with fail
        go_loopw [5] (fun i wr => ∃ (acc : List (List UInt8)) (R : Value), i = .int .i64 ((z0 + rwide acc : Nat) : Int) ∧ Hid (SegAt wr gs (.int .i64 A.1) (.int .i64 D.1) (.bool true) (.slice ya yn yc) R (.int .i64 0) (.bool false)) ∧ Hid (SegAt wr w.heap.size (.int .i64 0) (.int .i64 0) (.bool false) (.slice none 0 0) (.slice none 0 0) (.int .i64 0) (.bool false)) ∧ Hid (Own w.heap.size wr (.slice ya yn yc) p2) ∧ Hid (Ls w.heap.size wr R acc) ∧ Hid (z0 + rwide acc ≤ l.length) ∧ Hid (recsL l z0 = acc ++ recsL l (z0 + rwide acc)) ∧ Hid (Below w.heap.size w wr)) (fun i _ => l.length - (intOf i).toNat)
        case atStart => exact ⟨[], _, by rw [HZM.out], S9, G9, O9, Ls.nil _ _, HZ0, by show _ = _; simp [rwide], B9⟩
        case round =>
          obtain ⟨acc, R, rfl, HSr, HGr, HOr, HLr, HZ, HE, HBr⟩ := hrel
          obtain ⟨vr, er, qr⟩ := cut_l (z0 + rwide acc) HV.out HZ.out
          have NC : Hid (Calls Tryd.prog 34 #[vr] wr (NX wr (nextL (l.drop (z0 + rwide acc))))) := rnext_calls vr (l.drop (z0 + rwide acc)) wr (qr wr (HV.out.below HBr.out)) (by have := HL.out; simp; omega)
          have hjb : ((z0 + rwide acc : Nat) : Int) ≤ 1000000000 := by have := HL.out; have := HZ.out; omega
          obtain ⟨Ra, Rn, Rc, rfl⟩ := HLr.out.shape
          clear qr
          obtain ⟨J, hJ⟩ : ∃ J, J = z0 + rwide acc := ⟨_, rfl⟩
          rw [← hJ] at er NC hjb HZ ⊢
          have HJ : Hid (J = z0 + rwide acc) := hJ
          clear hJ
          go_wp2_with fail
          refine NC.out.mono ?_
          intro e w8 h8
          obtain ⟨ua, un, uc, rfl, ou, hb8⟩ := h8.flat
          have s8 := HSr.out.below hb8
          have g8 := HGr.out.below hb8
          have o8 := HOr.out.below hb8
          have l8 := HLr.out.kt (S := fun _ => True) (KT.below hb8) trivial trivial
          have b8 := HBr.out.trans (hb8.mono HBr.out.size)
          cases hn3 : takeL l J 3 with
          | none =>
            have HE2 : Hid (recsL l z0 = acc) := by show _ = _; rw [HE.out, ← HJ.out, recsL_none hn3, List.append_nil]
            have HN := take_none hn3
            rw [show ((3 : UInt8).toNat : Int) = 3 from rfl] at HN
            generalize nk (nextL (l.drop J)) = K3 at HN ou ⊢
            generalize nc (nextL (l.drop J)) = C3 at HN ou ⊢
            generalize nn (nextL (l.drop J)) = M3 at HN ou ⊢
            clear h8 ou hb8 hn3
            rcases HN with hc | ⟨hc, hk⟩
            · have dc : (C3 != 0) = true := by simp [hc]
              go_upto_region 17 with fail
              have sA : SegAt (w8.alloc (Obj.cells #[.int .i64 K3, .slice ua un uc] 57)) gs (.int .i64 A.1) (.int .i64 D.1) (.bool true) (.slice ya yn yc) (.slice Ra Rn Rc) (.int .i64 0) (.bool false) := s8.below (below_alloc w8 _)
              have gA : SegAt (w8.alloc (Obj.cells #[.int .i64 K3, .slice ua un uc] 57)) w.heap.size (.int .i64 0) (.int .i64 0) (.bool false) (.slice none 0 0) (.slice none 0 0) (.int .i64 0) (.bool false) := g8.below (below_alloc w8 _)
              have oA : Own w.heap.size (w8.alloc (Obj.cells #[.int .i64 K3, .slice ua un uc] 57)) (.slice ya yn yc) p2 := o8.below (below_alloc w8 _)
              have lA : Ls w.heap.size (w8.alloc (Obj.cells #[.int .i64 K3, .slice ua un uc] 57)) (.slice Ra Rn Rc) acc := l8.kt (S := fun _ => True) (KT.below (below_alloc w8 _)) trivial trivial
              have bA : Below w.heap.size w (w8.alloc (Obj.cells #[.int .i64 K3, .slice ua un uc] 57)) := b8.alloc b8.size _
              generalize (w8.alloc (Obj.cells #[.int .i64 K3, .slice ua un uc] 57)) = WA at sA gA oA lA bA ⊢
              have HP : Hid (parseL l = some (A.1, D.1, (some p2), acc, J)) := by show _ = _; rw [HPL.out, HE2.out, HJ.out]
              obtain ⟨tb, htb⟩ : ∃ tb, tb = decide (J < l.length) := ⟨_, rfl⟩
              have HTB : Hid (tb = decide (J < l.length)) := htb
              have q5 : WA.cell? ⟨gs, 5, none⟩ = some (.int .i64 0) := by rw [sA.cell 5]; rfl
              have q6 : WA.cell? ⟨gs, 6, none⟩ = some (.bool false) := by rw [sA.cell 6]; rfl
              have f5 := sA.free 5
              have f6 := sA.free 6
              have sB : SegAt (WA.setCell ⟨gs, 5, none⟩ (.int .i64 (J : Int))) gs (.int .i64 A.1) (.int .i64 D.1) (.bool true) (.slice ya yn yc) (.slice Ra Rn Rc) (.int .i64 (J : Int)) (.bool false) := sA.set 5 _
              have sC : SegAt ((WA.setCell ⟨gs, 5, none⟩ (.int .i64 (J : Int))).setCell ⟨gs, 6, none⟩ (.bool (decide (J < l.length)))) gs (.int .i64 A.1) (.int .i64 D.1) (.bool true) (.slice ya yn yc) (.slice Ra Rn Rc) (.int .i64 (J : Int)) (.bool (decide (J < l.length))) := sB.set 6 _
              have kC : KT (fun t => t ≠ 30) WA ((WA.setCell ⟨gs, 5, none⟩ (.int .i64 (J : Int))).setCell ⟨gs, 6, none⟩ (.bool (decide (J < l.length)))) := (KT.set sA 5 _).trans (KT.set sB 6 _)
              have hgne : w.heap.size ≠ gs := by have := RG5.out; omega
              have gC : SegAt ((WA.setCell ⟨gs, 5, none⟩ (.int .i64 (J : Int))).setCell ⟨gs, 6, none⟩ (.bool (decide (J < l.length)))) w.heap.size (.int .i64 0) (.int .i64 0) (.bool false) (.slice none 0 0) (.slice none 0 0) (.int .i64 0) (.bool false) := by unfold SegAt at gA ⊢; rw [Below.heap_setCell _ _ _ _ hgne, Below.heap_setCell _ _ _ _ hgne]; exact gA
              have HoC : Hid (Own w.heap.size ((WA.setCell ⟨gs, 5, none⟩ (.int .i64 (J : Int))).setCell ⟨gs, 6, none⟩ (.bool (decide (J < l.length)))) (.slice ya yn yc) p2) := oA.kt kC (by decide)
              have HlC : Hid (Ls w.heap.size ((WA.setCell ⟨gs, 5, none⟩ (.int .i64 (J : Int))).setCell ⟨gs, 6, none⟩ (.bool (decide (J < l.length)))) (.slice Ra Rn Rc) acc) := lA.kt kC (by decide) (by decide)
              have HbC : Hid (Below w.heap.size w ((WA.setCell ⟨gs, 5, none⟩ (.int .i64 (J : Int))).setCell ⟨gs, 6, none⟩ (.bool (decide (J < l.length))))) := (bA.setCell (p := ⟨gs, _, none⟩) (by have := RG5.out; show _ ≤ gs; omega) _).setCell (p := ⟨gs, _, none⟩) (by have := RG5.out; show _ ≤ gs; omega) _
              clear sA gA oA lA bA sB kC htb s8 g8 o8 l8 b8
              go_upto_region 19 with fail
              generalize ((WA.setCell ⟨gs, 5, none⟩ (.int .i64 (J : Int))).setCell ⟨gs, 6, none⟩ (.bool (decide (J < l.length)))) = WC at sC gC HoC HlC HbC ⊢
              clear q5 q6 f5 f6
              rw [← HTB.out] at sC
              have t0 : WC.cell? ⟨gs, 0, none⟩ = some (.int .i64 A.1) := by rw [sC.cell 0]; rfl
              have t1 : WC.cell? ⟨gs, 1, none⟩ = some (.int .i64 D.1) := by rw [sC.cell 1]; rfl
              have t2 : WC.cell? ⟨gs, 2, none⟩ = some (.bool true) := by rw [sC.cell 2]; rfl
              have t3 : WC.cell? ⟨gs, 3, none⟩ = some (.slice ya yn yc) := by rw [sC.cell 3]; rfl
              have t4 : WC.cell? ⟨gs, 4, none⟩ = some (.slice Ra Rn Rc) := by rw [sC.cell 4]; rfl
              have t5 : WC.cell? ⟨gs, 5, none⟩ = some (.int .i64 (J : Int)) := by rw [sC.cell 5]; rfl
              have t6 : WC.cell? ⟨gs, 6, none⟩ = some (.bool tb) := by rw [sC.cell 6]; rfl
              obtain ⟨y0, y1, y2, y3, y4, y5, y6, z0', z1', z2', z3', z4', z5', z6'⟩ := gC.all
              have a0 : SegAt _ w.heap.size (.int .i64 A.1) (.int .i64 0) (.bool false) (.slice none 0 0) (.slice none 0 0) (.int .i64 0) (.bool false) := gC.set 0 (.int .i64 A.1)
              have a1 : SegAt _ w.heap.size (.int .i64 A.1) (.int .i64 D.1) (.bool false) (.slice none 0 0) (.slice none 0 0) (.int .i64 0) (.bool false) := a0.set 1 (.int .i64 D.1)
              have a2 : SegAt _ w.heap.size (.int .i64 A.1) (.int .i64 D.1) (.bool true) (.slice none 0 0) (.slice none 0 0) (.int .i64 0) (.bool false) := a1.set 2 (.bool true)
              have a3 : SegAt _ w.heap.size (.int .i64 A.1) (.int .i64 D.1) (.bool true) (.slice ya yn yc) (.slice none 0 0) (.int .i64 0) (.bool false) := a2.set 3 (.slice ya yn yc)
              have a4 : SegAt _ w.heap.size (.int .i64 A.1) (.int .i64 D.1) (.bool true) (.slice ya yn yc) (.slice Ra Rn Rc) (.int .i64 0) (.bool false) := a3.set 4 (.slice Ra Rn Rc)
              have a5 : SegAt _ w.heap.size (.int .i64 A.1) (.int .i64 D.1) (.bool true) (.slice ya yn yc) (.slice Ra Rn Rc) (.int .i64 (J : Int)) (.bool false) := a4.set 5 (.int .i64 (J : Int))
              have A6 : Hid (SegAt _ w.heap.size (.int .i64 A.1) (.int .i64 D.1) (.bool true) (.slice ya yn yc) (.slice Ra Rn Rc) (.int .i64 (J : Int)) (.bool tb)) := a5.set 6 (.bool tb)
              have KC : KT (fun t => t ≠ 30) WC _ := (((((KT.set gC 0 (.int .i64 A.1)).trans (KT.set a0 1 (.int .i64 D.1))).trans (KT.set a1 2 (.bool true))).trans (KT.set a2 3 (.slice ya yn yc))).trans (KT.set a3 4 (.slice Ra Rn Rc))).trans (KT.set a4 5 (.int .i64 (J : Int))) |>.trans (KT.set a5 6 (.bool tb))
              have OF := HoC.out.kt KC (by decide)
              have LF := HlC.out.kt KC (by decide) (by decide)
              have BF := ((((((HbC.out.setCell (p := ⟨w.heap.size, 0, none⟩) (Nat.le_refl _) (.int .i64 A.1)).setCell (p := ⟨w.heap.size, 1, none⟩) (Nat.le_refl _) (.int .i64 D.1)).setCell (p := ⟨w.heap.size, 2, none⟩) (Nat.le_refl _) (.bool true)).setCell (p := ⟨w.heap.size, 3, none⟩) (Nat.le_refl _) (.slice ya yn yc)).setCell (p := ⟨w.heap.size, 4, none⟩) (Nat.le_refl _) (.slice Ra Rn Rc)).setCell (p := ⟨w.heap.size, 5, none⟩) (Nat.le_refl _) (.int .i64 (J : Int))).setCell (p := ⟨w.heap.size, 6, none⟩) (Nat.le_refl _) (.bool tb)
              have HF : Hid _ := And.intro OF (And.intro LF BF)
              clear sC gC a0 a1 a2 a3 a4 a5 KC OF LF BF
              go_wp2_with fail
              refine bodyPost_ret (ret16 _ rfl rfl A6.out) rfl ?_
              rw [HP.out]
              exact ⟨HF.out.2.2, (.slice ya yn yc), .slice Ra Rn Rc, by rw [HTB.out]; rfl, HF.out.1, HF.out.2.1⟩
            · have dc : (C3 != 0) = false := by simp [hc]
              have dk : (K3 != 3) = true := by simpa using hk
              go_upto_region 17 with fail
              have sA : SegAt (w8.alloc (Obj.cells #[.int .i64 K3, .slice ua un uc] 57)) gs (.int .i64 A.1) (.int .i64 D.1) (.bool true) (.slice ya yn yc) (.slice Ra Rn Rc) (.int .i64 0) (.bool false) := s8.below (below_alloc w8 _)
              have gA : SegAt (w8.alloc (Obj.cells #[.int .i64 K3, .slice ua un uc] 57)) w.heap.size (.int .i64 0) (.int .i64 0) (.bool false) (.slice none 0 0) (.slice none 0 0) (.int .i64 0) (.bool false) := g8.below (below_alloc w8 _)
              have oA : Own w.heap.size (w8.alloc (Obj.cells #[.int .i64 K3, .slice ua un uc] 57)) (.slice ya yn yc) p2 := o8.below (below_alloc w8 _)
              have lA : Ls w.heap.size (w8.alloc (Obj.cells #[.int .i64 K3, .slice ua un uc] 57)) (.slice Ra Rn Rc) acc := l8.kt (S := fun _ => True) (KT.below (below_alloc w8 _)) trivial trivial
              have bA : Below w.heap.size w (w8.alloc (Obj.cells #[.int .i64 K3, .slice ua un uc] 57)) := b8.alloc b8.size _
              generalize (w8.alloc (Obj.cells #[.int .i64 K3, .slice ua un uc] 57)) = WA at sA gA oA lA bA ⊢
              have HP : Hid (parseL l = some (A.1, D.1, (some p2), acc, J)) := by show _ = _; rw [HPL.out, HE2.out, HJ.out]
              obtain ⟨tb, htb⟩ : ∃ tb, tb = decide (J < l.length) := ⟨_, rfl⟩
              have HTB : Hid (tb = decide (J < l.length)) := htb
              have q5 : WA.cell? ⟨gs, 5, none⟩ = some (.int .i64 0) := by rw [sA.cell 5]; rfl
              have q6 : WA.cell? ⟨gs, 6, none⟩ = some (.bool false) := by rw [sA.cell 6]; rfl
              have f5 := sA.free 5
              have f6 := sA.free 6
              have sB : SegAt (WA.setCell ⟨gs, 5, none⟩ (.int .i64 (J : Int))) gs (.int .i64 A.1) (.int .i64 D.1) (.bool true) (.slice ya yn yc) (.slice Ra Rn Rc) (.int .i64 (J : Int)) (.bool false) := sA.set 5 _
              have sC : SegAt ((WA.setCell ⟨gs, 5, none⟩ (.int .i64 (J : Int))).setCell ⟨gs, 6, none⟩ (.bool (decide (J < l.length)))) gs (.int .i64 A.1) (.int .i64 D.1) (.bool true) (.slice ya yn yc) (.slice Ra Rn Rc) (.int .i64 (J : Int)) (.bool (decide (J < l.length))) := sB.set 6 _
              have kC : KT (fun t => t ≠ 30) WA ((WA.setCell ⟨gs, 5, none⟩ (.int .i64 (J : Int))).setCell ⟨gs, 6, none⟩ (.bool (decide (J < l.length)))) := (KT.set sA 5 _).trans (KT.set sB 6 _)
              have hgne : w.heap.size ≠ gs := by have := RG5.out; omega
              have gC : SegAt ((WA.setCell ⟨gs, 5, none⟩ (.int .i64 (J : Int))).setCell ⟨gs, 6, none⟩ (.bool (decide (J < l.length)))) w.heap.size (.int .i64 0) (.int .i64 0) (.bool false) (.slice none 0 0) (.slice none 0 0) (.int .i64 0) (.bool false) := by unfold SegAt at gA ⊢; rw [Below.heap_setCell _ _ _ _ hgne, Below.heap_setCell _ _ _ _ hgne]; exact gA
              have HoC : Hid (Own w.heap.size ((WA.setCell ⟨gs, 5, none⟩ (.int .i64 (J : Int))).setCell ⟨gs, 6, none⟩ (.bool (decide (J < l.length)))) (.slice ya yn yc) p2) := oA.kt kC (by decide)
              have HlC : Hid (Ls w.heap.size ((WA.setCell ⟨gs, 5, none⟩ (.int .i64 (J : Int))).setCell ⟨gs, 6, none⟩ (.bool (decide (J < l.length)))) (.slice Ra Rn Rc) acc) := lA.kt kC (by decide) (by decide)
              have HbC : Hid (Below w.heap.size w ((WA.setCell ⟨gs, 5, none⟩ (.int .i64 (J : Int))).setCell ⟨gs, 6, none⟩ (.bool (decide (J < l.length))))) := (bA.setCell (p := ⟨gs, _, none⟩) (by have := RG5.out; show _ ≤ gs; omega) _).setCell (p := ⟨gs, _, none⟩) (by have := RG5.out; show _ ≤ gs; omega) _
              clear sA gA oA lA bA sB kC htb s8 g8 o8 l8 b8
              go_upto_region 19 with fail
              generalize ((WA.setCell ⟨gs, 5, none⟩ (.int .i64 (J : Int))).setCell ⟨gs, 6, none⟩ (.bool (decide (J < l.length)))) = WC at sC gC HoC HlC HbC ⊢
              clear q5 q6 f5 f6
              rw [← HTB.out] at sC
              have t0 : WC.cell? ⟨gs, 0, none⟩ = some (.int .i64 A.1) := by rw [sC.cell 0]; rfl
              have t1 : WC.cell? ⟨gs, 1, none⟩ = some (.int .i64 D.1) := by rw [sC.cell 1]; rfl
              have t2 : WC.cell? ⟨gs, 2, none⟩ = some (.bool true) := by rw [sC.cell 2]; rfl
              have t3 : WC.cell? ⟨gs, 3, none⟩ = some (.slice ya yn yc) := by rw [sC.cell 3]; rfl
              have t4 : WC.cell? ⟨gs, 4, none⟩ = some (.slice Ra Rn Rc) := by rw [sC.cell 4]; rfl
              have t5 : WC.cell? ⟨gs, 5, none⟩ = some (.int .i64 (J : Int)) := by rw [sC.cell 5]; rfl
              have t6 : WC.cell? ⟨gs, 6, none⟩ = some (.bool tb) := by rw [sC.cell 6]; rfl
              obtain ⟨y0, y1, y2, y3, y4, y5, y6, z0', z1', z2', z3', z4', z5', z6'⟩ := gC.all
              have a0 : SegAt _ w.heap.size (.int .i64 A.1) (.int .i64 0) (.bool false) (.slice none 0 0) (.slice none 0 0) (.int .i64 0) (.bool false) := gC.set 0 (.int .i64 A.1)
              have a1 : SegAt _ w.heap.size (.int .i64 A.1) (.int .i64 D.1) (.bool false) (.slice none 0 0) (.slice none 0 0) (.int .i64 0) (.bool false) := a0.set 1 (.int .i64 D.1)
              have a2 : SegAt _ w.heap.size (.int .i64 A.1) (.int .i64 D.1) (.bool true) (.slice none 0 0) (.slice none 0 0) (.int .i64 0) (.bool false) := a1.set 2 (.bool true)
              have a3 : SegAt _ w.heap.size (.int .i64 A.1) (.int .i64 D.1) (.bool true) (.slice ya yn yc) (.slice none 0 0) (.int .i64 0) (.bool false) := a2.set 3 (.slice ya yn yc)
              have a4 : SegAt _ w.heap.size (.int .i64 A.1) (.int .i64 D.1) (.bool true) (.slice ya yn yc) (.slice Ra Rn Rc) (.int .i64 0) (.bool false) := a3.set 4 (.slice Ra Rn Rc)
              have a5 : SegAt _ w.heap.size (.int .i64 A.1) (.int .i64 D.1) (.bool true) (.slice ya yn yc) (.slice Ra Rn Rc) (.int .i64 (J : Int)) (.bool false) := a4.set 5 (.int .i64 (J : Int))
              have A6 : Hid (SegAt _ w.heap.size (.int .i64 A.1) (.int .i64 D.1) (.bool true) (.slice ya yn yc) (.slice Ra Rn Rc) (.int .i64 (J : Int)) (.bool tb)) := a5.set 6 (.bool tb)
              have KC : KT (fun t => t ≠ 30) WC _ := (((((KT.set gC 0 (.int .i64 A.1)).trans (KT.set a0 1 (.int .i64 D.1))).trans (KT.set a1 2 (.bool true))).trans (KT.set a2 3 (.slice ya yn yc))).trans (KT.set a3 4 (.slice Ra Rn Rc))).trans (KT.set a4 5 (.int .i64 (J : Int))) |>.trans (KT.set a5 6 (.bool tb))
              have OF := HoC.out.kt KC (by decide)
              have LF := HlC.out.kt KC (by decide) (by decide)
              have BF := ((((((HbC.out.setCell (p := ⟨w.heap.size, 0, none⟩) (Nat.le_refl _) (.int .i64 A.1)).setCell (p := ⟨w.heap.size, 1, none⟩) (Nat.le_refl _) (.int .i64 D.1)).setCell (p := ⟨w.heap.size, 2, none⟩) (Nat.le_refl _) (.bool true)).setCell (p := ⟨w.heap.size, 3, none⟩) (Nat.le_refl _) (.slice ya yn yc)).setCell (p := ⟨w.heap.size, 4, none⟩) (Nat.le_refl _) (.slice Ra Rn Rc)).setCell (p := ⟨w.heap.size, 5, none⟩) (Nat.le_refl _) (.int .i64 (J : Int))).setCell (p := ⟨w.heap.size, 6, none⟩) (Nat.le_refl _) (.bool tb)
              have HF : Hid _ := And.intro OF (And.intro LF BF)
              clear sC gC a0 a1 a2 a3 a4 a5 KC OF LF BF
              go_wp2_with fail
              refine bodyPost_ret (ret16 _ rfl rfl A6.out) rfl ?_
              rw [HP.out]
              exact ⟨HF.out.2.2, (.slice ya yn yc), .slice Ra Rn Rc, by rw [HTB.out]; rfl, HF.out.1, HF.out.2.1⟩
          | some p3 =>
            obtain ⟨d1, d2, d3, d4⟩ := take_some hn3
            have hok3 := takeL_ok hn3
            rw [d1, d2, d4]
            rw [d3] at ou
            rw [show ((3 : UInt8).toNat : Int) = 3 from rfl]
            have HE3 : Hid (recsL l z0 = (acc ++ [p3]) ++ recsL l (z0 + rwide (acc ++ [p3]))) := by
              show _ = _
              rw [HE.out, ← HJ.out, recsL_some hn3, rwide_append, HJ.out, List.append_assoc]
              simp [rwide, Nat.add_assoc]
            have e3 : J + (9 + p3.length) = z0 + rwide (acc ++ [p3]) := by rw [rwide_append, HJ.out]; simp [rwide]; omega
            have hz3 : z0 + rwide (acc ++ [p3]) ≤ l.length := by rw [← e3]; exact hok3.1
            have HZ3 : Hid (z0 + rwide (acc ++ [p3]) ≤ l.length) := hz3
            have HW3 : Hid (wrap64 ((J : Int) + ((9 + p3.length : Nat) : Int)) = ((z0 + rwide (acc ++ [p3]) : Nat) : Int)) := by show _ = _; rw [← e3]; have := HL.out; unfold wrap64; omega
            have HMS : Hid (l.length - (z0 + rwide (acc ++ [p3])) < l.length - J) := less_more hok3.1 (Nat.lt_of_lt_of_le (by decide) (Nat.le_add_right 9 _)) e3
            have BA := below_alloc w8 (.cells #[.int .i64 3, .slice ua un uc] 57)
            have sA := s8.below BA
            have gA := g8.below BA
            have oA := o8.below BA
            have lA := l8.kt (S := fun _ => True) (KT.below BA) trivial trivial
            have bA := b8.trans (BA.mono b8.size)
            have uA := (ou.lower HBr.out.size).below BA
            obtain ⟨WA, hWA⟩ : ∃ WA, WA = w8.alloc (Obj.cells #[.int .i64 3, .slice ua un uc] 57) := ⟨_, rfl⟩
            rw [← hWA] at sA gA oA lA bA uA
            have p1 : WA.cell? ⟨w8.heap.size, 1, none⟩ = some (.slice ua un uc) := by rw [hWA, cell_of_row _ _ 1 _ 57 (0, 0) (heap_last w8 _)]; rfl
            have HWA : Hid (WA = w8.alloc (Obj.cells #[.int .i64 3, .slice ua un uc] 57)) := hWA
            have hacc : acc.length ≤ 1000000000 := by have a := rwide_ge acc; have b := HZ.out; have c := HL.out; have d := HJ.out; omega
            obtain ⟨R2, w9, hr9, hL9, hb9, hk9, hz9⟩ := lapp_run lA uA bA.size hacc
            obtain ⟨Ra2, Rn2, Rc2, rfl⟩ := hL9.shape
            have s9 := sA.kt hk9 (by decide)
            have q4 : WA.cell? ⟨gs, 4, none⟩ = some (.slice Ra Rn Rc) := by rw [sA.cell 4]; rfl
            have q9 : w9.cell? ⟨gs, 4, none⟩ = some (.slice Ra Rn Rc) := by rw [s9.cell 4]; rfl
            have f9 := s9.free 4
            have s10 : SegAt (w9.setCell ⟨gs, 4, none⟩ (.slice Ra2 Rn2 Rc2)) gs (.int .i64 A.1) (.int .i64 D.1) (.bool true) (.slice ya yn yc) (.slice Ra2 Rn2 Rc2) (.int .i64 0) (.bool false) := s9.set 4 _
            have hgne : w.heap.size ≠ gs := by have := RG5.out; omega
            have G10 : Hid (SegAt (w9.setCell ⟨gs, 4, none⟩ (.slice Ra2 Rn2 Rc2)) w.heap.size (.int .i64 0) (.int .i64 0) (.bool false) (.slice none 0 0) (.slice none 0 0) (.int .i64 0) (.bool false)) := by
              have h := gA.kt hk9 (by decide)
              show SegAt _ _ _ _ _ _ _ _ _
              unfold SegAt at h ⊢
              rw [Below.heap_setCell _ _ _ _ hgne]
              exact h
            have S10 : Hid (SegAt (w9.setCell ⟨gs, 4, none⟩ (.slice Ra2 Rn2 Rc2)) gs (.int .i64 A.1) (.int .i64 D.1) (.bool true) (.slice ya yn yc) (.slice Ra2 Rn2 Rc2) (.int .i64 0) (.bool false)) := s10
            have O10 : Hid (Own w.heap.size (w9.setCell ⟨gs, 4, none⟩ (.slice Ra2 Rn2 Rc2)) (.slice ya yn yc) p2) := (oA.kt hk9 (by decide)).kt (KT.set s9 4 _) (by decide)
            have L10 : Hid (Ls w.heap.size (w9.setCell ⟨gs, 4, none⟩ (.slice Ra2 Rn2 Rc2)) (.slice Ra2 Rn2 Rc2) (acc ++ [p3])) := hL9.kt (KT.set s9 4 _) (by decide) (by decide)
            have B10 : Hid (Below w.heap.size w (w9.setCell ⟨gs, 4, none⟩ (.slice Ra2 Rn2 Rc2))) := (bA.trans hb9).setCell (p := ⟨gs, _, none⟩) (by have := RG5.out; show _ ≤ gs; omega) _
            obtain ⟨m3, hm3⟩ : ∃ m3, m3 = 9 + p3.length := ⟨_, rfl⟩
            rw [← hm3] at HW3 ⊢
            have HEJ : Hid ((J : Int) + (m3 : Int) = ((z0 + rwide (acc ++ [p3]) : Nat) : Int)) := by show _ = _; rw [← e3, ← hm3, Int.natCast_add]
            have hmb : (m3 : Int) ≤ 1048585 := by have := hok3.2; omega
            clear h8 ou hb8 hn3 d1 d2 d3 d4 hok3 s8 g8 o8 l8 b8 BA sA gA oA lA bA uA hacc hL9 hb9 hk9 hz9 s9 s10 e3 hz3 hm3 hWA
            go_upto_region 15 with fail
            rw [← HWA.out]
            go_wp2_with (at_builtin; refine Lib.wpList_append_run _ rfl _ _ 28 28 rfl _ _ rfl rfl _ _ (hr9 _) ?_)
            refine ⟨⟨acc ++ [p3], _, by rw [HEJ.out], S10, G10, O10, L10, HZ3, HE3, B10⟩, ?_⟩
            rw [HEJ.out]
            show l.length - (((z0 + rwide (acc ++ [p3]) : Nat) : Int)).toNat < l.length - ((J : Nat) : Int).toNat
            rw [Int.toNat_natCast, Int.toNat_natCast]
            exact HMS.out
    · have dA : decide (A.1 < 1) = true := decide_eq_true (by omega)
      have HP : Hid (parseL l = none) := by show _ = _; unfold parseL; rw [HH.out, if_neg (fun h => hA1 h.2)]
      clear hE hA1
      go_upto_region 7 with fail
      obtain ⟨t0, t1, t2, t3, t4, t5, t6, z0, z1, z2, z3, z4, z5, z6⟩ := S5.out.all
      have HR : Hid (_ = W5) := reset7 S5.out
      go_wp2_with fail
      rw [HR.out]
      refine bodyPost_ret (ret16 _ rfl rfl S5.out) rfl ?_
      rw [HP.out]
      exact ⟨BB5.out, rfl⟩
  · have dE : (En != 0) = true := by simp [hE]
    have HP : Hid (parseL l = none) := by show _ = _; unfold parseL; rw [HH.out, if_neg (fun h => hE h.1)]
    clear hE
    go_upto_region 7 with fail
    obtain ⟨t0, t1, t2, t3, t4, t5, t6, z0, z1, z2, z3, z4, z5, z6⟩ := S5.out.all
    have HR : Hid (_ = W5) := reset7 S5.out
    go_wp2_with fail
    rw [HR.out]
    refine bodyPost_ret (ret16 _ rfl rfl S5.out) rfl ?_
    rw [HP.out]
    exact ⟨BB5.out, rfl⟩
theorem rparse_calls (v : Value) (l : List UInt8) (w : World) (hv : Hb w v l) (hl : l.length ≤ 1000000000) : Calls Tryd.prog 16 #[v] w (PX w l (parseL l)) := by
  cases hn : takeL l 0 1 with
  | none =>
    have h : parseL l = none := by unfold parseL headOf; rw [hn]
    rw [h]
    exact rparse_none1 v l w hn hv hl
  | some p => exact rparse_some v l p w hn hv hl
end Go.Proofs.YthakbkkopneilaaDoor
