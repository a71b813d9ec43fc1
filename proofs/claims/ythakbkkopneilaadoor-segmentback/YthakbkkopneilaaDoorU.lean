/- The contract of readHead: a right head is read; else it panics. -/
import Derived.Test.YthakbkkopneilaaDoorT
namespace Go.Proofs.YthakbkkopneilaaDoor
open Go.ChangeShapes Go.WideShapes Go.ChangeAt Go.RowKit
/-- What a right head says: the number, how many records were ahead, how many bytes the head has. -/
def headOf (l : List UInt8) : Option (Int × Int × Nat) :=
  match takeL l 0 1 with
  | none => none
  | some p =>
    if PK.en (PK.sNum 9223372036854775807 (PK.sNum 9223372036854775807 p 0).2.1 (PK.sNum 9223372036854775807 p 0).2.2).2.1 (PK.sNum 9223372036854775807 (PK.sNum 9223372036854775807 p 0).2.1 (PK.sNum 9223372036854775807 p 0).2.2).2.2 = 0 ∧ 1 ≤ (PK.sNum 9223372036854775807 p 0).1 then
      some ((PK.sNum 9223372036854775807 p 0).1, (PK.sNum 9223372036854775807 (PK.sNum 9223372036854775807 p 0).2.1 (PK.sNum 9223372036854775807 p 0).2.2).1, 9 + p.length)
    else none
/-- What a call of readHead leaves. -/
def RH (w0 w : World) (g : Nat) (c2 c3 c4 c6 : Value) (r : Option (Int × Int × Nat)) (e : Ending) (w' : World) : Prop :=
  Below w0.heap.size w0 w' ∧ KX w.heap.size g w w' ∧ w.heap.size ≤ w'.heap.size ∧
  match r with
  | some (n, f, sz) => e = .returned (.tuple #[]) ∧ SegAt w' g (.int .i64 n) (.int .i64 f) c2 c3 c4 (.int .i64 (sz : Int)) c6
  | none => e = .panicked [{ v := .iface 50 (.agg #[.int .i64 10]), recovered := false }] ∧ ∃ d0 d1 d5, SegAt w' g d0 d1 c2 c3 c4 d5 c6
set_option maxHeartbeats 1000000 in
set_option maxRecDepth 100000 in
theorem readHead_calls (w0 w : World) (g : Nat) (c2 c3 c4 c6 : Value) (v : Value) (l : List UInt8) (hS : SegAt w g (.int .i64 0) (.int .i64 0) c2 c3 c4 (.int .i64 0) c6) (hv : Hb w0 v l) (ht : Tb w0) (hb : Below w0.heap.size w0 w) (hg : w0.heap.size ≤ g) (hl : l.length ≤ 1000000000) :
    Calls Tryd.prog 31 #[.pointer (some ⟨g, 0, none⟩), v] w (RH w0 w g c2 c3 c4 c6 (headOf l)) := by
  have TC : Hid (Calls Tryd.prog 32 #[.pointer (some ⟨g, 0, none⟩), v, .int .i64 1] w (TK w0 w g (.int .i64 0) (.int .i64 0) c2 c3 c4 c6 0 (takeL l 0 1))) := take_calls w0 w g (.int .i64 0) (.int .i64 0) c2 c3 c4 c6 0 v l 1 hS hv ht hb hg (Nat.zero_le _) hl
  have HS : Hid (SegAt w g (.int .i64 0) (.int .i64 0) c2 c3 c4 (.int .i64 0) c6) := hS
  have HG : Hid (w0.heap.size ≤ g) := hg
  have HB : Hid (Below w0.heap.size w0 w) := hb
  obtain ⟨va, vn, vc, rfl⟩ := hv.shape
  clear hS hv ht hb hg hl
  go_enter Tryd.func31, Tryd.ntmps31
  go_wp2_with fail
  refine TC.out.mono ?_
  intro e w1 hT
  obtain ⟨b1, k1, z1, hT⟩ := hT
  have BB1 : Hid (Below w0.heap.size w0 w1) := b1
  have KK1 : Hid (KX w.heap.size g w w1 ∧ w.heap.size ≤ w1.heap.size) := ⟨k1, z1⟩
  clear b1 k1 z1
  cases hn : takeL l 0 1 with
  | none =>
    rw [hn] at hT
    obtain ⟨rfl, s1⟩ := hT
    have HH : Hid (headOf l = none) := by show _ = _; unfold headOf; rw [hn]
    have S1 : Hid (SegAt w1 g (.int .i64 0) (.int .i64 0) c2 c3 c4 (.int .i64 ((0 : Nat) : Int)) c6) := s1
    clear s1 hn
    go_wp2_with fail
    refine ⟨rfl, ?_⟩
    rw [HH.out]
    exact ⟨BB1.out, KK1.out.1, KK1.out.2, rfl, _, _, _, S1.out⟩
  | some p =>
    rw [hn] at hT
    obtain ⟨x, rfl, ox, s1⟩ := hT
    obtain ⟨A, hA⟩ : ∃ A, A = PK.sNum 9223372036854775807 p 0 := ⟨_, rfl⟩
    obtain ⟨D, hD⟩ : ∃ D, D = PK.sNum 9223372036854775807 A.2.1 A.2.2 := ⟨_, rfl⟩
    obtain ⟨En, hEn⟩ : ∃ En, En = PK.en D.2.1 D.2.2 := ⟨_, rfl⟩
    have HH : Hid (headOf l = if En = 0 ∧ 1 ≤ A.1 then some (A.1, D.1, 9 + p.length) else none) := by show _ = _; unfold headOf; rw [hn]; simp only; rw [← hA, ← hD, ← hEn]
    have HPl : Hid (p.length ≤ 1048576) := by
      show _ ≤ _
      unfold takeL at hn
      split at hn
      · rename_i k' p' hnx
        split at hn
        · injection hn with hn; subst hn; exact (nextL_ok hnx).2
        · cases hn
      · cases hn
    have OC : Hid (Calls Tryd.prog 54 #[x] w1 _) := PK.open_calls x p w1 ox.holds (by have := HPl.out; omega)
    obtain ⟨xa, xn, xc, rfl⟩ := ox.hb.shape
    have S1 : Hid (SegAt w1 g (.int .i64 0) (.int .i64 0) c2 c3 c4 (.int .i64 ((0 + (9 + p.length) : Nat) : Int)) c6) := s1
    clear s1 hn ox
    go_wp2_with fail
    refine OC.out.mono ?_
    rintro e w2 ⟨rg, rh, rfl, h1, h2, h3, st, hb2⟩
    have hgw : g < w1.heap.size := World.block_lt_of_cell? w1 ⟨g, 0, none⟩ (by rw [S1.out.cell 0]; rfl)
    have BB2 : Hid (Below w0.heap.size w0 w2) := BB1.out.trans (hb2.mono BB1.out.size)
    have KK2 : Hid (KX w.heap.size g w w2 ∧ w.heap.size ≤ w2.heap.size) := ⟨KK1.out.1.trans (KX.below hb2 KK1.out.2), Nat.le_trans KK1.out.2 hb2.size⟩
    have S2 : Hid (SegAt w2 g (.int .i64 0) (.int .i64 0) c2 c3 c4 (.int .i64 ((0 + (9 + p.length) : Nat) : Int)) c6) := S1.out.below hb2
    have HR : Hid (w.heap.size ≤ rh ∧ w0.heap.size ≤ rh ∧ rh < rg ∧ g < rh) := ⟨Nat.le_trans KK1.out.2 h1, Nat.le_trans BB1.out.size h1, h2, by omega⟩
    have N1 : Hid (Calls Tryd.prog 55 #[.pointer (some ⟨rg, 0, none⟩), .int .i64 9223372036854775807] w2 (PK.Rs w2 rg rh (.int .i64 A.1) A.2.1 A.2.2)) := by rw [hA]; exact PK.num_st w2 rg rh p 0 9223372036854775807 st
    clear st h1 h2 h3 hb2 hgw hA
    go_wp2_with fail
    refine N1.out.mono ?_
    rintro e w3 ⟨rfl, st3, kb3⟩
    have r1 := HR.out
    have BB3 : Hid (Below w0.heap.size w0 w3) := kb_below BB2.out kb3 BB2.out.size (by omega)
    have KK3 : Hid (KX w.heap.size g w w3 ∧ w.heap.size ≤ w3.heap.size) := ⟨KK2.out.1.trans (KX.kb kb3 KK2.out.2 (by omega)), Nat.le_trans KK2.out.2 kb3.2.2.2.1⟩
    have S3 : Hid (SegAt w3 g (.int .i64 0) (.int .i64 0) c2 c3 c4 (.int .i64 ((0 + (9 + p.length) : Nat) : Int)) c6) := S2.out.kb kb3 (by omega)
    have N2 : Hid (Calls Tryd.prog 55 #[.pointer (some ⟨rg, 0, none⟩), .int .i64 9223372036854775807] w3 (PK.Rs w3 rg rh (.int .i64 D.1) D.2.1 D.2.2)) := by rw [hD]; exact PK.num_st w3 rg rh A.2.1 A.2.2 9223372036854775807 st3
    clear st3 kb3 hD r1
    go_wp2_with fail
    refine N2.out.mono ?_
    rintro e w4 ⟨rfl, st4, kb4⟩
    have r1 := HR.out
    have BB4 : Hid (Below w0.heap.size w0 w4) := kb_below BB3.out kb4 BB3.out.size (by omega)
    have KK4 : Hid (KX w.heap.size g w w4 ∧ w.heap.size ≤ w4.heap.size) := ⟨KK3.out.1.trans (KX.kb kb4 KK3.out.2 (by omega)), Nat.le_trans KK3.out.2 kb4.2.2.2.1⟩
    have s4 : SegAt w4 g (.int .i64 0) (.int .i64 0) c2 c3 c4 (.int .i64 ((0 + (9 + p.length) : Nat) : Int)) c6 := S3.out.kb kb4 (by omega)
    have q0 : w4.cell? ⟨g, 0, none⟩ = some (.int .i64 0) := by rw [s4.cell 0]; rfl
    have q1 : w4.cell? ⟨g, 1, none⟩ = some (.int .i64 0) := by rw [s4.cell 1]; rfl
    have f0 := s4.free 0
    have f1 := s4.free 1
    have s5 : SegAt (w4.setCell ⟨g, 0, none⟩ (.int .i64 A.1)) g (.int .i64 A.1) (.int .i64 0) c2 c3 c4 (.int .i64 ((0 + (9 + p.length) : Nat) : Int)) c6 := s4.set 0 _
    have s6 : SegAt ((w4.setCell ⟨g, 0, none⟩ (.int .i64 A.1)).setCell ⟨g, 1, none⟩ (.int .i64 D.1)) g (.int .i64 A.1) (.int .i64 D.1) c2 c3 c4 (.int .i64 ((0 + (9 + p.length) : Nat) : Int)) c6 := s5.set 1 _
    obtain ⟨W6, hW6⟩ : ∃ W6, W6 = (w4.setCell ⟨g, 0, none⟩ (.int .i64 A.1)).setCell ⟨g, 1, none⟩ (.int .i64 D.1) := ⟨_, rfl⟩
    have kb6 : PK.KB g w4 W6 := by rw [hW6]; exact (PK.KB.setCell g w4 0 _).trans (PK.KB.setCell g _ 1 _)
    have E6 : Hid (Calls Tryd.prog 56 #[.pointer (some ⟨rg, 0, none⟩)] W6 fun x w' => x = .returned (.int .i64 En) ∧ w' = W6) := by rw [hEn]; exact PK.end_st W6 rg rh D.2.1 D.2.2 (st4.kb kb6 (by omega) (by omega))
    have BB6 : Hid (Below w0.heap.size w0 W6) := kb_below BB4.out kb6 BB4.out.size HG.out
    have KK6 : Hid (KX w.heap.size g w W6 ∧ w.heap.size ≤ W6.heap.size) := by
      refine ⟨KK4.out.1.trans ?_, Nat.le_trans KK4.out.2 kb6.2.2.2.1⟩
      rw [hW6]
      exact (KX.set _ _ _).trans (KX.set _ _ _)
    rw [← hW6] at s6
    have S6 : Hid (SegAt W6 g (.int .i64 A.1) (.int .i64 D.1) c2 c3 c4 (.int .i64 ((0 + (9 + p.length) : Nat) : Int)) c6) := s6
    have u0 : W6.cell? ⟨g, 0, none⟩ = some (.int .i64 A.1) := by rw [s6.cell 0]; rfl
    have HW6 : Hid (W6 = _) := hW6
    clear st4 kb4 s4 s5 s6 kb6 r1 hEn hW6
    go_wp2_with fail
    rw [← HW6.out]
    refine E6.out.mono ?_
    rintro e w7 ⟨rfl, hw7⟩
    have hw8 := hw7.symm
    subst hw8
    clear hw7 q0 q1 f0 f1
    by_cases hE : En = 0
    · have dE : (En != 0) = false := by simp [hE]
      by_cases hA1 : 1 ≤ A.1
      · have dA : decide (A.1 < 1) = false := decide_eq_false (by omega)
        have HI : Hid (En = 0 ∧ 1 ≤ A.1) := ⟨hE, hA1⟩
        clear hE hA1
        go_wp2_with fail
        first | go_end0 | refine bodyPost_ret (results_none rfl _ _ _) rfl ?_
        rw [HH.out, if_pos HI.out]
        refine ⟨BB6.out, KK6.out.1, KK6.out.2, rfl, ?_⟩
        have := S6.out
        rwa [Nat.zero_add] at this
      · have dA : decide (A.1 < 1) = true := decide_eq_true (by omega)
        have HI : Hid (¬ (En = 0 ∧ 1 ≤ A.1)) := fun h => hA1 h.2
        clear hE hA1
        go_wp2_with fail
        refine ⟨rfl, ?_⟩
        rw [HH.out, if_neg HI.out]
        exact ⟨BB6.out, KK6.out.1, KK6.out.2, rfl, _, _, _, S6.out⟩
    · have dE : (En != 0) = true := by simp [hE]
      have HI : Hid (¬ (En = 0 ∧ 1 ≤ A.1)) := fun h => hE h.1
      clear hE
      go_wp2_with fail
      refine ⟨rfl, ?_⟩
      rw [HH.out, if_neg HI.out]
      exact ⟨BB6.out, KK6.out.1, KK6.out.2, rfl, _, _, _, S6.out⟩
end Go.Proofs.YthakbkkopneilaaDoor
