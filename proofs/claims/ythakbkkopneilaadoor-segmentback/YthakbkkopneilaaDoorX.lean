/- The contract of awake; the walk of SegmentFrames. -/
import Derived.Test.YthakbkkopneilaaDoorW
namespace Go.Proofs.YthakbkkopneilaaDoor
open Go.ChangeShapes Go.WideShapes Go.ChangeAt Go.RowKit
theorem head35 : headOf (headL 3 5) = some (3, 5, 11) := by decide +kernel
theorem take35 : takeL (headL 3 5) 11 2 = none := by decide +kernel
theorem recs35 : recsL (headL 3 5) 11 = [] := by decide +kernel
theorem parse35 : parseL (headL 3 5) = some (3, 5, none, [], 11) := by
  unfold parseL
  rw [head35]
  simp only
  rw [take35]
  simp only
  rw [recs35]
  rfl
theorem len35 : (headL 3 5).length = 11 := by decide +kernel
set_option maxHeartbeats 1000000 in
set_option maxRecDepth 100000 in
theorem awake_calls (w : World) (ht : Tb w) : Calls Tryd.prog 14 #[] w fun e w' => e = .returned (.bool true) ∧ Below w.heap.size w w' := by
  have HC : Hid (Calls Tryd.prog 8 #[.int .i64 3, .int .i64 5] w (NB w (headL 3 5))) := head_calls 3 5 (by omega) (by omega) w ht
  have HT : Hid (Tb w) := ht
  clear ht
  go_enter Tryd.func14, Tryd.ntmps14
  go_wp2_with fail
  refine HC.out.mono ?_
  rintro e w1 ⟨v1, rfl, ho1, hb1⟩
  have B1 : Hid (Below w.heap.size w w1) := hb1
  have PC : Hid (Calls Tryd.prog 15 #[v1] w1 (PX w1 (headL 3 5) (some (3, 5, none, [], 11)))) := by
    have := parse_some v1 (headL 3 5) w1 3 5 11 head35 ho1.hb (HT.out.below hb1) (by rw [len35]; omega)
    rwa [parse35] at this
  obtain ⟨a1, n1, c1, rfl⟩ := ho1.hb.shape
  clear ho1 hb1
  go_wp2_with fail
  refine PC.out.mono ?_
  rintro e w2 ⟨hb2, x, R, rfl, ox, lR⟩
  obtain ⟨xa, xn, xc, rfl⟩ := ox.hb.shape
  obtain ⟨Ra, Rn, Rc, rfl⟩ := lR.shape
  have B2 : Hid (Below w.heap.size w w2) := B1.out.trans (hb2.mono B1.out.size)
  have hd : decide (11 < (headL 3 5).length) = false := by rw [len35]; rfl
  rw [hd]
  clear ox lR hb2 hd
  go_wp2_with fail
  go_ret
  exact ⟨rfl, B2.out.alloc B2.out.size _⟩
set_option maxHeartbeats 1000000 in
theorem frames_walk (n f : Int) (v : Value) (l : List UInt8) (w : World) (hn : n < 9223372036854775808) (hf : f < 9223372036854775808) (hv : Hb w v l) (hl : l.length ≤ 140737488355328) (ht : Tb w) :
    Calls Tryd.prog 3 #[.int .i64 n, .int .i64 f, v] w fun e w' => e = .returned (.bool true) ∧ Below w.heap.size w w' := by
  have HT : Hid (∀ W, Below w.heap.size w W → Tb W) := fun W hW => ht.below hW
  have H1 : Hid (∀ W, Below w.heap.size w W → Calls Tryd.prog 8 #[.int .i64 n, .int .i64 f] W (NB W (headL n f))) := fun W hW => head_calls n f hn hf W (ht.below hW)
  have H2 : Hid (∀ W, Calls Tryd.prog 9 #[.int .i64 n, .int .i64 f] W (NB W (headL n f))) := fun W => rhead_calls n f hn hf W
  have S1 : Hid (∀ W, Below w.heap.size w W → Calls Tryd.prog 10 #[v] W (NB W (sealR 2 l))) := fun W hW => snap_calls v l W (hv.below hW) (ht.below hW) hl
  have S2 : Hid (∀ W, Below w.heap.size w W → Calls Tryd.prog 11 #[v] W (NB W (sealR 2 l))) := fun W hW => rsnap_calls v l W (hv.below hW)
  have R1 : Hid (∀ W, Below w.heap.size w W → Calls Tryd.prog 12 #[v] W (NB W (sealR 3 l))) := fun W hW => record_calls v l W (hv.below hW) (ht.below hW) hl
  have R2 : Hid (∀ W, Below w.heap.size w W → Calls Tryd.prog 13 #[v] W (NB W (sealR 3 l))) := fun W hW => rrecord_calls v l W (hv.below hW)
  obtain ⟨va, vn, vc, rfl⟩ := hv.shape
  clear hv ht hl hn hf
  go_enter Tryd.func3, Tryd.ntmps3
  go_wp2_with fail
  refine (H1.out w (Below.refl _ _)).mono ?_
  rintro e w1 ⟨v1, rfl, ho1, hb1⟩
  have O1 : Hid (Own w.heap.size w1 v1 (headL n f)) := ho1
  have B1 : Hid (Below w.heap.size w w1) := hb1
  clear ho1 hb1
  go_wp2_with fail
  refine (H2.out w1).mono ?_
  rintro e w2 ⟨v2, rfl, ho2, hb2⟩
  have B2 : Hid (Below w.heap.size w w2) := B1.out.trans (hb2.mono B1.out.size)
  have E1 : Hid (Calls Tryd.prog 7 #[v1, v2] w2 fun e w' => e = .returned (.bool true) ∧ w' = w2) := by
    have := equal_calls v1 v2 (headL n f) (headL n f) w2 (O1.out.below hb2).holds ho2.holds
    rwa [show (headL n f == headL n f) = true by simp] at this
  clear ho2 hb2
  go_wp2_with fail
  refine E1.out.mono ?_
  rintro e w3 ⟨rfl, hw3⟩
  have hw4 := hw3.symm
  subst hw4
  clear hw3
  go_wp2_with fail
  refine (S1.out w2 B2.out).mono ?_
  rintro e w3 ⟨v3, rfl, ho3, hb3⟩
  have O3 : Hid (Own w2.heap.size w3 v3 (sealR 2 l)) := ho3
  have B3 : Hid (Below w.heap.size w w3) := B2.out.trans (hb3.mono B2.out.size)
  clear ho3 hb3
  go_wp2_with fail
  refine (S2.out w3 B3.out).mono ?_
  rintro e w4 ⟨v4, rfl, ho4, hb4⟩
  have B4 : Hid (Below w.heap.size w w4) := B3.out.trans (hb4.mono B3.out.size)
  have E2 : Hid (Calls Tryd.prog 7 #[v3, v4] w4 fun e w' => e = .returned (.bool true) ∧ w' = w4) := by
    have := equal_calls v3 v4 (sealR 2 l) (sealR 2 l) w4 (O3.out.below hb4).holds ho4.holds
    rwa [show (sealR 2 l == sealR 2 l) = true by simp] at this
  clear ho4 hb4
  go_wp2_with fail
  refine E2.out.mono ?_
  rintro e w5 ⟨rfl, hw5⟩
  have hw6 := hw5.symm
  subst hw6
  clear hw5
  go_wp2_with fail
  refine (R1.out w4 B4.out).mono ?_
  rintro e w5 ⟨v5, rfl, ho5, hb5⟩
  have O5 : Hid (Own w4.heap.size w5 v5 (sealR 3 l)) := ho5
  have B5 : Hid (Below w.heap.size w w5) := B4.out.trans (hb5.mono B4.out.size)
  clear ho5 hb5
  go_wp2_with fail
  refine (R2.out w5 B5.out).mono ?_
  rintro e w6 ⟨v6, rfl, ho6, hb6⟩
  have B6 : Hid (Below w.heap.size w w6) := B5.out.trans (hb6.mono B5.out.size)
  have E3 : Hid (Calls Tryd.prog 7 #[v5, v6] w6 fun e w' => e = .returned (.bool true) ∧ w' = w6) := by
    have := equal_calls v5 v6 (sealR 3 l) (sealR 3 l) w6 (O5.out.below hb6).holds ho6.holds
    rwa [show (sealR 3 l == sealR 3 l) = true by simp] at this
  clear ho6 hb6
  go_wp2_with fail
  refine E3.out.mono ?_
  rintro e w7 ⟨rfl, hw7⟩
  have hw8 := hw7.symm
  subst hw8
  clear hw7
  go_wp2_with fail
  refine (awake_calls w6 (HT.out w6 B6.out)).mono ?_
  rintro e w7 ⟨rfl, hb7⟩
  have B7 : Hid (Below w.heap.size w w7) := B6.out.trans (hb7.mono B6.out.size)
  clear hb7
  go_wp2_with fail
  go_ret
  exact ⟨rfl, B7.out⟩
end Go.Proofs.YthakbkkopneilaaDoor
