/- The walk of DiskNobody. -/
import Derived.Test.YtfjcjaojbdcpeaaNW
namespace Go.Proofs.Ytfjcjaojbdcpeaa
open Go.ChangeShapes Go.WideShapes Go.ChangeAt Go.RowKit Go.Maps
set_option maxHeartbeats 4000000 in
set_option maxRecDepth 100000 in
theorem nobody_walk (zone n : Int) (ba : Option Addr) (bn bc : Nat) (ka : Option Addr) (kn kc : Nat) (w : World) :
    Calls Try.prog 6 #[.int .i64 zone, .int .i64 n, .slice ba bn bc, .slice ka kn kc] w fun e w' => e = .returned (.bool true) ∧ Below w.heap.size w w' := by
  obtain ⟨W0, hW0⟩ : ∃ W0, W0 = (w.alloc (.cells #[.int .i64 0, .int .i64 0, .bool false, .map none] 57)).alloc (.cells #[.pointer none, .pointer (some ⟨w.heap.size, 0, none⟩)] 23) := ⟨_, rfl⟩
  have e1 : (w.alloc (.cells #[.int .i64 0, .int .i64 0, .bool false, .map none] 57)).heap.size = w.heap.size + 1 := by simp
  have hr : Bk W0 (w.heap.size + 1) #[.pointer none, .pointer (some ⟨w.heap.size, 0, none⟩)] 23 := by
    have := Bk.new (w.alloc (.cells #[.int .i64 0, .int .i64 0, .bool false, .map none] 57)) #[.pointer none, .pointer (some ⟨w.heap.size, 0, none⟩)] 23
    rw [e1] at this
    rw [hW0]
    exact this
  have hm : W0.cell? ⟨w.heap.size, 3, none⟩ = some (.map none) := by
    rw [hW0]
    exact cell_below ((Bk.new w #[.int .i64 0, .int .i64 0, .bool false, .map none] 57).cell 3) (bel1 _ _)
  have HCell : Hid (∀ j : Nat, j < 2 → ∃ d, W0.cell? ⟨w.heap.size + 1, j, none⟩ = some d ∧ Nob W0 d) := fun j hj => by
    match j, hj with
    | 0, _ => exact ⟨_, hr.cell 0, .inl rfl⟩
    | 1, _ => exact ⟨_, hr.cell 1, .inr ⟨w.heap.size, rfl, hm⟩⟩
  have HB0 : Hid (Below w.heap.size w W0) := by rw [hW0]; exact bel2 (bel1 _ _) (bel1 _ _)
  have HW0 : Hid (W0 = (w.alloc (.cells #[.int .i64 0, .int .i64 0, .bool false, .map none] 57)).alloc (.cells #[.pointer none, .pointer (some ⟨w.heap.size, 0, none⟩)] 23)) := hW0
  clear hW0 e1 hr hm
  go_enter Try.func6, Try.ntmps6
  go_wp2_with fail
  rw [← HW0.out]
  go_loopw [10, 11, 12, 17] (fun _ _ _ i wr => ∃ j : Nat, j ≤ 2 ∧ i = .int .i64 (j : Int) ∧ Hid (Below W0.heap.size W0 wr)) (fun _ _ _ i _ => 2 - (intOf i).toNat)
  case atStart => exact ⟨0, by decide, rfl, Below.refl _ _⟩
  case round =>
    obtain ⟨j, hj, rfl, HB⟩ := hrel
    by_cases hlt : j < 2
    · have hjl : (j : Int) < 2 := by omega
      obtain ⟨d, hd, hn⟩ := HCell.out j hlt
      have hc := cell_below hd HB.out
      have HD : Hid (Nob W0 d) := hn
      clear hd hn
      go_wp2_with fail
      refine (read0 d zone _ (HD.out.below HB.out)).mono ?_
      rintro e w0 ⟨rfl, hb⟩
      have T0 : Hid (Below W0.heap.size W0 w0) := bel2 HB.out hb
      clear hb hc
      go_wp2_with fail
      refine (append0 d zone ba bn bc _ (HD.out.below T0.out)).mono ?_
      rintro e w1 ⟨rfl, hb⟩
      have T1 : Hid (Below W0.heap.size W0 w1) := bel2 T0.out hb
      clear hb
      go_wp2_with fail
      refine (sync0 d _ (HD.out.below T1.out)).mono ?_
      rintro e w2 ⟨rfl, hb⟩
      have T2 : Hid (Below W0.heap.size W0 w2) := bel2 T1.out hb
      clear hb
      go_wp2_with fail
      refine (cut0 d zone n _ (HD.out.below T2.out)).mono ?_
      rintro e w3 ⟨rfl, hb⟩
      have T3 : Hid (Below W0.heap.size W0 w3) := bel2 T2.out hb
      clear hb
      go_wp2_with fail
      refine (crash0 d ka kn kc _ (HD.out.below T3.out)).mono ?_
      rintro e w4 ⟨rfl, hb⟩
      have T4 : Hid (Below W0.heap.size W0 w4) := bel2 T3.out hb
      clear hb
      go_wp2_with fail
      refine (fuse0 d n _ (HD.out.below T4.out)).mono ?_
      rintro e w5 ⟨rfl, hb⟩
      have T5 : Hid (Below W0.heap.size W0 w5) := bel2 T4.out hb
      clear hb
      go_wp2_with fail
      refine (room0 d n _ (HD.out.below T5.out)).mono ?_
      rintro e w6 ⟨rfl, hb⟩
      have T6 : Hid (Below W0.heap.size W0 w6) := bel2 T5.out hb
      clear hb
      go_wp2_with fail
      refine (used0 d _ (HD.out.below T6.out)).mono ?_
      rintro e w7 ⟨rfl, hb⟩
      have T7 : Hid (Below W0.heap.size W0 w7) := bel2 T6.out hb
      clear hb
      go_wp2_with fail
      refine (zones0 d _ (HD.out.below T7.out)).mono ?_
      rintro e w8 ⟨rfl, hb⟩
      have T8 : Hid (Below W0.heap.size W0 w8) := bel2 T7.out hb
      clear hb
      go_wp2_with fail
      refine (dead0 d _ (HD.out.below T8.out)).mono ?_
      rintro e w9 ⟨rfl, hb⟩
      have T9 : Hid (Below W0.heap.size W0 w9) := bel2 T8.out hb
      clear hb
      go_wp2_with fail
      refine (copy0 d _ (HD.out.below T9.out)).mono ?_
      rintro e w10 ⟨rfl, hb⟩
      have T10 : Hid (Below W0.heap.size W0 w10) := bel2 T9.out hb
      clear hb
      go_wp2_with fail
      refine ⟨⟨j + 1, hlt, by first | rfl | (rw [Int.natCast_add]; rfl), T10⟩, ?_⟩
      simp only [intOf]
      omega
    · obtain rfl : j = 2 := by omega
      go_wp2_with fail
      refine (awake_calls _).mono ?_
      rintro e w1 ⟨rfl, hb⟩
      have T : Hid (Below w.heap.size w w1) := bel2 (bel2 HB0.out HB.out) hb
      clear hb
      go_wp2_with fail
      go_ret
      exact ⟨rfl, T.out⟩
end Go.Proofs.Ytfjcjaojbdcpeaa
