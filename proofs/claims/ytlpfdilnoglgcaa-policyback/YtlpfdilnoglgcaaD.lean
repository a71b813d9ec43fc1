/- The contract of the reference's Delay; awake. -/
import Derived.Test.YtlpfdilnoglgcaaC
namespace Go.Proofs.Ytlpfdilnoglgcaa
open Go.ChangeShapes Go.WideShapes Go.ChangeAt Go.RowKit
open FM
theorem refDelay_no (f : Int) (c : Nat) (m a : Int) (h : may f c m = false) (w : World) :
    Calls Try.prog 10 #[.agg #[.int .i64 f, .int .u64 (c : Int), .int .i64 m], .int .i64 a] w fun e w' => e = .returned (.int .i64 0) ∧ Below w.heap.size w w' := by
  go_enter Try.func10, Try.ntmps10
  go_wp2_with fail
  refine (refCheck_calls _ _ _ _).mono ?_
  rintro e w1 ⟨rfl, hb⟩
  have HB : Hid (Below w.heap.size w w1) := bel2 (bel1 _ _) hb
  clear hb
  simp only [h, ce, Bool.false_eq_true, if_false]
  clear h
  go_wp2_with fail
  go_ret
  exact ⟨rfl, HB.out⟩
set_option maxRecDepth 100000 in
theorem refDelay_small_false (f : Int) (c : Nat) (m : Int) (a : Int) (h : may f c m = true) (ha : a < 1) (hx : isN (pw (floatOfInt .f64 f) c 0) = false) (w : World) :
    Calls Try.prog 10 #[.agg #[.int .i64 f, .int .u64 (c : Int), .int .i64 m], .int .i64 a] w fun e w' => e = .returned (.int .i64 (whA (pw (floatOfInt .f64 f) c 0) m).1) ∧ Below w.heap.size w w' := by
  have hn := whA_nan (pw (floatOfInt .f64 f) c 0) m (may_most h)
  rw [hx] at hn
  simp only [Bool.false_eq_true, if_false] at hn
  have W2 := fun w => refWhole_calls (pw (floatOfInt .f64 f) c 0) m w
  rw [hn] at W2
  clear hn hx
  have h1 : a ≤ 1000 := by omega
  go_enter Try.func10, Try.ntmps10
  go_wp2_with fail
  refine (refCheck_calls _ _ _ _).mono ?_
  rintro e w1 ⟨rfl, hb⟩
  have HB0 : Hid (Below w.heap.size w w1) := bel2 (bel1 _ _) hb
  have HW0 : Hid (Below (w.alloc (.cells #[.int .i64 f, .int .u64 (c : Int), .int .i64 m] 24)).heap.size (w.alloc (.cells #[.int .i64 f, .int .u64 (c : Int), .int .i64 m] 24)) w1) := hb
  obtain ⟨k0, k1, k2⟩ := cells3 hb (box3 w _ _ _ _)
  clear hb
  simp only [h, ce, if_true]
  clear h
  go_wp2_with fail
  refine (refOf_calls _ _).mono ?_
  rintro e w2 ⟨rfl, rfl⟩
  go_wp2_with fail
  clear k0 k1 k2
  go_loopw [5, 6] (fun x i wr => ∃ j : Nat, j ≤ 0 ∧ i = .int .i64 ((j : Int) + 1) ∧ x = .int .u64 ((pw (floatOfInt .f64 f) c j : Nat) : Int) ∧ Hid (Below w.heap.size w wr) ∧ Hid (Below (w.alloc (.cells #[.int .i64 f, .int .u64 (c : Int), .int .i64 m] 24)).heap.size (w.alloc (.cells #[.int .i64 f, .int .u64 (c : Int), .int .i64 m] 24)) wr)) (fun _ i _ => 0 + 1 - (intOf i).toNat)
  case atStart => exact ⟨0, Nat.zero_le _, rfl, rfl, (HB0.out), (HW0.out)⟩
  case round =>
    obtain ⟨j, hj, rfl, rfl, HB, HW⟩ := hrel
    obtain ⟨k0, k1, k2⟩ := cells3 HW.out (box3 w _ _ _ _)
    by_cases hlt : j < 0
    · omega
    · obtain rfl : j = 0 := by omega
      go_wp2_with fail
      refine (W2 _).mono ?_
      rintro e w2 ⟨rfl, rfl⟩
      go_wp2_with fail
      go_ret
      exact ⟨rfl, HB.out⟩
set_option maxRecDepth 100000 in
theorem refDelay_small_true (f : Int) (c : Nat) (m : Int) (a : Int) (h : may f c m = true) (ha : a < 1) (hx : isN (pw (floatOfInt .f64 f) c 0) = true) (w : World) :
    Calls Try.prog 10 #[.agg #[.int .i64 f, .int .u64 (c : Int), .int .i64 m], .int .i64 a] w fun e w' => e = .returned (.int .i64 m) ∧ Below w.heap.size w w' := by
  have hn := whA_nan (pw (floatOfInt .f64 f) c 0) m (may_most h)
  rw [hx] at hn
  simp only [if_true] at hn
  have W2 := fun w => refWhole_calls (pw (floatOfInt .f64 f) c 0) m w
  rw [hn] at W2
  clear hn hx
  have h1 : a ≤ 1000 := by omega
  go_enter Try.func10, Try.ntmps10
  go_wp2_with fail
  refine (refCheck_calls _ _ _ _).mono ?_
  rintro e w1 ⟨rfl, hb⟩
  have HB0 : Hid (Below w.heap.size w w1) := bel2 (bel1 _ _) hb
  have HW0 : Hid (Below (w.alloc (.cells #[.int .i64 f, .int .u64 (c : Int), .int .i64 m] 24)).heap.size (w.alloc (.cells #[.int .i64 f, .int .u64 (c : Int), .int .i64 m] 24)) w1) := hb
  obtain ⟨k0, k1, k2⟩ := cells3 hb (box3 w _ _ _ _)
  clear hb
  simp only [h, ce, if_true]
  clear h
  go_wp2_with fail
  refine (refOf_calls _ _).mono ?_
  rintro e w2 ⟨rfl, rfl⟩
  go_wp2_with fail
  clear k0 k1 k2
  go_loopw [5, 6] (fun x i wr => ∃ j : Nat, j ≤ 0 ∧ i = .int .i64 ((j : Int) + 1) ∧ x = .int .u64 ((pw (floatOfInt .f64 f) c j : Nat) : Int) ∧ Hid (Below w.heap.size w wr) ∧ Hid (Below (w.alloc (.cells #[.int .i64 f, .int .u64 (c : Int), .int .i64 m] 24)).heap.size (w.alloc (.cells #[.int .i64 f, .int .u64 (c : Int), .int .i64 m] 24)) wr)) (fun _ i _ => 0 + 1 - (intOf i).toNat)
  case atStart => exact ⟨0, Nat.zero_le _, rfl, rfl, (HB0.out), (HW0.out)⟩
  case round =>
    obtain ⟨j, hj, rfl, rfl, HB, HW⟩ := hrel
    obtain ⟨k0, k1, k2⟩ := cells3 HW.out (box3 w _ _ _ _)
    by_cases hlt : j < 0
    · omega
    · obtain rfl : j = 0 := by omega
      go_wp2_with fail
      refine (W2 _).mono ?_
      rintro e w2 ⟨rfl, rfl⟩
      go_wp2_with fail
      go_ret
      exact ⟨rfl, HB.out⟩
set_option maxRecDepth 100000 in
theorem refDelay_mid_false (f : Int) (c : Nat) (m : Int) (N : Nat) (h : may f c m = true) (ha : N < 1000) (hx : isN (pw (floatOfInt .f64 f) c N) = false) (w : World) :
    Calls Try.prog 10 #[.agg #[.int .i64 f, .int .u64 (c : Int), .int .i64 m], .int .i64 ((N : Int) + 1)] w fun e w' => e = .returned (.int .i64 (whA (pw (floatOfInt .f64 f) c N) m).1) ∧ Below w.heap.size w w' := by
  have hn := whA_nan (pw (floatOfInt .f64 f) c N) m (may_most h)
  rw [hx] at hn
  simp only [Bool.false_eq_true, if_false] at hn
  have W2 := fun w => refWhole_calls (pw (floatOfInt .f64 f) c N) m w
  rw [hn] at W2
  clear hn hx
  have h2 : (N : Int) + 1 ≤ 1000 := by omega
  go_enter Try.func10, Try.ntmps10
  go_wp2_with fail
  refine (refCheck_calls _ _ _ _).mono ?_
  rintro e w1 ⟨rfl, hb⟩
  have HB0 : Hid (Below w.heap.size w w1) := bel2 (bel1 _ _) hb
  have HW0 : Hid (Below (w.alloc (.cells #[.int .i64 f, .int .u64 (c : Int), .int .i64 m] 24)).heap.size (w.alloc (.cells #[.int .i64 f, .int .u64 (c : Int), .int .i64 m] 24)) w1) := hb
  obtain ⟨k0, k1, k2⟩ := cells3 hb (box3 w _ _ _ _)
  clear hb
  simp only [h, ce, if_true]
  clear h
  go_wp2_with fail
  refine (refOf_calls _ _).mono ?_
  rintro e w2 ⟨rfl, rfl⟩
  go_wp2_with fail
  clear k0 k1 k2
  go_loopw [5, 6] (fun x i wr => ∃ j : Nat, j ≤ N ∧ i = .int .i64 ((j : Int) + 1) ∧ x = .int .u64 ((pw (floatOfInt .f64 f) c j : Nat) : Int) ∧ Hid (Below w.heap.size w wr) ∧ Hid (Below (w.alloc (.cells #[.int .i64 f, .int .u64 (c : Int), .int .i64 m] 24)).heap.size (w.alloc (.cells #[.int .i64 f, .int .u64 (c : Int), .int .i64 m] 24)) wr)) (fun _ i _ => N + 1 - (intOf i).toNat)
  case atStart => exact ⟨0, Nat.zero_le _, rfl, rfl, (HB0.out), (HW0.out)⟩
  case round =>
    obtain ⟨j, hj, rfl, rfl, HB, HW⟩ := hrel
    obtain ⟨k0, k1, k2⟩ := cells3 HW.out (box3 w _ _ _ _)
    by_cases hlt : j < N
    · have hjl : (j : Int) < N := by omega
      have hj9 : (j : Int) < 1000 := by omega
      go_wp2_with fail
      refine (refMul_calls _ _ _).mono ?_
      rintro e w2 ⟨rfl, hb⟩
      have HB2 : Hid (Below w.heap.size w w2) := bel2 HB.out hb
      have HW2 : Hid (Below (w.alloc (.cells #[.int .i64 f, .int .u64 (c : Int), .int .i64 m] 24)).heap.size (w.alloc (.cells #[.int .i64 f, .int .u64 (c : Int), .int .i64 m] 24)) w2) := bel2 HW.out hb
      clear hb HB HW k0 k1 k2
      go_wp2_with fail
      refine ⟨⟨j + 1, hlt, by first | rfl | (rw [Int.natCast_add]; rfl), rfl, HB2, HW2⟩, ?_⟩
      simp only [intOf]
      omega
    · obtain rfl : j = N := by omega
      go_wp2_with fail
      refine (W2 _).mono ?_
      rintro e w2 ⟨rfl, rfl⟩
      go_wp2_with fail
      go_ret
      exact ⟨rfl, HB.out⟩
set_option maxRecDepth 100000 in
theorem refDelay_mid_true (f : Int) (c : Nat) (m : Int) (N : Nat) (h : may f c m = true) (ha : N < 1000) (hx : isN (pw (floatOfInt .f64 f) c N) = true) (w : World) :
    Calls Try.prog 10 #[.agg #[.int .i64 f, .int .u64 (c : Int), .int .i64 m], .int .i64 ((N : Int) + 1)] w fun e w' => e = .returned (.int .i64 m) ∧ Below w.heap.size w w' := by
  have hn := whA_nan (pw (floatOfInt .f64 f) c N) m (may_most h)
  rw [hx] at hn
  simp only [if_true] at hn
  have W2 := fun w => refWhole_calls (pw (floatOfInt .f64 f) c N) m w
  rw [hn] at W2
  clear hn hx
  have h2 : (N : Int) + 1 ≤ 1000 := by omega
  go_enter Try.func10, Try.ntmps10
  go_wp2_with fail
  refine (refCheck_calls _ _ _ _).mono ?_
  rintro e w1 ⟨rfl, hb⟩
  have HB0 : Hid (Below w.heap.size w w1) := bel2 (bel1 _ _) hb
  have HW0 : Hid (Below (w.alloc (.cells #[.int .i64 f, .int .u64 (c : Int), .int .i64 m] 24)).heap.size (w.alloc (.cells #[.int .i64 f, .int .u64 (c : Int), .int .i64 m] 24)) w1) := hb
  obtain ⟨k0, k1, k2⟩ := cells3 hb (box3 w _ _ _ _)
  clear hb
  simp only [h, ce, if_true]
  clear h
  go_wp2_with fail
  refine (refOf_calls _ _).mono ?_
  rintro e w2 ⟨rfl, rfl⟩
  go_wp2_with fail
  clear k0 k1 k2
  go_loopw [5, 6] (fun x i wr => ∃ j : Nat, j ≤ N ∧ i = .int .i64 ((j : Int) + 1) ∧ x = .int .u64 ((pw (floatOfInt .f64 f) c j : Nat) : Int) ∧ Hid (Below w.heap.size w wr) ∧ Hid (Below (w.alloc (.cells #[.int .i64 f, .int .u64 (c : Int), .int .i64 m] 24)).heap.size (w.alloc (.cells #[.int .i64 f, .int .u64 (c : Int), .int .i64 m] 24)) wr)) (fun _ i _ => N + 1 - (intOf i).toNat)
  case atStart => exact ⟨0, Nat.zero_le _, rfl, rfl, (HB0.out), (HW0.out)⟩
  case round =>
    obtain ⟨j, hj, rfl, rfl, HB, HW⟩ := hrel
    obtain ⟨k0, k1, k2⟩ := cells3 HW.out (box3 w _ _ _ _)
    by_cases hlt : j < N
    · have hjl : (j : Int) < N := by omega
      have hj9 : (j : Int) < 1000 := by omega
      go_wp2_with fail
      refine (refMul_calls _ _ _).mono ?_
      rintro e w2 ⟨rfl, hb⟩
      have HB2 : Hid (Below w.heap.size w w2) := bel2 HB.out hb
      have HW2 : Hid (Below (w.alloc (.cells #[.int .i64 f, .int .u64 (c : Int), .int .i64 m] 24)).heap.size (w.alloc (.cells #[.int .i64 f, .int .u64 (c : Int), .int .i64 m] 24)) w2) := bel2 HW.out hb
      clear hb HB HW k0 k1 k2
      go_wp2_with fail
      refine ⟨⟨j + 1, hlt, by first | rfl | (rw [Int.natCast_add]; rfl), rfl, HB2, HW2⟩, ?_⟩
      simp only [intOf]
      omega
    · obtain rfl : j = N := by omega
      go_wp2_with fail
      refine (W2 _).mono ?_
      rintro e w2 ⟨rfl, rfl⟩
      go_wp2_with fail
      go_ret
      exact ⟨rfl, HB.out⟩
set_option maxRecDepth 100000 in
theorem refDelay_big_false (f : Int) (c : Nat) (m : Int) (a : Int) (h : may f c m = true) (N : Nat) (hN : N = 999) (ha : 1000 < a) (hx : isN (pw (floatOfInt .f64 f) c N) = false) (w : World) :
    Calls Try.prog 10 #[.agg #[.int .i64 f, .int .u64 (c : Int), .int .i64 m], .int .i64 a] w fun e w' => e = .returned (.int .i64 (whA (pw (floatOfInt .f64 f) c N) m).1) ∧ Below w.heap.size w w' := by
  have hn := whA_nan (pw (floatOfInt .f64 f) c N) m (may_most h)
  rw [hx] at hn
  simp only [Bool.false_eq_true, if_false] at hn
  have W2 := fun w => refWhole_calls (pw (floatOfInt .f64 f) c N) m w
  rw [hn] at W2
  clear hn hx
  have HN : Hid (N = 999) := hN
  have hz : ¬ ((N : Int) + 1 < 1000) := by omega
  clear hN
  go_enter Try.func10, Try.ntmps10
  go_wp2_with fail
  refine (refCheck_calls _ _ _ _).mono ?_
  rintro e w1 ⟨rfl, hb⟩
  have HB0 : Hid (Below w.heap.size w w1) := bel2 (bel1 _ _) hb
  have HW0 : Hid (Below (w.alloc (.cells #[.int .i64 f, .int .u64 (c : Int), .int .i64 m] 24)).heap.size (w.alloc (.cells #[.int .i64 f, .int .u64 (c : Int), .int .i64 m] 24)) w1) := hb
  obtain ⟨k0, k1, k2⟩ := cells3 hb (box3 w _ _ _ _)
  clear hb
  simp only [h, ce, if_true]
  clear h
  go_wp2_with fail
  refine (refOf_calls _ _).mono ?_
  rintro e w2 ⟨rfl, rfl⟩
  go_wp2_with fail
  clear k0 k1 k2
  go_loopw [5, 6] (fun x i wr => ∃ j : Nat, j ≤ N ∧ i = .int .i64 ((j : Int) + 1) ∧ x = .int .u64 ((pw (floatOfInt .f64 f) c j : Nat) : Int) ∧ Hid (Below w.heap.size w wr) ∧ Hid (Below (w.alloc (.cells #[.int .i64 f, .int .u64 (c : Int), .int .i64 m] 24)).heap.size (w.alloc (.cells #[.int .i64 f, .int .u64 (c : Int), .int .i64 m] 24)) wr)) (fun _ i _ => N + 1 - (intOf i).toNat)
  case atStart => exact ⟨0, Nat.zero_le _, rfl, rfl, (HB0.out), (HW0.out)⟩
  case round =>
    obtain ⟨j, hj, rfl, rfl, HB, HW⟩ := hrel
    obtain ⟨k0, k1, k2⟩ := cells3 HW.out (box3 w _ _ _ _)
    by_cases hlt : j < N
    · have hjl : (j : Int) < N := by omega
      have hj9 : (j : Int) + 1 < 1000 := by have := HN.out; omega
      go_wp2_with fail
      refine (refMul_calls _ _ _).mono ?_
      rintro e w2 ⟨rfl, hb⟩
      have HB2 : Hid (Below w.heap.size w w2) := bel2 HB.out hb
      have HW2 : Hid (Below (w.alloc (.cells #[.int .i64 f, .int .u64 (c : Int), .int .i64 m] 24)).heap.size (w.alloc (.cells #[.int .i64 f, .int .u64 (c : Int), .int .i64 m] 24)) w2) := bel2 HW.out hb
      clear hb HB HW k0 k1 k2
      go_wp2_with fail
      refine ⟨⟨j + 1, hlt, by first | rfl | (rw [Int.natCast_add]; rfl), rfl, HB2, HW2⟩, ?_⟩
      simp only [intOf]
      omega
    · obtain rfl : j = N := by omega
      go_wp2_with fail
      refine (W2 _).mono ?_
      rintro e w2 ⟨rfl, rfl⟩
      go_wp2_with fail
      go_ret
      exact ⟨rfl, HB.out⟩
set_option maxRecDepth 100000 in
theorem refDelay_big_true (f : Int) (c : Nat) (m : Int) (a : Int) (h : may f c m = true) (N : Nat) (hN : N = 999) (ha : 1000 < a) (hx : isN (pw (floatOfInt .f64 f) c N) = true) (w : World) :
    Calls Try.prog 10 #[.agg #[.int .i64 f, .int .u64 (c : Int), .int .i64 m], .int .i64 a] w fun e w' => e = .returned (.int .i64 m) ∧ Below w.heap.size w w' := by
  have hn := whA_nan (pw (floatOfInt .f64 f) c N) m (may_most h)
  rw [hx] at hn
  simp only [if_true] at hn
  have W2 := fun w => refWhole_calls (pw (floatOfInt .f64 f) c N) m w
  rw [hn] at W2
  clear hn hx
  have HN : Hid (N = 999) := hN
  have hz : ¬ ((N : Int) + 1 < 1000) := by omega
  clear hN
  go_enter Try.func10, Try.ntmps10
  go_wp2_with fail
  refine (refCheck_calls _ _ _ _).mono ?_
  rintro e w1 ⟨rfl, hb⟩
  have HB0 : Hid (Below w.heap.size w w1) := bel2 (bel1 _ _) hb
  have HW0 : Hid (Below (w.alloc (.cells #[.int .i64 f, .int .u64 (c : Int), .int .i64 m] 24)).heap.size (w.alloc (.cells #[.int .i64 f, .int .u64 (c : Int), .int .i64 m] 24)) w1) := hb
  obtain ⟨k0, k1, k2⟩ := cells3 hb (box3 w _ _ _ _)
  clear hb
  simp only [h, ce, if_true]
  clear h
  go_wp2_with fail
  refine (refOf_calls _ _).mono ?_
  rintro e w2 ⟨rfl, rfl⟩
  go_wp2_with fail
  clear k0 k1 k2
  go_loopw [5, 6] (fun x i wr => ∃ j : Nat, j ≤ N ∧ i = .int .i64 ((j : Int) + 1) ∧ x = .int .u64 ((pw (floatOfInt .f64 f) c j : Nat) : Int) ∧ Hid (Below w.heap.size w wr) ∧ Hid (Below (w.alloc (.cells #[.int .i64 f, .int .u64 (c : Int), .int .i64 m] 24)).heap.size (w.alloc (.cells #[.int .i64 f, .int .u64 (c : Int), .int .i64 m] 24)) wr)) (fun _ i _ => N + 1 - (intOf i).toNat)
  case atStart => exact ⟨0, Nat.zero_le _, rfl, rfl, (HB0.out), (HW0.out)⟩
  case round =>
    obtain ⟨j, hj, rfl, rfl, HB, HW⟩ := hrel
    obtain ⟨k0, k1, k2⟩ := cells3 HW.out (box3 w _ _ _ _)
    by_cases hlt : j < N
    · have hjl : (j : Int) < N := by omega
      have hj9 : (j : Int) + 1 < 1000 := by have := HN.out; omega
      go_wp2_with fail
      refine (refMul_calls _ _ _).mono ?_
      rintro e w2 ⟨rfl, hb⟩
      have HB2 : Hid (Below w.heap.size w w2) := bel2 HB.out hb
      have HW2 : Hid (Below (w.alloc (.cells #[.int .i64 f, .int .u64 (c : Int), .int .i64 m] 24)).heap.size (w.alloc (.cells #[.int .i64 f, .int .u64 (c : Int), .int .i64 m] 24)) w2) := bel2 HW.out hb
      clear hb HB HW k0 k1 k2
      go_wp2_with fail
      refine ⟨⟨j + 1, hlt, by first | rfl | (rw [Int.natCast_add]; rfl), rfl, HB2, HW2⟩, ?_⟩
      simp only [intOf]
      omega
    · obtain rfl : j = N := by omega
      go_wp2_with fail
      refine (W2 _).mono ?_
      rintro e w2 ⟨rfl, rfl⟩
      go_wp2_with fail
      go_ret
      exact ⟨rfl, HB.out⟩
theorem refDelay_calls (f : Int) (c : Nat) (m a : Int) (w : World) :
    Calls Try.prog 10 #[.agg #[.int .i64 f, .int .u64 (c : Int), .int .i64 m], .int .i64 a] w fun e w' => e = .returned (.int .i64 (dlA f c m a)) ∧ Below w.heap.size w w' := by
  unfold dlA wt dl
  cases h : may f c m
  · exact refDelay_no f c m a h w
  · simp only [if_true]
    by_cases h1 : a < 1
    · have : nA a = 0 := by unfold nA; omega
      rw [this]
      cases hx : isN (pw (floatOfInt .f64 f) c 0)
      · exact refDelay_small_false f c m a h h1 hx w
      · exact refDelay_small_true f c m a h h1 hx w
    · by_cases h2 : 1000 < a
      · obtain ⟨N, hN⟩ : ∃ N, nA a = N := ⟨_, rfl⟩
        have h9 : N = 999 := by unfold nA at hN; omega
        rw [hN]
        cases hx : isN (pw (floatOfInt .f64 f) c N)
        · exact refDelay_big_false f c m a h N h9 h2 hx w
        · exact refDelay_big_true f c m a h N h9 h2 hx w
      · obtain ⟨N, hN⟩ : ∃ N, nA a = N := ⟨_, rfl⟩
        have e : a = (N : Int) + 1 := by unfold nA at hN; omega
        have hl : N < 1000 := by unfold nA at hN; omega
        rw [hN, e]
        cases hx : isN (pw (floatOfInt .f64 f) c N)
        · exact refDelay_mid_false f c m N h hl hx w
        · exact refDelay_mid_true f c m N h hl hx w
theorem a35 : dlA 10 4611686018427387904 35 3 = 35 := by decide +kernel
theorem a20 : dlA 10 4611686018427387904 35 2 = 20 := by decide +kernel
theorem of2 : floatOfInt .f64 2 = 4611686018427387904 := by decide +kernel
theorem awake_calls (w : World) : Calls Try.prog 11 #[] w fun e w' => e = .returned (.bool true) ∧ Below w.heap.size w w' := by
  have D3 := fun w => delay_calls 10 4611686018427387904 35 3 (by decide) w
  have D2 := fun w => delay_calls 10 4611686018427387904 35 2 (by decide) w
  have O2 := fun w => of_calls 2 w
  rw [a35] at D3
  rw [a20] at D2
  rw [of2] at O2
  go_enter Try.func11, Try.ntmps11
  go_wp2_with fail
  refine (O2 _).mono ?_
  rintro e w ⟨rfl, rfl⟩
  go_wp2_with fail
  refine (D3 _).mono ?_
  rintro e w1 ⟨rfl, hb⟩
  have HB : Hid (Below w.heap.size w w1) := bel2 (bel1 _ _) hb
  obtain ⟨k0, k1, k2⟩ := cells3 hb (box3 w _ _ _ _)
  clear hb
  go_wp2_with fail
  refine (D2 _).mono ?_
  rintro e w2 ⟨rfl, hb⟩
  have HB2 : Hid (Below w.heap.size w w2) := bel2 HB.out hb
  clear hb
  go_wp2_with fail
  go_ret
  exact ⟨rfl, HB2.out⟩
end Go.Proofs.Ytlpfdilnoglgcaa
