/- The contracts of the program's Delay and of the reference's. -/
import Derived.Test.YtmcbgfcpalfcjaaA
namespace Go.Proofs.Ytmcbgfcpalfcjaa
open Go.ChangeShapes Go.WideShapes Go.ChangeAt Go.RowKit
open FM
/-- How many products an attempt has. -/
def nA (a : Int) : Nat := (min (max a 1) 1000 - 1).toNat
def dlA (f : Int) (c : Nat) (m a : Int) : Int := wt f c m (pw (floatOfInt .f64 f) c (nA a))
set_option maxRecDepth 100000 in
theorem delay_small (f : Int) (c : Nat) (m a : Int) (hc : c < 18446744073709551616) (ha : a < 1) (w : World) :
    Calls Try.prog 37 #[.agg #[.int .i64 f, .int .u64 (c : Int), .int .i64 m], .int .i64 a] w fun e w' => e = .returned (.int .i64 (wt f c m (pw (floatOfInt .f64 f) c 0))) ∧ Below w.heap.size w w' := by
  have K := fun x w => wait_calls f c m x hc w
  clear hc
  go_enter Try.func37, Try.ntmps37
  go_wp2_with fail
  refine (of_calls _ _).mono ?_
  rintro e w1 ⟨rfl, rfl⟩
  go_wp2_with fail
  go_loopw [5, 13] (fun x i wr => ∃ j : Nat, j ≤ 0 ∧ i = .int .i64 j ∧ x = .int .u64 ((pw (floatOfInt .f64 f) c j : Nat) : Int) ∧ Hid (Below w.heap.size w wr) ∧ Hid (Below (w.alloc (.cells #[.int .i64 f, .int .u64 (c : Int), .int .i64 m] 27)).heap.size (w.alloc (.cells #[.int .i64 f, .int .u64 (c : Int), .int .i64 m] 27)) wr)) (fun _ i _ => 0 + 1 - (intOf i).toNat)
  case atStart => exact ⟨0, Nat.zero_le _, rfl, rfl, bel1 _ _, Below.refl _ _⟩
  case round =>
    obtain ⟨j, hj, rfl, rfl, HB, HW⟩ := hrel
    obtain ⟨k0, k1, k2⟩ := cells3 HW.out (box3 w _ _ _ _)
    by_cases hlt : j < 0
    · omega
    · obtain rfl : j = 0 := by omega
      go_wp2_with fail
      refine (K _ _).mono ?_
      rintro e w2 ⟨rfl, hb⟩
      have HB2 : Hid (Below w.heap.size w w2) := bel2 HB.out hb
      clear hb HB HW k0 k1 k2
      go_wp2_with fail
      go_ret
      exact ⟨rfl, HB2.out⟩
set_option maxRecDepth 100000 in
theorem delay_mid (f : Int) (c : Nat) (m : Int) (N : Nat) (hc : c < 18446744073709551616) (ha : N < 1000) (w : World) :
    Calls Try.prog 37 #[.agg #[.int .i64 f, .int .u64 (c : Int), .int .i64 m], .int .i64 ((N : Int) + 1)] w fun e w' => e = .returned (.int .i64 (wt f c m (pw (floatOfInt .f64 f) c N))) ∧ Below w.heap.size w w' := by
  have K := fun x w => wait_calls f c m x hc w
  have h1 : (1 : Int) ≤ (N : Int) + 1 := by omega
  have h2 : (N : Int) + 1 ≤ 1000 := by omega
  clear hc
  go_enter Try.func37, Try.ntmps37
  go_wp2_with fail
  refine (of_calls _ _).mono ?_
  rintro e w1 ⟨rfl, rfl⟩
  go_wp2_with fail
  go_loopw [5, 13] (fun x i wr => ∃ j : Nat, j ≤ N ∧ i = .int .i64 j ∧ x = .int .u64 ((pw (floatOfInt .f64 f) c j : Nat) : Int) ∧ Hid (Below w.heap.size w wr) ∧ Hid (Below (w.alloc (.cells #[.int .i64 f, .int .u64 (c : Int), .int .i64 m] 27)).heap.size (w.alloc (.cells #[.int .i64 f, .int .u64 (c : Int), .int .i64 m] 27)) wr)) (fun _ i _ => N + 1 - (intOf i).toNat)
  case atStart => exact ⟨0, Nat.zero_le _, rfl, rfl, bel1 _ _, Below.refl _ _⟩
  case round =>
    obtain ⟨j, hj, rfl, rfl, HB, HW⟩ := hrel
    obtain ⟨k0, k1, k2⟩ := cells3 HW.out (box3 w _ _ _ _)
    by_cases hlt : j < N
    · have hjl : (j : Int) < N := by omega
      have hj9 : (j : Int) < 1000 := by omega
      go_wp2_with fail
      refine (mul_calls _ _ _).mono ?_
      rintro e w2 ⟨rfl, hb⟩
      have HB2 : Hid (Below w.heap.size w w2) := bel2 HB.out hb
      have HW2 : Hid (Below (w.alloc (.cells #[.int .i64 f, .int .u64 (c : Int), .int .i64 m] 27)).heap.size (w.alloc (.cells #[.int .i64 f, .int .u64 (c : Int), .int .i64 m] 27)) w2) := bel2 HW.out hb
      clear hb HB HW k0 k1 k2
      go_wp2_with fail
      refine ⟨⟨j + 1, hlt, by first | rfl | (rw [Int.natCast_add]; rfl), rfl, HB2, HW2⟩, ?_⟩
      simp only [intOf]
      omega
    · obtain rfl : j = N := by omega
      go_wp2_with fail
      refine (K _ _).mono ?_
      rintro e w2 ⟨rfl, hb⟩
      have HB2 : Hid (Below w.heap.size w w2) := bel2 HB.out hb
      clear hb HB HW k0 k1 k2
      go_wp2_with fail
      go_ret
      exact ⟨rfl, HB2.out⟩
set_option maxRecDepth 100000 in
theorem delay_big (f : Int) (c : Nat) (m a : Int) (hc : c < 18446744073709551616) (ha : 1000 < a) (w : World) :
    Calls Try.prog 37 #[.agg #[.int .i64 f, .int .u64 (c : Int), .int .i64 m], .int .i64 a] w fun e w' => e = .returned (.int .i64 (wt f c m (pw (floatOfInt .f64 f) c 999))) ∧ Below w.heap.size w w' := by
  have K := fun x w => wait_calls f c m x hc w
  have h1 : 1 ≤ a := by omega
  clear hc
  go_enter Try.func37, Try.ntmps37
  go_wp2_with fail
  refine (of_calls _ _).mono ?_
  rintro e w1 ⟨rfl, rfl⟩
  go_wp2_with fail
  go_loopw [5, 13] (fun x i wr => ∃ j : Nat, j ≤ 999 ∧ i = .int .i64 j ∧ x = .int .u64 ((pw (floatOfInt .f64 f) c j : Nat) : Int) ∧ Hid (Below w.heap.size w wr) ∧ Hid (Below (w.alloc (.cells #[.int .i64 f, .int .u64 (c : Int), .int .i64 m] 27)).heap.size (w.alloc (.cells #[.int .i64 f, .int .u64 (c : Int), .int .i64 m] 27)) wr)) (fun _ i _ => 999 + 1 - (intOf i).toNat)
  case atStart => exact ⟨0, Nat.zero_le _, rfl, rfl, bel1 _ _, Below.refl _ _⟩
  case round =>
    obtain ⟨j, hj, rfl, rfl, HB, HW⟩ := hrel
    obtain ⟨k0, k1, k2⟩ := cells3 HW.out (box3 w _ _ _ _)
    by_cases hlt : j < 999
    · have hjl : (j : Int) < 999 := by omega
      have hj9 : (j : Int) < 1000 := by omega
      go_wp2_with fail
      refine (mul_calls _ _ _).mono ?_
      rintro e w2 ⟨rfl, hb⟩
      have HB2 : Hid (Below w.heap.size w w2) := bel2 HB.out hb
      have HW2 : Hid (Below (w.alloc (.cells #[.int .i64 f, .int .u64 (c : Int), .int .i64 m] 27)).heap.size (w.alloc (.cells #[.int .i64 f, .int .u64 (c : Int), .int .i64 m] 27)) w2) := bel2 HW.out hb
      clear hb HB HW k0 k1 k2
      go_wp2_with fail
      refine ⟨⟨j + 1, hlt, by first | rfl | (rw [Int.natCast_add]; rfl), rfl, HB2, HW2⟩, ?_⟩
      simp only [intOf]
      omega
    · obtain rfl : j = 999 := by omega
      go_wp2_with fail
      refine (K _ _).mono ?_
      rintro e w2 ⟨rfl, hb⟩
      have HB2 : Hid (Below w.heap.size w w2) := bel2 HB.out hb
      clear hb HB HW k0 k1 k2
      go_wp2_with fail
      go_ret
      exact ⟨rfl, HB2.out⟩
set_option maxRecDepth 100000 in
theorem delay_calls (f : Int) (c : Nat) (m a : Int) (hc : c < 18446744073709551616) (w : World) :
    Calls Try.prog 37 #[.agg #[.int .i64 f, .int .u64 (c : Int), .int .i64 m], .int .i64 a] w fun e w' => e = .returned (.int .i64 (dlA f c m a)) ∧ Below w.heap.size w w' := by
  unfold dlA
  by_cases h1 : a < 1
  · have : nA a = 0 := by unfold nA; omega
    rw [this]; exact delay_small f c m a hc h1 w
  · by_cases h2 : 1000 < a
    · have : nA a = 999 := by unfold nA; omega
      rw [this]; exact delay_big f c m a hc h2 w
    · obtain ⟨N, hN⟩ : ∃ N, nA a = N := ⟨_, rfl⟩
      have e : a = (N : Int) + 1 := by unfold nA at hN; omega
      rw [hN, e]
      exact delay_mid f c m N hc (by unfold nA at hN; omega) w
end Go.Proofs.Ytmcbgfcpalfcjaa
