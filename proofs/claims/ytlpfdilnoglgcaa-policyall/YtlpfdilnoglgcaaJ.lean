/- The contract of Delays of fewer than none; the walk of PolicyAll. -/
import Derived.Test.YtlpfdilnoglgcaaI
namespace Go.Proofs.Ytlpfdilnoglgcaa
open Go.ChangeShapes Go.WideShapes Go.ChangeAt Go.RowKit
open FM
theorem delays_neg (f : Int) (c : Nat) (m a : Int) (ha : a < 0) (w : World) :
    Calls Try.prog 12 #[.agg #[.int .i64 f, .int .u64 (c : Int), .int .i64 m], .int .i64 a] w (DsP w f c m 0) := by
  have h1 : a ≤ 1000 := by omega
  have HE : Hid (∀ v w', Zs (w.heap.size + 1) w' v (dls f c m 0) → Below w.heap.size w w' → DsP w f c m 0 (.returned v) w') := fun v w' h k => ret12 h k
  generalize DsP w f c m 0 = Q at HE ⊢
  go_enter Try.func12, Try.ntmps12
  go_wp2_with fail
  refine (of_calls _ _).mono ?_
  rintro e w1 ⟨rfl, e1⟩
  have e2 := e1.symm
  subst e2
  clear e1
  go_wp2_with fail
  have HW0 : Hid (Below (w.alloc (.cells #[.int .i64 f, .int .u64 (c : Int), .int .i64 m] 24)).heap.size (w.alloc (.cells #[.int .i64 f, .int .u64 (c : Int), .int .i64 m] 24)) (w.alloc (.cells #[.int .i64 f, .int .u64 (c : Int), .int .i64 m] 24))) := Below.refl _ _
  go_loopw [5, 6, 12] (fun u x i wr => u = .slice none 0 0 ∧ i = .int .i64 0 ∧ Hid (Below (w.alloc (.cells #[.int .i64 f, .int .u64 (c : Int), .int .i64 m] 24)).heap.size (w.alloc (.cells #[.int .i64 f, .int .u64 (c : Int), .int .i64 m] 24)) wr)) (fun _ _ _ _ => 0)
  case atStart => exact ⟨rfl, rfl, HW0⟩
  case round =>
    obtain ⟨rfl, rfl, HW⟩ := hrel
    have h2 : ¬ (0 : Int) < a := by omega
    go_wp2_with fail
    exact HE.out _ _ (Zs.nil _ _) (lows HW.out)
set_option maxHeartbeats 1000000 in
set_option maxRecDepth 100000 in
theorem all_big (f : Int) (c : Nat) (m : Int) (a : Int) (hp : PFit f c m) (ha : 40 < a) (w : World) :
    Calls Try.prog 4 #[.agg #[.int .i64 f, .int .u64 (c : Int), .int .i64 m], .int .i64 a] w fun e w' => e = .returned (.bool true) ∧ Below w.heap.size w w' := by
  have DD : Hid (∀ W, Calls Try.prog 12 #[.agg #[.int .i64 f, .int .u64 (c : Int), .int .i64 m], .int .i64 40] W (DsP W f c m 40)) := fun W => delays_nat f c m 40 hp.c1 (by decide) W
  obtain ⟨N, hN⟩ : ∃ N : Nat, N = 40 := ⟨40, rfl⟩
  rw [← hN] at DD
  have HN : Hid (N ≤ 40) := by show N ≤ 40; omega
  have HL : Hid ((N : Int) = 40) := by show (N : Int) = 40; omega
  clear hN
  have D1 : Hid (∀ a W, _) := fun a W => delay_calls f c m a hp.c1 W
  clear hp
  go_enter Try.func4, Try.ntmps4
  go_wp2_with fail
  refine (DD.out _).mono ?_
  rintro e w1 ⟨v, rfl, hz, hb⟩
  have HW : Hid (Below (w.alloc (.cells #[.int .i64 f, .int .u64 (c : Int), .int .i64 m] 24)).heap.size (w.alloc (.cells #[.int .i64 f, .int .u64 (c : Int), .int .i64 m] 24)) w1) := hb
  obtain ⟨ua, uc, rfl⟩ := hz.shape
  rw [dls_length] at *
  have HZ : Hid (Zs (w.alloc (.cells #[.int .i64 f, .int .u64 (c : Int), .int .i64 m] 24)).heap.size w1 (.slice ua N uc) (dls f c m N)) := hz
  clear hz hb
  have HB : Hid (Below w.heap.size w w1) := lows HW.out
  have hL := HL.out
  go_wp2_with fail
  clear hL
  go_loopw [20] (fun i wr => ∃ j : Nat, j ≤ N ∧ i = .int .i64 j ∧ Hid (Below w1.heap.size w1 wr)) (fun i _ => N - (intOf i).toNat)
  case atStart => exact ⟨0, Nat.zero_le _, rfl, Below.refl _ _⟩
  case round =>
    obtain ⟨j, hj, rfl, HR⟩ := hrel
    by_cases hlt : j < N
    · have hjl : (j : Int) < (N : Int) := by omega
      have hj9 : (j : Int) < 40 := by have := HN.out; omega
      obtain ⟨gz, hgz, cz⟩ := (HZ.out.below HR.out).at (dls_at f c m N j hlt HN.out)
      subst hgz
      obtain ⟨k0, k1, k2⟩ := cells3 HR.out (cells3 HW.out (box3 w _ _ _ _))
      go_wp2_with fail
      refine (D1.out _ _).mono ?_
      rintro e w2 ⟨rfl, hb⟩
      have HR2 : Hid (Below w1.heap.size w1 w2) := bel2 HR.out hb
      clear hb k0 k1 k2 cz HR
      generalize dlA f c m ((j : Int) + 1) = y
      go_wp2_with fail
      refine ⟨⟨j + 1, hlt, by first | rfl | (rw [Int.natCast_add]; rfl), HR2⟩, ?_⟩
      simp only [intOf]
      omega
    · have hx : ¬ ((j : Int) < 40) := by have := HL.out; omega
      obtain rfl : j = N := by omega
      go_wp2_with fail
      refine (awake_calls _).mono ?_
      rintro e w2 ⟨rfl, hb⟩
      have HB2 : Hid (Below w.heap.size w w2) := bel2 (bel2 HB.out HR.out) hb
      clear hb
      go_wp2_with fail
      go_ret
      exact ⟨rfl, HB2.out⟩
set_option maxHeartbeats 1000000 in
set_option maxRecDepth 100000 in
theorem all_nat (f : Int) (c : Nat) (m : Int) (N : Nat) (hp : PFit f c m) (hN : N ≤ 40) (w : World) :
    Calls Try.prog 4 #[.agg #[.int .i64 f, .int .u64 (c : Int), .int .i64 m], .int .i64 (N : Int)] w fun e w' => e = .returned (.bool true) ∧ Below w.heap.size w w' := by
  have DD : Hid (∀ W, Calls Try.prog 12 #[.agg #[.int .i64 f, .int .u64 (c : Int), .int .i64 m], .int .i64 (N : Int)] W (DsP W f c m N)) := fun W => delays_nat f c m N hp.c1 hN W
  have HN : Hid (N ≤ 40) := hN
  have HL : Hid ((N : Int) = (N : Int)) := rfl
  have h1 : (N : Int) ≤ 40 := by omega
  have h0 : (0 : Int) ≤ (N : Int) := by omega
  clear hN
  have D1 : Hid (∀ a W, _) := fun a W => delay_calls f c m a hp.c1 W
  clear hp
  go_enter Try.func4, Try.ntmps4
  go_wp2_with fail
  refine (DD.out _).mono ?_
  rintro e w1 ⟨v, rfl, hz, hb⟩
  have HW : Hid (Below (w.alloc (.cells #[.int .i64 f, .int .u64 (c : Int), .int .i64 m] 24)).heap.size (w.alloc (.cells #[.int .i64 f, .int .u64 (c : Int), .int .i64 m] 24)) w1) := hb
  obtain ⟨ua, uc, rfl⟩ := hz.shape
  rw [dls_length] at *
  have HZ : Hid (Zs (w.alloc (.cells #[.int .i64 f, .int .u64 (c : Int), .int .i64 m] 24)).heap.size w1 (.slice ua N uc) (dls f c m N)) := hz
  clear hz hb
  have HB : Hid (Below w.heap.size w w1) := lows HW.out
  have hL := HL.out
  go_wp2_with fail
  clear hL
  go_loopw [20] (fun i wr => ∃ j : Nat, j ≤ N ∧ i = .int .i64 j ∧ Hid (Below w1.heap.size w1 wr)) (fun i _ => N - (intOf i).toNat)
  case atStart => exact ⟨0, Nat.zero_le _, rfl, Below.refl _ _⟩
  case round =>
    obtain ⟨j, hj, rfl, HR⟩ := hrel
    by_cases hlt : j < N
    · have hjl : (j : Int) < (N : Int) := by omega
      have hj9 : (j : Int) < 40 := by have := HN.out; omega
      obtain ⟨gz, hgz, cz⟩ := (HZ.out.below HR.out).at (dls_at f c m N j hlt HN.out)
      subst hgz
      obtain ⟨k0, k1, k2⟩ := cells3 HR.out (cells3 HW.out (box3 w _ _ _ _))
      go_wp2_with fail
      refine (D1.out _ _).mono ?_
      rintro e w2 ⟨rfl, hb⟩
      have HR2 : Hid (Below w1.heap.size w1 w2) := bel2 HR.out hb
      clear hb k0 k1 k2 cz HR
      generalize dlA f c m ((j : Int) + 1) = y
      go_wp2_with fail
      refine ⟨⟨j + 1, hlt, by first | rfl | (rw [Int.natCast_add]; rfl), HR2⟩, ?_⟩
      simp only [intOf]
      omega
    · obtain rfl : j = N := by omega
      go_wp2_with fail
      refine (awake_calls _).mono ?_
      rintro e w2 ⟨rfl, hb⟩
      have HB2 : Hid (Below w.heap.size w w2) := bel2 (bel2 HB.out HR.out) hb
      clear hb
      go_wp2_with fail
      go_ret
      exact ⟨rfl, HB2.out⟩
set_option maxHeartbeats 1000000 in
set_option maxRecDepth 100000 in
theorem all_neg (f : Int) (c : Nat) (m : Int) (a : Int) (hp : PFit f c m) (ha : a < 0) (w : World) :
    Calls Try.prog 4 #[.agg #[.int .i64 f, .int .u64 (c : Int), .int .i64 m], .int .i64 a] w fun e w' => e = .returned (.bool true) ∧ Below w.heap.size w w' := by
  have DD : Hid (∀ W, Calls Try.prog 12 #[.agg #[.int .i64 f, .int .u64 (c : Int), .int .i64 m], .int .i64 a] W (DsP W f c m 0)) := fun W => delays_neg f c m a ha W
  obtain ⟨N, hN⟩ : ∃ N : Nat, N = 0 := ⟨0, rfl⟩
  rw [← hN] at DD
  have HN : Hid (N ≤ 40) := by show N ≤ 40; omega
  have HL : Hid ((N : Int) = 0) := by show (N : Int) = 0; omega
  have h1 : a ≤ 40 := by omega
  clear hN
  have D1 : Hid (∀ a W, _) := fun a W => delay_calls f c m a hp.c1 W
  clear hp
  go_enter Try.func4, Try.ntmps4
  go_wp2_with fail
  refine (DD.out _).mono ?_
  rintro e w1 ⟨v, rfl, hz, hb⟩
  have HW : Hid (Below (w.alloc (.cells #[.int .i64 f, .int .u64 (c : Int), .int .i64 m] 24)).heap.size (w.alloc (.cells #[.int .i64 f, .int .u64 (c : Int), .int .i64 m] 24)) w1) := hb
  obtain ⟨ua, uc, rfl⟩ := hz.shape
  rw [dls_length] at *
  have HZ : Hid (Zs (w.alloc (.cells #[.int .i64 f, .int .u64 (c : Int), .int .i64 m] 24)).heap.size w1 (.slice ua N uc) (dls f c m N)) := hz
  clear hz hb
  have HB : Hid (Below w.heap.size w w1) := lows HW.out
  have hL := HL.out
  go_wp2_with fail
  clear hL
  go_loopw [20] (fun i wr => ∃ j : Nat, j ≤ N ∧ i = .int .i64 j ∧ Hid (Below w1.heap.size w1 wr)) (fun i _ => N - (intOf i).toNat)
  case atStart => exact ⟨0, Nat.zero_le _, rfl, Below.refl _ _⟩
  case round =>
    obtain ⟨j, hj, rfl, HR⟩ := hrel
    by_cases hlt : j < N
    · exact absurd hlt (by have := HL.out; omega)
    · have hx : ¬ ((j : Int) < 0) := by omega
      obtain rfl : j = N := by omega
      go_wp2_with fail
      refine (awake_calls _).mono ?_
      rintro e w2 ⟨rfl, hb⟩
      have HB2 : Hid (Below w.heap.size w w2) := bel2 (bel2 HB.out HR.out) hb
      clear hb
      go_wp2_with fail
      go_ret
      exact ⟨rfl, HB2.out⟩
theorem all_walk (f : Int) (c : Nat) (m a : Int) (hp : PFit f c m) (w : World) :
    Calls Try.prog 4 #[.agg #[.int .i64 f, .int .u64 (c : Int), .int .i64 m], .int .i64 a] w fun e w' => e = .returned (.bool true) ∧ Below w.heap.size w w' := by
  by_cases h1 : 40 < a
  · exact all_big f c m a hp h1 w
  · by_cases h2 : a < 0
    · exact all_neg f c m a hp h2 w
    · obtain ⟨N, rfl⟩ := Int.eq_ofNat_of_zero_le (show 0 ≤ a by omega)
      exact all_nat f c m N hp (by omega) w
end Go.Proofs.Ytlpfdilnoglgcaa
