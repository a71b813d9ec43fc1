/- The contract of math/bits.Len64: how many bits a number has. Condition: it fits 64 bits. -/
import Derived.Test.YtkaaddahegkmgaaGreatPA
namespace Go.Proofs.YtkaaddahegkmgaaGreat
open Go.ChangeShapes Go.WideShapes Go.ChangeAt Go.RowKit
/-- How many bits a number has. -/
def bl (x : Nat) : Nat := if x = 0 then 0 else x.log2 + 1
theorem bl_div (x s : Nat) (h : 2 ^ s ≤ x) : bl x = s + bl (x / 2 ^ s) := by
  have hp : 0 < 2 ^ s := Nat.two_pow_pos _
  have h0 : x ≠ 0 := by omega
  have h1 : x / 2 ^ s ≠ 0 := by
    have := Nat.div_pos h hp
    omega
  unfold bl
  rw [if_neg h0, if_neg h1]
  have a1 : s ≤ x.log2 := (Nat.le_log2 h0).2 h
  have a2 : (x / 2 ^ s).log2 + s ≤ x.log2 := by
    rw [Nat.le_log2 h0, Nat.pow_add]
    exact Nat.mul_le_of_le_div _ _ _ (Nat.log2_self_le h1)
  have a3 : x.log2 - s ≤ (x / 2 ^ s).log2 := by
    rw [Nat.le_log2 h1, Nat.le_div_iff_mul_le hp, ← Nat.pow_add, Nat.sub_add_cancel a1]
    exact Nat.log2_self_le h0
  omega
theorem ret_int {k : IntKind} {a b : Int} (h : a = b) : Ending.returned (.int k a) = .returned (.int k b) := by rw [h]
theorem tab_ok (A : ByteArray) (u : Nat) (h : u < A.size) (hu : u < 256) (hA : ∀ i : Fin 256, A.data.toList[i.val]?.map UInt8.toNat = some (bl i.val)) : (A[u].toNat) = bl u := by
  have := hA ⟨u, hu⟩
  have e : A.data.toList[u]? = some A[u] := by
    rw [List.getElem?_eq_getElem (by simpa using h)]
    rfl
  rw [e] at this
  simpa using this
theorem bl_small (u : Nat) (h : u < 256) : bl u ≤ 8 := by
  have : ∀ i : Fin 256, bl i.val ≤ 8 := by decide +kernel
  exact this ⟨u, h⟩
theorem bl_steps (x s : Nat) (y : Nat) (hy : y = x / 2 ^ s) (h : 2 ^ s ≤ x) (n : Int) (hn : n = (bl y : Nat)) : (s : Int) + n = (bl x : Nat) := by
  rw [bl_div x s h, hn, hy]; omega
set_option maxRecDepth 100000 in
theorem len_0 (x : Nat) (hx : x < 18446744073709551616) (h1 : ¬ ((4294967296 : Int) ≤ (x : Int))) (h2 : ¬ ((65536 : Int) ≤ (x : Int))) (h3 : ¬ ((256 : Int) ≤ (x : Int))) (w : World) : Calls Tryz.prog 102 #[.int .u64 (x : Int)] w fun e w' => e = .returned (.int .i64 (bl x : Nat)) ∧ w' = w := by
  have h4 : (x : Int) < 256 := by omega
  have HB : Hid (bl x = 0 + bl (x) ∧ x < 256) := by
    refine ⟨?_, by omega⟩
    omega
  have d1 : decide ((4294967296 : Int) ≤ (x : Int)) = false := decide_eq_false h1
  have d2 : decide ((65536 : Int) ≤ (x : Int)) = false := decide_eq_false h2
  have d3 : decide ((256 : Int) ≤ (x : Int)) = false := decide_eq_false h3
  clear hx h1 h2 h3
  go_enter Tryz.func102, Tryz.ntmps102
  go_wp2
  go_ret
  refine ⟨ret_int ?_, rfl⟩
  obtain ⟨B1, B2⟩ := HB.out
  rw [tab_ok _ (x) _ B2 (by decide +kernel), B1]
  have := bl_small _ B2
  simp only [wrap64]; omega
set_option maxRecDepth 100000 in
theorem len_1 (x : Nat) (hx : x < 18446744073709551616) (h1 : ¬ ((4294967296 : Int) ≤ (x : Int))) (h2 : ¬ ((65536 : Int) ≤ (x : Int))) (h3 : ((256 : Int) ≤ (x : Int))) (w : World) : Calls Tryz.prog 102 #[.int .u64 (x : Int)] w fun e w' => e = .returned (.int .i64 (bl x : Nat)) ∧ w' = w := by
  have h4 : (x : Int) / 256 < 256 := by omega
  have HB : Hid (bl x = 8 + bl (x / 256) ∧ x / 256 < 256) := by
    refine ⟨?_, by omega⟩
    have := bl_div (x) 8 (by simp only [Nat.reducePow]; omega)
    simp only [Nat.reducePow] at this
    omega
  have d1 : decide ((4294967296 : Int) ≤ (x : Int)) = false := decide_eq_false h1
  have d2 : decide ((65536 : Int) ≤ (x : Int)) = false := decide_eq_false h2
  have d3 : decide ((256 : Int) ≤ (x : Int)) = true := decide_eq_true h3
  clear hx h1 h2 h3
  go_enter Tryz.func102, Tryz.ntmps102
  go_wp2
  go_ret
  refine ⟨ret_int ?_, rfl⟩
  obtain ⟨B1, B2⟩ := HB.out
  rw [tab_ok _ (x / 256) _ B2 (by decide +kernel), B1]
  have := bl_small _ B2
  simp only [wrap64]; omega
set_option maxRecDepth 100000 in
theorem len_2 (x : Nat) (hx : x < 18446744073709551616) (h1 : ¬ ((4294967296 : Int) ≤ (x : Int))) (h2 : ((65536 : Int) ≤ (x : Int))) (h3 : ¬ ((256 : Int) ≤ (x : Int) / 65536)) (w : World) : Calls Tryz.prog 102 #[.int .u64 (x : Int)] w fun e w' => e = .returned (.int .i64 (bl x : Nat)) ∧ w' = w := by
  have h4 : (x : Int) / 65536 < 256 := by omega
  have HB : Hid (bl x = 16 + bl (x / 65536) ∧ x / 65536 < 256) := by
    refine ⟨?_, by omega⟩
    have := bl_div (x) 16 (by simp only [Nat.reducePow]; omega)
    simp only [Nat.reducePow] at this
    omega
  have d1 : decide ((4294967296 : Int) ≤ (x : Int)) = false := decide_eq_false h1
  have d2 : decide ((65536 : Int) ≤ (x : Int)) = true := decide_eq_true h2
  have d3 : decide ((256 : Int) ≤ (x : Int) / 65536) = false := decide_eq_false h3
  clear hx h1 h2 h3
  go_enter Tryz.func102, Tryz.ntmps102
  go_wp2
  go_ret
  refine ⟨ret_int ?_, rfl⟩
  obtain ⟨B1, B2⟩ := HB.out
  rw [tab_ok _ (x / 65536) _ B2 (by decide +kernel), B1]
  have := bl_small _ B2
  simp only [wrap64]; omega
set_option maxRecDepth 100000 in
theorem len_3 (x : Nat) (hx : x < 18446744073709551616) (h1 : ¬ ((4294967296 : Int) ≤ (x : Int))) (h2 : ((65536 : Int) ≤ (x : Int))) (h3 : ((256 : Int) ≤ (x : Int) / 65536)) (w : World) : Calls Tryz.prog 102 #[.int .u64 (x : Int)] w fun e w' => e = .returned (.int .i64 (bl x : Nat)) ∧ w' = w := by
  have h4 : (x : Int) / 65536 / 256 < 256 := by omega
  have HB : Hid (bl x = 24 + bl (x / 65536 / 256) ∧ x / 65536 / 256 < 256) := by
    refine ⟨?_, by omega⟩
    have := bl_div (x) 16 (by simp only [Nat.reducePow]; omega)
    simp only [Nat.reducePow] at this
    have := bl_div (x / 65536) 8 (by simp only [Nat.reducePow]; omega)
    simp only [Nat.reducePow] at this
    omega
  have d1 : decide ((4294967296 : Int) ≤ (x : Int)) = false := decide_eq_false h1
  have d2 : decide ((65536 : Int) ≤ (x : Int)) = true := decide_eq_true h2
  have d3 : decide ((256 : Int) ≤ (x : Int) / 65536) = true := decide_eq_true h3
  clear hx h1 h2 h3
  go_enter Tryz.func102, Tryz.ntmps102
  go_wp2
  go_ret
  refine ⟨ret_int ?_, rfl⟩
  obtain ⟨B1, B2⟩ := HB.out
  rw [tab_ok _ (x / 65536 / 256) _ B2 (by decide +kernel), B1]
  have := bl_small _ B2
  simp only [wrap64]; omega
set_option maxRecDepth 100000 in
theorem len_4 (x : Nat) (hx : x < 18446744073709551616) (h1 : ((4294967296 : Int) ≤ (x : Int))) (h2 : ¬ ((65536 : Int) ≤ (x : Int) / 4294967296)) (h3 : ¬ ((256 : Int) ≤ (x : Int) / 4294967296)) (w : World) : Calls Tryz.prog 102 #[.int .u64 (x : Int)] w fun e w' => e = .returned (.int .i64 (bl x : Nat)) ∧ w' = w := by
  have h4 : (x : Int) / 4294967296 < 256 := by omega
  have HB : Hid (bl x = 32 + bl (x / 4294967296) ∧ x / 4294967296 < 256) := by
    refine ⟨?_, by omega⟩
    have := bl_div (x) 32 (by simp only [Nat.reducePow]; omega)
    simp only [Nat.reducePow] at this
    omega
  have d1 : decide ((4294967296 : Int) ≤ (x : Int)) = true := decide_eq_true h1
  have d2 : decide ((65536 : Int) ≤ (x : Int) / 4294967296) = false := decide_eq_false h2
  have d3 : decide ((256 : Int) ≤ (x : Int) / 4294967296) = false := decide_eq_false h3
  clear hx h1 h2 h3
  go_enter Tryz.func102, Tryz.ntmps102
  go_wp2
  go_ret
  refine ⟨ret_int ?_, rfl⟩
  obtain ⟨B1, B2⟩ := HB.out
  rw [tab_ok _ (x / 4294967296) _ B2 (by decide +kernel), B1]
  have := bl_small _ B2
  simp only [wrap64]; omega
set_option maxRecDepth 100000 in
theorem len_5 (x : Nat) (hx : x < 18446744073709551616) (h1 : ((4294967296 : Int) ≤ (x : Int))) (h2 : ¬ ((65536 : Int) ≤ (x : Int) / 4294967296)) (h3 : ((256 : Int) ≤ (x : Int) / 4294967296)) (w : World) : Calls Tryz.prog 102 #[.int .u64 (x : Int)] w fun e w' => e = .returned (.int .i64 (bl x : Nat)) ∧ w' = w := by
  have h4 : (x : Int) / 4294967296 / 256 < 256 := by omega
  have HB : Hid (bl x = 40 + bl (x / 4294967296 / 256) ∧ x / 4294967296 / 256 < 256) := by
    refine ⟨?_, by omega⟩
    have := bl_div (x) 32 (by simp only [Nat.reducePow]; omega)
    simp only [Nat.reducePow] at this
    have := bl_div (x / 4294967296) 8 (by simp only [Nat.reducePow]; omega)
    simp only [Nat.reducePow] at this
    omega
  have d1 : decide ((4294967296 : Int) ≤ (x : Int)) = true := decide_eq_true h1
  have d2 : decide ((65536 : Int) ≤ (x : Int) / 4294967296) = false := decide_eq_false h2
  have d3 : decide ((256 : Int) ≤ (x : Int) / 4294967296) = true := decide_eq_true h3
  clear hx h1 h2 h3
  go_enter Tryz.func102, Tryz.ntmps102
  go_wp2
  go_ret
  refine ⟨ret_int ?_, rfl⟩
  obtain ⟨B1, B2⟩ := HB.out
  rw [tab_ok _ (x / 4294967296 / 256) _ B2 (by decide +kernel), B1]
  have := bl_small _ B2
  simp only [wrap64]; omega
set_option maxRecDepth 100000 in
theorem len_6 (x : Nat) (hx : x < 18446744073709551616) (h1 : ((4294967296 : Int) ≤ (x : Int))) (h2 : ((65536 : Int) ≤ (x : Int) / 4294967296)) (h3 : ¬ ((256 : Int) ≤ (x : Int) / 4294967296 / 65536)) (w : World) : Calls Tryz.prog 102 #[.int .u64 (x : Int)] w fun e w' => e = .returned (.int .i64 (bl x : Nat)) ∧ w' = w := by
  have h4 : (x : Int) / 4294967296 / 65536 < 256 := by omega
  have HB : Hid (bl x = 48 + bl (x / 4294967296 / 65536) ∧ x / 4294967296 / 65536 < 256) := by
    refine ⟨?_, by omega⟩
    have := bl_div (x) 32 (by simp only [Nat.reducePow]; omega)
    simp only [Nat.reducePow] at this
    have := bl_div (x / 4294967296) 16 (by simp only [Nat.reducePow]; omega)
    simp only [Nat.reducePow] at this
    omega
  have d1 : decide ((4294967296 : Int) ≤ (x : Int)) = true := decide_eq_true h1
  have d2 : decide ((65536 : Int) ≤ (x : Int) / 4294967296) = true := decide_eq_true h2
  have d3 : decide ((256 : Int) ≤ (x : Int) / 4294967296 / 65536) = false := decide_eq_false h3
  clear hx h1 h2 h3
  go_enter Tryz.func102, Tryz.ntmps102
  go_wp2
  go_ret
  refine ⟨ret_int ?_, rfl⟩
  obtain ⟨B1, B2⟩ := HB.out
  rw [tab_ok _ (x / 4294967296 / 65536) _ B2 (by decide +kernel), B1]
  have := bl_small _ B2
  simp only [wrap64]; omega
set_option maxRecDepth 100000 in
theorem len_7 (x : Nat) (hx : x < 18446744073709551616) (h1 : ((4294967296 : Int) ≤ (x : Int))) (h2 : ((65536 : Int) ≤ (x : Int) / 4294967296)) (h3 : ((256 : Int) ≤ (x : Int) / 4294967296 / 65536)) (w : World) : Calls Tryz.prog 102 #[.int .u64 (x : Int)] w fun e w' => e = .returned (.int .i64 (bl x : Nat)) ∧ w' = w := by
  have h4 : (x : Int) / 4294967296 / 65536 / 256 < 256 := by omega
  have HB : Hid (bl x = 56 + bl (x / 4294967296 / 65536 / 256) ∧ x / 4294967296 / 65536 / 256 < 256) := by
    refine ⟨?_, by omega⟩
    have := bl_div (x) 32 (by simp only [Nat.reducePow]; omega)
    simp only [Nat.reducePow] at this
    have := bl_div (x / 4294967296) 16 (by simp only [Nat.reducePow]; omega)
    simp only [Nat.reducePow] at this
    have := bl_div (x / 4294967296 / 65536) 8 (by simp only [Nat.reducePow]; omega)
    simp only [Nat.reducePow] at this
    omega
  have d1 : decide ((4294967296 : Int) ≤ (x : Int)) = true := decide_eq_true h1
  have d2 : decide ((65536 : Int) ≤ (x : Int) / 4294967296) = true := decide_eq_true h2
  have d3 : decide ((256 : Int) ≤ (x : Int) / 4294967296 / 65536) = true := decide_eq_true h3
  clear hx h1 h2 h3
  go_enter Tryz.func102, Tryz.ntmps102
  go_wp2
  go_ret
  refine ⟨ret_int ?_, rfl⟩
  obtain ⟨B1, B2⟩ := HB.out
  rw [tab_ok _ (x / 4294967296 / 65536 / 256) _ B2 (by decide +kernel), B1]
  have := bl_small _ B2
  simp only [wrap64]; omega
theorem len_calls (x : Nat) (hx : x < 18446744073709551616) (w : World) : Calls Tryz.prog 102 #[.int .u64 (x : Int)] w fun e w' => e = .returned (.int .i64 (bl x : Nat)) ∧ w' = w := by
  by_cases h1 : (4294967296 : Int) ≤ (x : Int)
  · skip
    by_cases h2 : (65536 : Int) ≤ (x : Int) / 4294967296
    · skip
      by_cases h3 : (256 : Int) ≤ (x : Int) / 4294967296 / 65536
      · exact len_7 x hx h1 h2 h3 w
      · exact len_6 x hx h1 h2 h3 w
    · skip
      by_cases h3 : (256 : Int) ≤ (x : Int) / 4294967296
      · exact len_5 x hx h1 h2 h3 w
      · exact len_4 x hx h1 h2 h3 w
  · skip
    by_cases h2 : (65536 : Int) ≤ (x : Int)
    · skip
      by_cases h3 : (256 : Int) ≤ (x : Int) / 65536
      · exact len_3 x hx h1 h2 h3 w
      · exact len_2 x hx h1 h2 h3 w
    · skip
      by_cases h3 : (256 : Int) ≤ (x : Int)
      · exact len_1 x hx h1 h2 h3 w
      · exact len_0 x hx h1 h2 h3 w
end Go.Proofs.YtkaaddahegkmgaaGreat
