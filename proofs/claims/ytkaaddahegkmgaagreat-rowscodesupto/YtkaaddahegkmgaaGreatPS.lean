/- The contracts of the reference's bytes, Num, Int, Bits, Flag: what stands behind any bytes. Condition: these have at most 2^46 bytes. -/
import Derived.Test.YtkaaddahegkmgaaGreatPR
namespace Go.Proofs.YtkaaddahegkmgaaGreat
open Go.ChangeShapes Go.WideShapes Go.ChangeAt Go.RowKit
theorem bl_lt (n : Nat) : n < 2 ^ bl n := by
  unfold bl
  split
  · subst_vars; simp
  · exact Nat.lt_log2_self
theorem bl_ge (n : Nat) (h : n ≠ 0) : 2 ^ (bl n - 1) ≤ n := by
  unfold bl
  rw [if_neg h]
  exact Nat.log2_self_le h
theorem nb_lt (n : Nat) : n < 2 ^ (8 * nb n) := by
  have h := bl_lt n
  have h2 : bl n ≤ 8 * nb n := by unfold nb; omega
  exact Nat.lt_of_lt_of_le h (Nat.pow_le_pow_right (by decide) h2)
theorem nb_ge (n : Nat) (h : n ≠ 0) : 2 ^ (8 * (nb n - 1)) ≤ n := by
  have h1 := bl_ge n h
  have h2 : 8 * (nb n - 1) ≤ bl n - 1 := by unfold nb; omega
  exact Nat.le_trans (Nat.pow_le_pow_right (by decide) h2) h1
theorem nb_less (n m : Nat) (hm : m ≠ 0) (h : nb n < nb m) : n < m := by
  have h1 := nb_lt n
  have h2 := nb_ge m hm
  have h3 : (2 : Nat) ^ (8 * nb n) ≤ 2 ^ (8 * (nb m - 1)) := Nat.pow_le_pow_right (by decide) (by omega)
  omega
theorem nb_of (x j : Nat) (h1 : x / 256 ^ j = 0) (h2 : j = 0 ∨ 0 < x / 256 ^ (j - 1)) : j = nb x := by
  have hp : 0 < 256 ^ j := Nat.pow_pos (by decide)
  have hx : x < 256 ^ j := by
    rcases Nat.lt_or_ge x (256 ^ j) with h | h
    · exact h
    · have := Nat.div_pos h hp; omega
  have a1 := nb_lt x
  rw [← pow_256] at a1
  by_cases h0 : x = 0
  · subst h0
    rcases h2 with h2 | h2
    · subst h2; decide
    · rw [Nat.zero_div] at h2; omega
  · have a2 := nb_ge x h0
    rw [← pow_256] at a2
    rcases Nat.lt_trichotomy j (nb x) with h | h | h
    · have : (256 : Nat) ^ j ≤ 256 ^ (nb x - 1) := Nat.pow_le_pow_right (by decide) (by omega)
      omega
    · exact h
    · rcases h2 with h2 | h2
      · omega
      · have h3 : (256 : Nat) ^ nb x ≤ 256 ^ (j - 1) := Nat.pow_le_pow_right (by decide) (by omega)
        have := Nat.div_eq_of_lt (Nat.lt_of_lt_of_le a1 h3)
        omega
theorem bytes_calls (x : Nat) (w : World) (hx : x < 9223372036854775808) : Calls Tryz.prog 54 #[.int .i64 (x : Int)] w fun e w' => e = .returned (.int .i64 (nb x : Nat)) ∧ w' = w := by
  have HX : Hid (x < 9223372036854775808) := hx
  have HB : Hid (nb x ≤ 8) := by
    show nb x ≤ 8
    have := bl_le x hx
    unfold nb; omega
  clear hx
  go_enter Tryz.func54, Tryz.ntmps54
  go_wp2
  go_loop [0, 3] (fun n k => ∃ j q : Nat, Hid (x / 256 ^ j = q) ∧ Hid (j = 0 ∨ 0 < x / 256 ^ (j - 1)) ∧ j ≤ 9 ∧ n = .int .i64 q ∧ k = .int .i64 j) (fun n _ => (intOf n).toNat)
  case atStart => exact ⟨0, x, (show x / 256 ^ 0 = x by simp), .inl rfl, by omega, rfl, rfl⟩
  case round =>
    obtain ⟨j, q, HQ, HP, hj, rfl, rfl⟩ := hrel
    have hqu : (q : Int) ≤ 9223372036854775807 := by
      have h1 := HX.out
      have h2 := Nat.div_le_self x (256 ^ j)
      have h3 := HQ.out
      omega
    by_cases h0 : 0 < q
    · have hj8 : j ≤ 8 := by
        rcases Nat.lt_or_ge j 9 with h | h
        · omega
        · have a := nb_lt x
          have b := HB.out
          have c : (2 : Nat) ^ (8 * nb x) ≤ 2 ^ (8 * j) := Nat.pow_le_pow_right (by decide) (by omega)
          rw [← pow_256 j] at c
          have := Nat.div_eq_of_lt (Nat.lt_of_lt_of_le a c)
          have := HQ.out
          omega
      have h0z : (0 : Int) < (q : Int) := by omega
      go_wp2
      go_round
      case rel =>
        refine ⟨j + 1, q / 256, (show x / 256 ^ (j + 1) = q / 256 by rw [div_step, HQ.out]), (show Hid _ from .inr ?_), by omega, by go_num, by go_num⟩
        rw [Nat.add_sub_cancel, HQ.out]
        exact h0
      case measure => simp [intOf]; omega
    · obtain rfl : q = 0 := by omega
      have hn := nb_of x j HQ.out HP.out
      subst hn
      go_wp2
      go_ret
      exact ⟨rfl, rfl⟩
theorem own_snoc {B : Nat} {w : World} {v : Value} {l : List UInt8} {b : UInt8} (h : w.ownsRow B 5 1 v (l.length + 1) (bval l ++ bval [b])) : Own B w v (l ++ [b]) := by
  show w.ownsRow B 5 1 v _ _
  have e1 : (l ++ [b]).length = l.length + 1 := by simp
  have e2 : bval (l ++ [b]) = bval l ++ bval [b] := by simp [bval]
  rw [e1, e2]
  exact h
/-- What the reference's writers leave: the bytes l, in memory of their own. -/
def RB (w : World) (l : List UInt8) (e : Ending) (w' : World) : Prop := ∃ v', e = .returned v' ∧ Own w.heap.size w' v' l ∧ Below w.heap.size w w'
theorem refNum_small (v : Value) (l : List UInt8) (m : Nat) (n : Int) (hn : n < 240) (hm : m = n.toNat) (w : World) (hv : Lib.HoldsBytes w v l) (hl : l.length ≤ 70368744177664) : Calls Tryz.prog 29 #[v, .int .i64 n] w (RB w (l ++ enc m)) := by
  obtain ⟨i0, hi, hz0, hz1, hz2⟩ := info_parts Tryz.info5
  have HV : Hid (Lib.HoldsBytes w v l) := hv
  have HLL : Hid (l.length ≤ 70368744177664) := hl
  obtain ⟨L, hL⟩ : ∃ L, L = l ++ enc m := ⟨_, rfl⟩
  have HL : Hid (L = l ++ enc m) := hL
  rw [← hL]
  have HE : Hid (enc m = [UInt8.ofNat m]) := by show enc m = _; unfold enc; rw [if_pos (by omega)]
  have BY : Hid (bval [UInt8.ofNat m] = [.int .u8 (m : Int)]) := by
    show bval [UInt8.ofNat m] = _
    have e : ((UInt8.ofNat m).toNat : Int) = (m : Int) := by rw [UInt8.toNat_ofNat']; omega
    simp only [bval, List.map_cons, List.map_nil]
    rw [e]
  have hm240 : (m : Int) < 240 := by omega
  rw [HE.out] at HL
  obtain ⟨p, cap, rfl, q1, q2⟩ := hv
  clear q1 q2 hL
  by_cases h0 : n < 0
  · obtain rfl : m = 0 := by omega
    clear hm
    have BY0 : Hid (bval [UInt8.ofNat 0] = [.int .u8 0]) := BY.out
    clear BY
    go_enter Tryz.func29, Tryz.ntmps29
    go_wp2_with fail
    refine (copied_calls _ _ _ HV.out HLL.out).mono ?_
    rintro e w1 ⟨v1, rfl, ho, hb⟩
    have HO : Hid (Own w.heap.size w1 v1 l) := ho
    have HB : Hid (Below w.heap.size w w1) := hb
    clear ho hb
    go_wp2_with (at_builtin; refine wpList_append_own _ rfl _ _ 26 rfl w.heap.size 5 i0 (.int .u8 0) 1 1 Tryz.underlying26 hi hz0 hz1 hz2 rfl (by decide) _ _ _ rfl (HO.out.alloc _) ⟨w1.heap.size, 0, none⟩ 1 1 (bval [UInt8.ofNat 0]) rfl ?qc1 ?qc2 ?qc3 ?qc4 ?qc5 ?qc6 ?_)
    case qc1 => rfl
    case qc2 =>
      intro i u hu
      rw [BY0.out] at hu
      first | exact hu | (rw [add_plain, Nat.zero_add]; simpa using hu)
    case qc3 => intro u hu; obtain ⟨x, _, rfl⟩ := List.mem_map.1 hu; rfl
    case qc4 => unfold maxLen; omega
    case qc5 => omega
    case qc6 => have := HB.out.size; simp; omega
    intro v2 w2 hown hgrow hnil
    have HW : Hid (Own w.heap.size w2 v2 (l ++ [UInt8.ofNat 0])) := own_snoc hown
    have HBW : Hid (Below w.heap.size w w2) := by
      refine (HB.out.alloc HB.out.size _).grown hgrow (by have := HB.out.size; simp; omega) ?_
      intro kk hkk
      exact (World.ownsRow.lt HO.out kk hkk).1
    clear hown hgrow hnil
    go_wp2
    go_ret
    exact ⟨_, rfl, by rw [HL.out]; exact HW.out, HBW.out⟩
  · obtain rfl : n = (m : Int) := by omega
    clear hm
    go_enter Tryz.func29, Tryz.ntmps29
    go_wp2_with fail
    refine (copied_calls _ _ _ HV.out HLL.out).mono ?_
    rintro e w1 ⟨v1, rfl, ho, hb⟩
    have HO : Hid (Own w.heap.size w1 v1 l) := ho
    have HB : Hid (Below w.heap.size w w1) := hb
    clear ho hb
    go_wp2_with (at_builtin; refine wpList_append_own _ rfl _ _ 26 rfl w.heap.size 5 i0 (.int .u8 0) 1 1 Tryz.underlying26 hi hz0 hz1 hz2 rfl (by decide) _ _ _ rfl (HO.out.alloc _) ⟨w1.heap.size, 0, none⟩ 1 1 (bval [UInt8.ofNat m]) rfl ?qc1 ?qc2 ?qc3 ?qc4 ?qc5 ?qc6 ?_)
    case qc1 => rfl
    case qc2 =>
      intro i u hu
      rw [BY.out] at hu
      first | exact hu | (rw [add_plain, Nat.zero_add]; simpa using hu)
    case qc3 => intro u hu; obtain ⟨x, _, rfl⟩ := List.mem_map.1 hu; rfl
    case qc4 => unfold maxLen; omega
    case qc5 => omega
    case qc6 => have := HB.out.size; simp; omega
    intro v2 w2 hown hgrow hnil
    have HW : Hid (Own w.heap.size w2 v2 (l ++ [UInt8.ofNat m])) := own_snoc hown
    have HBW : Hid (Below w.heap.size w w2) := by
      refine (HB.out.alloc HB.out.size _).grown hgrow (by have := HB.out.size; simp; omega) ?_
      intro kk hkk
      exact (World.ownsRow.lt HO.out kk hkk).1
    clear hown hgrow hnil
    go_wp2
    go_ret
    exact ⟨_, rfl, by rw [HL.out]; exact HW.out, HBW.out⟩
end Go.Proofs.YtkaaddahegkmgaaGreat
