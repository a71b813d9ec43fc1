/- The contracts of Kind, Abs, IsInf and of the reference of Kind: which kind a word of 64 bits is. Condition: the word fits 64 bits. -/
import Derived.Test.YtddigndamimmpaaDoorFCon
import Derived.Laws.BitsAllLaws
namespace Go.Proofs.YtddigndamimmpaaDoor
open Go.ChangeShapes Go.WideShapes Go.ChangeAt Go.RowKit
open FM
theorem andNot_top (x : Nat) (hx : x < 18446744073709551616) : bits BinOp.andNot IntKind.u64 (x : Int) 9223372036854775808 = (rg x : Nat) := by
  rw [u64_andNot _ _ (by omega) (by omega) (by omega) (by omega)]
  have e : (18446744073709551615 - (9223372036854775808 : Int).toNat) = 2 ^ 63 - 1 := by decide +kernel
  rw [e, Int.toNat_natCast, Nat.and_two_pow_sub_one_eq_mod]
  rfl
theorem neg_wrap (x : Nat) (hx : x < 18446744073709551616) : decide (wrap64 (x : Int) < 0) = neg x := by
  unfold neg wrap64
  by_cases h : x < 9223372036854775808
  · have e1 : x / 9223372036854775808 % 2 = 0 := by omega
    rw [e1]; simp; omega
  · have e1 : x / 9223372036854775808 % 2 = 1 := by omega
    rw [e1]; simp; omega
theorem emod_top (x : Nat) : ((x : Int) % 9223372036854775808) = (rg x : Nat) := by unfold rg; omega
def isI (x : Nat) : Bool := decide (rg x = 9218868437227405312)
def isZ (x : Nat) : Bool := decide (rg x = 0)
def isS (x : Nat) : Bool := decide (rg x < 4503599627370496)
theorem eql_inf (x : Nat) : (((rg x : Nat) : Int) == 9218868437227405312) = isI x := by
    unfold isI; rw [Bool.eq_iff_iff, beq_iff_eq, decide_eq_true_eq]; omega
theorem eql_zero (x : Nat) : (((rg x : Nat) : Int) == 0) = isZ x := by
    unfold isZ; rw [Bool.eq_iff_iff, beq_iff_eq, decide_eq_true_eq]; omega
theorem lss_sub (x : Nat) : (decide (((rg x : Nat) : Int) < 4503599627370496)) = isS x := by
    unfold isS; rw [Bool.eq_iff_iff, decide_eq_true_eq, decide_eq_true_eq]; omega
attribute [local go_sem] o_eq o_lt o_gt o_ne frombits tobits emod_top eql_inf eql_zero lss_sub
theorem abs_calls (x : Nat) (hx : x < 18446744073709551616) (w : World) : Calls Tryd.prog 69 #[.float .f64 x] w fun e w' => e = .returned (.float .f64 (rg x)) ∧ w' = w := by
  have e := andNot_top x hx
  have ea : (bits BinOp.andNot IntKind.u64 (x : Int) 9223372036854775808).toNat = rg x := by rw [e, Int.toNat_natCast]
  clear hx
  go_enter Tryd.func69, Tryd.ntmps69
  go_wp2
  go_ret
  exact ⟨rfl, rfl⟩
def kd (x : Nat) : Int := if isN x then 1 else if isI x then 2 else if isZ x then 3 else if isS x then 4 else 5
theorem key_pos (r : Nat) (h : r < 9223372036854775808) : key r = (r : Int) := by
  unfold key neg rg
  have e : r / 9223372036854775808 % 2 = 0 := by omega
  rw [e]; simp; omega
theorem rg_lt (x : Nat) : rg x < 9223372036854775808 := by unfold rg; omega
theorem isN_rg (x : Nat) : isN (rg x) = isN x := by unfold isN rg; simp
theorem isN_small (r : Nat) (h : r ≤ 9218868437227405312) : isN r = false := by unfold isN; simp; omega
theorem k_nan (x : Nat) (h : isN x = true) : isN (rg x) = true := by rw [isN_rg, h]
theorem k_inf (x : Nat) (h : isN x = false) : fLt 9218868437227405311 (rg x) = isI x := by
  have e : isN (rg x) = false := by rw [isN_rg, h]
  unfold fLt isI
  rw [isN_small 9218868437227405311 (by omega), e, key_pos _ (by omega), key_pos _ (rg_lt x)]
  unfold isN at h; simp at h
  have hr : rg x = x % 9223372036854775808 := rfl
  simp; omega
theorem k_zero (x : Nat) (h : isN x = false) : fEq (rg x) 0 = isZ x := by
  have e : isN (rg x) = false := by rw [isN_rg, h]
  unfold fEq isZ
  rw [isN_small 0 (by omega), e, key_pos 0 (by omega), key_pos _ (rg_lt x)]
  simp
theorem k_sub (x : Nat) (h : isN x = false) : fLt (rg x) 4503599627370496 = isS x := by
  have e : isN (rg x) = false := by rw [isN_rg, h]
  unfold fLt isS
  rw [isN_small 4503599627370496 (by omega), e, key_pos 4503599627370496 (by omega), key_pos _ (rg_lt x)]
  simp; omega
theorem isInf_calls (r : Nat) (w : World) : Calls Tryd.prog 70 #[.float .f64 r, .int .i64 1] w fun e w' => e = .returned (.bool (fLt 9218868437227405311 r)) ∧ w' = w := by
  go_enter Tryd.func70, Tryd.ntmps70
  go_wp2
  go_ret
  exact ⟨rfl, rfl⟩
theorem kind_calls (x : Nat) (hx : x < 18446744073709551616) (w : World) : Calls Tryd.prog 50 #[.int .u64 (x : Int)] w fun e w' => e = .returned (.int .i64 (kd x)) ∧ w' = w := by
  have e1 : isN (rg x) = isN x := isN_rg x
  have e2 : (bits BinOp.andNot IntKind.u64 (x : Int) 9223372036854775808).toNat = rg x := by rw [andNot_top x hx, Int.toNat_natCast]
  clear hx
  cases h1 : isN x
  · have f1 := k_inf x h1
    have f2 := k_zero x h1
    have f3 := k_sub x h1
    rw [h1] at e1
    cases h2 : isI x
    · cases h3 : isZ x
      · cases h4 : isS x
        · have hk : kd x = 5 := by simp [kd, h1, h2, h3, h4]
          rw [hk]
          rw [h2] at f1; rw [h3] at f2; rw [h4] at f3
          go_enter Tryd.func50, Tryd.ntmps50
          go_wp2
          go_ret
          exact ⟨rfl, rfl⟩
        · have hk : kd x = 4 := by simp [kd, h1, h2, h3, h4]
          rw [hk]
          rw [h2] at f1; rw [h3] at f2; rw [h4] at f3
          go_enter Tryd.func50, Tryd.ntmps50
          go_wp2
          go_ret
          exact ⟨rfl, rfl⟩
      · have hk : kd x = 3 := by simp [kd, h1, h2, h3]
        rw [hk]
        rw [h2] at f1; rw [h3] at f2
        go_enter Tryd.func50, Tryd.ntmps50
        go_wp2
        go_ret
        exact ⟨rfl, rfl⟩
    · have hk : kd x = 2 := by simp [kd, h1, h2]
      rw [hk]
      rw [h2] at f1
      go_enter Tryd.func50, Tryd.ntmps50
      go_wp2
      go_ret
      exact ⟨rfl, rfl⟩
  · have hk : kd x = 1 := by simp [kd, h1]
    rw [hk]
    rw [h1] at e1
    go_enter Tryd.func50, Tryd.ntmps50
    go_wp2
    go_ret
    exact ⟨rfl, rfl⟩
end Go.Proofs.YtddigndamimmpaaDoor
