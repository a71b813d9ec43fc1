/- The contracts of Kind, Abs, IsInf and of the reference of Kind: which kind a word of 64 bits is. Condition: the word fits 64 bits. -/
import Derived.Test.YtobblioplfpndaaFCon
import Derived.Laws.BitsAllLaws
namespace Go.Proofs.Ytobblioplfpndaa
open Go.ChangeShapes Go.WideShapes Go.ChangeAt Go.RowKit
open FM
theorem andNot_top (x : Nat) (hx : x < 18446744073709551616) : bits BinOp.andNot IntKind.u64 (x : Int) 9223372036854775808 = (rg x : Nat) := by
  rw [u64_andNot _ _ (by omega) (by omega) (by omega) (by omega)]
  have e : (18446744073709551615 - (9223372036854775808 : Int).toNat) = 2 ^ 63 - 1 := by decide +kernel
  rw [e, Int.toNat_natCast, Nat.and_two_pow_sub_one_eq_mod]
  rfl
theorem neg_wrap (x : Nat) (hx : x < 18446744073709551616) : decide (wrap64 (x : Int) < 0) = neg x := by
  unfold neg wrap64
  by_cases h : x < 9223372036854775808
  · have e1 : x / 9223372036854775808 % 2 = 0 := by omega
    rw [e1]; simp; omega
  · have e1 : x / 9223372036854775808 % 2 = 1 := by omega
    rw [e1]; simp; omega
theorem emod_top (x : Nat) : ((x : Int) % 9223372036854775808) = (rg x : Nat) := by unfold rg; omega
def isI (x : Nat) : Bool := decide (rg x = 9218868437227405312)
def isZ (x : Nat) : Bool := decide (rg x = 0)
def isS (x : Nat) : Bool := decide (rg x < 4503599627370496)
theorem eql_inf (x : Nat) : (((rg x : Nat) : Int) == 9218868437227405312) = isI x := by
    unfold isI; rw [Bool.eq_iff_iff, beq_iff_eq, decide_eq_true_eq]; omega
theorem eql_zero (x : Nat) : (((rg x : Nat) : Int) == 0) = isZ x := by
    unfold isZ; rw [Bool.eq_iff_iff, beq_iff_eq, decide_eq_true_eq]; omega
theorem lss_sub (x : Nat) : (decide (((rg x : Nat) : Int) < 4503599627370496)) = isS x := by
    unfold isS; rw [Bool.eq_iff_iff, decide_eq_true_eq, decide_eq_true_eq]; omega
attribute [local go_sem] o_eq o_lt o_gt o_ne frombits tobits emod_top eql_inf eql_zero lss_sub
def kd (x : Nat) : Int := if isN x then 1 else if isI x then 2 else if isZ x then 3 else if isS x then 4 else 5
theorem key_pos (r : Nat) (h : r < 9223372036854775808) : key r = (r : Int) := by
  unfold key neg rg
  have e : r / 9223372036854775808 % 2 = 0 := by omega
  rw [e]; simp; omega
theorem rg_lt (x : Nat) : rg x < 9223372036854775808 := by unfold rg; omega
theorem isN_rg (x : Nat) : isN (rg x) = isN x := by unfold isN rg; simp
theorem isN_small (r : Nat) (h : r ≤ 9218868437227405312) : isN r = false := by unfold isN; simp; omega
end Go.Proofs.Ytobblioplfpndaa
