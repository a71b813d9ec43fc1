/- The contracts of Add and Mul and of their references: the canonical bits of what the operation gives; the one NaN where it is not valid. No condition. -/
import Derived.Test.YtmcbgfcpalfcjaaFT2
import Derived.Laws.FloatArith
namespace Go.Proofs.Ytmcbgfcpalfcjaa
open Go.ChangeShapes Go.WideShapes Go.ChangeAt Go.RowKit
open FM
attribute [local go_sem] o_eq o_lt o_gt o_ne frombits tobits
theorem of_calls (n : Int) (w : World) : Calls Try.prog 48 #[.int .i64 n] w fun e w' => e = .returned (.int .u64 (floatOfInt .f64 n : Nat)) ∧ w' = w := by
  go_enter Try.func48, Try.ntmps48
  go_wp2
  go_ret
  exact ⟨rfl, rfl⟩
theorem nan_word (s f : Nat) (_hs : s < 2) (hf : f < 4503599627370495) : isN (s * 9223372036854775808 + 9218868437227405312 + 1 + f) = true := by
  unfold isN
  simp
  omega
theorem nan_bits (x y t : Nat) : isN ((Question.nanBits .f64 x y).cut t) = true :=
  nan_word (t % 2) (t / 2 % 4503599627370495) (Nat.mod_lt _ (by decide)) (Nat.mod_lt _ (by decide))
theorem run_float_nan (P : Program) (op : BinOp) (t : TypeId) (x y : Nat) (w : World) (hop : op = .add ∨ op = .mul) (h : floatBits op .f64 x y = none) :
    (binOp op t (.float .f64 x) (.float .f64 y)).run P w = .ok (.float .f64 ((Question.nanBits .f64 x y).cut (w.tape w.drawn (.nanBits .f64 x y)))) w.drew := by
  rcases hop with rfl | rfl
  all_goals
    unfold floatBits at h
    simp [binOp, Op.floatArith, h, Question.forced]
theorem bitsOf_calls (x : Nat) (w : World) : Calls Try.prog 65 #[.float .f64 x] w fun e w' => e = .returned (.int .u64 (cn x : Nat)) ∧ w' = w := by
  go_enter Try.func65, Try.ntmps65
  go_wp2_with fail
  refine (canon_calls _ _).mono ?_
  rintro e w' ⟨rfl, rfl⟩
  go_wp2
  go_ret
  exact ⟨rfl, rfl⟩
theorem cn_nan (x : Nat) (h : isN x = true) : ((cn x : Nat) : Int) = 9221120237041090560 := by simp [cn, h]
theorem run_none (op : BinOp) (x y : Nat) (w : World) (hop : op = .add ∨ op = .mul) (h : floatBits op .f64 x y = none) :
    ∃ r, isN r = true ∧ (binOp op 78 (.float .f64 x) (.float .f64 y)).run Try.prog w = .ok (.float .f64 r) w.drew :=
  ⟨_, nan_bits x y _, run_float_nan Try.prog op 78 x y w hop h⟩
theorem mul_some (a b r : Nat) (w : World) (h : floatBits .mul .f64 a b = some r) : Calls Try.prog 49 #[.int .u64 (a : Int), .int .u64 (b : Int)] w fun e w' => e = .returned (.int .u64 (cn r : Nat)) ∧ w' = w := by
  have hr := fun w => run_float_arith (P := Try.prog) w .mul 78 .f64 a b r h
  clear h
  go_enter Try.func49, Try.ntmps49
  go_wp2_with fail
  refine (bitsOf_calls _ _).mono ?_
  rintro e w' ⟨rfl, rfl⟩
  go_wp2
  go_ret
  exact ⟨rfl, rfl⟩
theorem mul_none (a b : Nat) (w : World) (h : floatBits .mul .f64 a b = none) : Calls Try.prog 49 #[.int .u64 (a : Int), .int .u64 (b : Int)] w fun e w' => e = .returned (.int .u64 9221120237041090560) ∧ w' = w.drew := by
  obtain ⟨r, hn, hr⟩ := run_none .mul a b w (.inr rfl) h
  clear h
  go_enter Try.func49, Try.ntmps49
  go_wp2_with fail
  refine (bitsOf_calls _ _).mono ?_
  rintro e w' ⟨rfl, rfl⟩
  rw [cn_nan r hn]
  go_wp2
  go_ret
  exact ⟨rfl, rfl⟩
end Go.Proofs.Ytmcbgfcpalfcjaa
