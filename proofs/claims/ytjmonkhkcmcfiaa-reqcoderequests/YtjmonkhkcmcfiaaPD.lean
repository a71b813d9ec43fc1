/- The contracts of pack's reader where it has an error: nothing is read, nothing is turned. Condition: its Err answers an error. -/
import Derived.Test.YtjmonkhkcmcfiaaPE
namespace Go.Proofs.Ytjmonkhkcmcfiaa
open Go.ChangeShapes Go.WideShapes Go.ChangeAt Go.RowKit
/-- The reader v answers the error er in the world w. -/
def ErrIs (v : Value) (er : Int) (w : World) : Prop := Calls Try.prog 78 #[v] w fun e w' => e = .returned (.int .i64 er) ∧ w' = w
theorem fail_dead (v : Value) (er : Int) (w : World) (hd : ErrIs v er w) (h0 : (er != 0) = true) (f : Int) : Calls Try.prog 81 #[v, .int .i64 f] w fun e w' => e = .returned (.tuple #[]) ∧ w' = w := by
  cases hf : (f == 0)
  · go_enter Try.func81, Try.ntmps81
    go_wp2_with fail
    refine Calls.mono hd ?_
    rintro e w' ⟨rfl, rfl⟩
    go_wp2
    first | go_end0 | refine bodyPost_ret (results_none rfl _ _ _) rfl ?_
    exact ⟨rfl, rfl⟩
  · go_enter Try.func81, Try.ntmps81
    go_wp2
    first | go_end0 | refine bodyPost_ret (results_none rfl _ _ _) rfl ?_
    exact ⟨rfl, rfl⟩
theorem take_dead (v : Value) (er : Int) (w : World) (hd : ErrIs v er w) (h0 : (er != 0) = true) (n : Int) : Calls Try.prog 91 #[v, .int .i64 n] w fun e w' => e = .returned (.tuple #[.slice none 0 0, .bool false]) ∧ w' = w := by
  go_enter Try.func91, Try.ntmps91
  go_wp2_with fail
  refine Calls.mono hd ?_
  rintro e w' ⟨rfl, rfl⟩
  go_wp2
  go_ret2
  exact ⟨rfl, rfl⟩
theorem word_dead (v : Value) (er : Int) (w : World) (hd : ErrIs v er w) (h0 : (er != 0) = true) (n : Int) : Calls Try.prog 92 #[v, .int .i64 n] w fun e w' => e = .returned (.tuple #[.int .u64 0, .bool false]) ∧ w' = w := by
  have C := take_dead v er w hd h0 n
  clear hd h0
  have HC := (show Hid _ from C)
  clear C
  go_enter Try.func92, Try.ntmps92
  go_wp2_with fail
  refine Calls.mono HC.out ?_
  rintro e w' ⟨rfl, rfl⟩
  go_wp2
  go_ret2
  exact ⟨rfl, rfl⟩
theorem number_dead (v : Value) (er : Int) (w : World) (hd : ErrIs v er w) (h0 : (er != 0) = true) : Calls Try.prog 80 #[v] w fun e w' => e = .returned (.int .i64 0) ∧ w' = w := by
  have HC := (show Hid _ from take_dead v er w hd h0 1)
  clear hd h0
  go_enter Try.func80, Try.ntmps80
  go_wp2_with fail
  refine Calls.mono HC.out ?_
  rintro e w' ⟨rfl, rfl⟩
  go_wp2
  go_ret
  exact ⟨rfl, rfl⟩
theorem num_dead (v : Value) (er : Int) (w : World) (hd : ErrIs v er w) (h0 : (er != 0) = true) (m : Int) : Calls Try.prog 56 #[v, .int .i64 m] w fun e w' => e = .returned (.int .i64 0) ∧ w' = w := by
  have HC := (show Hid _ from number_dead v er w hd h0)
  have HF := (show Hid _ from fail_dead v er w hd h0 5)
  clear hd h0
  by_cases hm : m < 0
  · go_enter Try.func56, Try.ntmps56
    go_wp2_with fail
    refine Calls.mono HC.out ?_
    rintro e w' ⟨rfl, rfl⟩
    go_wp2_with fail
    refine Calls.mono HF.out ?_
    rintro e w' ⟨rfl, rfl⟩
    go_wp2
    go_ret
    exact ⟨rfl, rfl⟩
  · go_enter Try.func56, Try.ntmps56
    go_wp2_with fail
    refine Calls.mono HC.out ?_
    rintro e w' ⟨rfl, rfl⟩
    go_wp2
    go_ret
    exact ⟨rfl, rfl⟩
theorem int_dead (v : Value) (er : Int) (w : World) (hd : ErrIs v er w) (h0 : (er != 0) = true) : Calls Try.prog 100 #[v] w fun e w' => e = .returned (.int .i64 0) ∧ w' = w := by
  have HC := (show Hid _ from word_dead v er w hd h0 8)
  clear hd h0
  go_enter Try.func100, Try.ntmps100
  go_wp2_with fail
  refine Calls.mono HC.out ?_
  rintro e w' ⟨rfl, rfl⟩
  go_wp2
  go_ret
  exact ⟨rfl, rfl⟩
theorem bits_dead (v : Value) (er : Int) (w : World) (hd : ErrIs v er w) (h0 : (er != 0) = true) : Calls Try.prog 84 #[v] w fun e w' => e = .returned (.int .u64 0) ∧ w' = w := by
  have HC := (show Hid _ from word_dead v er w hd h0 8)
  clear hd h0
  go_enter Try.func84, Try.ntmps84
  go_wp2_with fail
  refine Calls.mono HC.out ?_
  rintro e w' ⟨rfl, rfl⟩
  go_wp2
  go_ret
  exact ⟨rfl, rfl⟩
theorem text_dead (v : Value) (er : Int) (w : World) (hd : ErrIs v er w) (h0 : (er != 0) = true) (m : Int) : Calls Try.prog 82 #[v, .int .i64 m] w fun e w' => e = .returned (.string ByteArray.empty) ∧ w' = w := by
  have HC := (show Hid _ from num_dead v er w hd h0 m)
  have HT := (show Hid _ from take_dead v er w hd h0 0)
  clear hd h0
  have hcv : (convert 32 9 (.slice none 0 0)).run Try.prog w = .ok (.string ByteArray.empty) w := conv_string w none 0 [] (holds_nil w)
  go_enter Try.func82, Try.ntmps82
  go_wp2_with fail
  refine Calls.mono HC.out ?_
  rintro e w' ⟨rfl, rfl⟩
  go_wp2_with fail
  refine Calls.mono HT.out ?_
  rintro e w' ⟨rfl, rfl⟩
  go_wp2
  go_ret
  exact ⟨rfl, rfl⟩
theorem left_dead (v : Value) (er : Int) (w : World) (hd : ErrIs v er w) (h0 : (er != 0) = true) : Calls Try.prog 79 #[v] w fun e w' => e = .returned (.int .i64 0) ∧ w' = w := by
  have HC := (show Hid (ErrIs v er w) from hd)
  clear hd
  go_enter Try.func79, Try.ntmps79
  go_wp2_with fail
  refine Calls.mono HC.out ?_
  rintro e w' ⟨rfl, rfl⟩
  go_wp2
  go_ret
  exact ⟨rfl, rfl⟩
theorem end_dead (v : Value) (er : Int) (w : World) (hd : ErrIs v er w) (h0 : (er != 0) = true) : Calls Try.prog 55 #[v] w fun e w' => e = .returned (.int .i64 er) ∧ w' = w := by
  have HC := (show Hid (ErrIs v er w) from hd)
  clear hd
  go_enter Try.func55, Try.ntmps55
  go_wp2_with fail
  refine Calls.mono HC.out ?_
  rintro e w' ⟨rfl, rfl⟩
  go_wp2
  go_ret
  exact ⟨rfl, rfl⟩
end Go.Proofs.Ytjmonkhkcmcfiaa
