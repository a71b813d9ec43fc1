/- The contracts of pack's reader where it has an error: nothing is read, nothing is turned. Condition: its Err answers an error. -/
import Derived.Test.YtkaaddahegkmgaaGreatPE
namespace Go.Proofs.YtkaaddahegkmgaaGreat
open Go.ChangeShapes Go.WideShapes Go.ChangeAt Go.RowKit
/-- The reader v answers the error er in the world w. -/
def ErrIs (v : Value) (er : Int) (w : World) : Prop := Calls Tryz.prog 43 #[v] w fun e w' => e = .returned (.int .i64 er) ∧ w' = w
theorem fail_dead (v : Value) (er : Int) (w : World) (hd : ErrIs v er w) (h0 : (er != 0) = true) (f : Int) : Calls Tryz.prog 72 #[v, .int .i64 f] w fun e w' => e = .returned (.tuple #[]) ∧ w' = w := by
  cases hf : (f == 0)
  · go_enter Tryz.func72, Tryz.ntmps72
    go_wp2_with fail
    refine Calls.mono hd ?_
    rintro e w' ⟨rfl, rfl⟩
    go_wp2
    first | go_end0 | refine bodyPost_ret (results_none rfl _ _ _) rfl ?_
    exact ⟨rfl, rfl⟩
  · go_enter Tryz.func72, Tryz.ntmps72
    go_wp2
    first | go_end0 | refine bodyPost_ret (results_none rfl _ _ _) rfl ?_
    exact ⟨rfl, rfl⟩
theorem take_dead (v : Value) (er : Int) (w : World) (hd : ErrIs v er w) (h0 : (er != 0) = true) (n : Int) : Calls Tryz.prog 99 #[v, .int .i64 n] w fun e w' => e = .returned (.tuple #[.slice none 0 0, .bool false]) ∧ w' = w := by
  go_enter Tryz.func99, Tryz.ntmps99
  go_wp2_with fail
  refine Calls.mono hd ?_
  rintro e w' ⟨rfl, rfl⟩
  go_wp2
  go_ret2
  exact ⟨rfl, rfl⟩
theorem word_dead (v : Value) (er : Int) (w : World) (hd : ErrIs v er w) (h0 : (er != 0) = true) (n : Int) : Calls Tryz.prog 100 #[v, .int .i64 n] w fun e w' => e = .returned (.tuple #[.int .u64 0, .bool false]) ∧ w' = w := by
  have C := take_dead v er w hd h0 n
  clear hd h0
  have HC := (show Hid _ from C)
  clear C
  go_enter Tryz.func100, Tryz.ntmps100
  go_wp2_with fail
  refine Calls.mono HC.out ?_
  rintro e w' ⟨rfl, rfl⟩
  go_wp2
  go_ret2
  exact ⟨rfl, rfl⟩
theorem number_dead (v : Value) (er : Int) (w : World) (hd : ErrIs v er w) (h0 : (er != 0) = true) : Calls Tryz.prog 71 #[v] w fun e w' => e = .returned (.int .i64 0) ∧ w' = w := by
  have HC := (show Hid _ from take_dead v er w hd h0 1)
  clear hd h0
  go_enter Tryz.func71, Tryz.ntmps71
  go_wp2_with fail
  refine Calls.mono HC.out ?_
  rintro e w' ⟨rfl, rfl⟩
  go_wp2
  go_ret
  exact ⟨rfl, rfl⟩
theorem num_dead (v : Value) (er : Int) (w : World) (hd : ErrIs v er w) (h0 : (er != 0) = true) (m : Int) : Calls Tryz.prog 40 #[v, .int .i64 m] w fun e w' => e = .returned (.int .i64 0) ∧ w' = w := by
  have HC := (show Hid _ from number_dead v er w hd h0)
  have HF := (show Hid _ from fail_dead v er w hd h0 5)
  clear hd h0
  by_cases hm : m < 0
  · go_enter Tryz.func40, Tryz.ntmps40
    go_wp2_with fail
    refine Calls.mono HC.out ?_
    rintro e w' ⟨rfl, rfl⟩
    go_wp2_with fail
    refine Calls.mono HF.out ?_
    rintro e w' ⟨rfl, rfl⟩
    go_wp2
    go_ret
    exact ⟨rfl, rfl⟩
  · go_enter Tryz.func40, Tryz.ntmps40
    go_wp2_with fail
    refine Calls.mono HC.out ?_
    rintro e w' ⟨rfl, rfl⟩
    go_wp2
    go_ret
    exact ⟨rfl, rfl⟩
theorem text_dead (v : Value) (er : Int) (w : World) (hd : ErrIs v er w) (h0 : (er != 0) = true) (m : Int) : Calls Tryz.prog 73 #[v, .int .i64 m] w fun e w' => e = .returned (.string ByteArray.empty) ∧ w' = w := by
  have HC := (show Hid _ from num_dead v er w hd h0 m)
  have HT := (show Hid _ from take_dead v er w hd h0 0)
  clear hd h0
  have hcv : (convert 26 9 (.slice none 0 0)).run Tryz.prog w = .ok (.string ByteArray.empty) w := conv_string w none 0 [] (holds_nil w)
  go_enter Tryz.func73, Tryz.ntmps73
  go_wp2_with fail
  refine Calls.mono HC.out ?_
  rintro e w' ⟨rfl, rfl⟩
  go_wp2_with fail
  refine Calls.mono HT.out ?_
  rintro e w' ⟨rfl, rfl⟩
  go_wp2
  go_ret
  exact ⟨rfl, rfl⟩
theorem left_dead (v : Value) (er : Int) (w : World) (hd : ErrIs v er w) (h0 : (er != 0) = true) : Calls Tryz.prog 44 #[v] w fun e w' => e = .returned (.int .i64 0) ∧ w' = w := by
  have HC := (show Hid (ErrIs v er w) from hd)
  clear hd
  go_enter Tryz.func44, Tryz.ntmps44
  go_wp2_with fail
  refine Calls.mono HC.out ?_
  rintro e w' ⟨rfl, rfl⟩
  go_wp2
  go_ret
  exact ⟨rfl, rfl⟩
theorem end_dead (v : Value) (er : Int) (w : World) (hd : ErrIs v er w) (h0 : (er != 0) = true) : Calls Tryz.prog 18 #[v] w fun e w' => e = .returned (.int .i64 er) ∧ w' = w := by
  have HC := (show Hid (ErrIs v er w) from hd)
  clear hd
  go_enter Tryz.func18, Tryz.ntmps18
  go_wp2_with fail
  refine Calls.mono HC.out ?_
  rintro e w' ⟨rfl, rfl⟩
  go_wp2
  go_ret
  exact ⟨rfl, rfl⟩
end Go.Proofs.YtkaaddahegkmgaaGreat
