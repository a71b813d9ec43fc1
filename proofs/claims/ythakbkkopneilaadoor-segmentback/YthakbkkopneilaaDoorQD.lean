/- The contracts of pack's reader where it has an error: nothing is read, nothing is turned. Condition: its Err answers an error. -/
import Derived.Test.YthakbkkopneilaaDoorQE
namespace Go.Proofs.YthakbkkopneilaaDoor.PK
open Go.ChangeShapes Go.WideShapes Go.ChangeAt Go.RowKit
/-- The reader v answers the error er in the world w. -/
def ErrIs (v : Value) (er : Int) (w : World) : Prop := Calls Tryd.prog 67 #[v] w fun e w' => e = .returned (.int .i64 er) ∧ w' = w
theorem fail_dead (v : Value) (er : Int) (w : World) (hd : ErrIs v er w) (h0 : (er != 0) = true) (f : Int) : Calls Tryd.prog 66 #[v, .int .i64 f] w fun e w' => e = .returned (.tuple #[]) ∧ w' = w := by
  cases hf : (f == 0)
  · go_enter Tryd.func66, Tryd.ntmps66
    go_wp2_with fail
    refine Calls.mono hd ?_
    rintro e w' ⟨rfl, rfl⟩
    go_wp2
    first | go_end0 | refine bodyPost_ret (results_none rfl _ _ _) rfl ?_
    exact ⟨rfl, rfl⟩
  · go_enter Tryd.func66, Tryd.ntmps66
    go_wp2
    first | go_end0 | refine bodyPost_ret (results_none rfl _ _ _) rfl ?_
    exact ⟨rfl, rfl⟩
theorem take_dead (v : Value) (er : Int) (w : World) (hd : ErrIs v er w) (h0 : (er != 0) = true) (n : Int) : Calls Tryd.prog 71 #[v, .int .i64 n] w fun e w' => e = .returned (.tuple #[.slice none 0 0, .bool false]) ∧ w' = w := by
  go_enter Tryd.func71, Tryd.ntmps71
  go_wp2_with fail
  refine Calls.mono hd ?_
  rintro e w' ⟨rfl, rfl⟩
  go_wp2
  go_ret2
  exact ⟨rfl, rfl⟩
theorem word_dead (v : Value) (er : Int) (w : World) (hd : ErrIs v er w) (h0 : (er != 0) = true) (n : Int) : Calls Tryd.prog 72 #[v, .int .i64 n] w fun e w' => e = .returned (.tuple #[.int .u64 0, .bool false]) ∧ w' = w := by
  have C := take_dead v er w hd h0 n
  clear hd h0
  have HC := (show Hid _ from C)
  clear C
  go_enter Tryd.func72, Tryd.ntmps72
  go_wp2_with fail
  refine Calls.mono HC.out ?_
  rintro e w' ⟨rfl, rfl⟩
  go_wp2
  go_ret2
  exact ⟨rfl, rfl⟩
theorem number_dead (v : Value) (er : Int) (w : World) (hd : ErrIs v er w) (h0 : (er != 0) = true) : Calls Tryd.prog 65 #[v] w fun e w' => e = .returned (.int .i64 0) ∧ w' = w := by
  have HC := (show Hid _ from take_dead v er w hd h0 1)
  clear hd h0
  go_enter Tryd.func65, Tryd.ntmps65
  go_wp2_with fail
  refine Calls.mono HC.out ?_
  rintro e w' ⟨rfl, rfl⟩
  go_wp2
  go_ret
  exact ⟨rfl, rfl⟩
theorem num_dead (v : Value) (er : Int) (w : World) (hd : ErrIs v er w) (h0 : (er != 0) = true) (m : Int) : Calls Tryd.prog 55 #[v, .int .i64 m] w fun e w' => e = .returned (.int .i64 0) ∧ w' = w := by
  have HC := (show Hid _ from number_dead v er w hd h0)
  have HF := (show Hid _ from fail_dead v er w hd h0 5)
  clear hd h0
  by_cases hm : m < 0
  · go_enter Tryd.func55, Tryd.ntmps55
    go_wp2_with fail
    refine Calls.mono HC.out ?_
    rintro e w' ⟨rfl, rfl⟩
    go_wp2_with fail
    refine Calls.mono HF.out ?_
    rintro e w' ⟨rfl, rfl⟩
    go_wp2
    go_ret
    exact ⟨rfl, rfl⟩
  · go_enter Tryd.func55, Tryd.ntmps55
    go_wp2_with fail
    refine Calls.mono HC.out ?_
    rintro e w' ⟨rfl, rfl⟩
    go_wp2
    go_ret
    exact ⟨rfl, rfl⟩
theorem left_dead (v : Value) (er : Int) (w : World) (hd : ErrIs v er w) (h0 : (er != 0) = true) : Calls Tryd.prog 68 #[v] w fun e w' => e = .returned (.int .i64 0) ∧ w' = w := by
  have HC := (show Hid (ErrIs v er w) from hd)
  clear hd
  go_enter Tryd.func68, Tryd.ntmps68
  go_wp2_with fail
  refine Calls.mono HC.out ?_
  rintro e w' ⟨rfl, rfl⟩
  go_wp2
  go_ret
  exact ⟨rfl, rfl⟩
theorem end_dead (v : Value) (er : Int) (w : World) (hd : ErrIs v er w) (h0 : (er != 0) = true) : Calls Tryd.prog 56 #[v] w fun e w' => e = .returned (.int .i64 er) ∧ w' = w := by
  have HC := (show Hid (ErrIs v er w) from hd)
  clear hd
  go_enter Tryd.func56, Tryd.ntmps56
  go_wp2_with fail
  refine Calls.mono HC.out ?_
  rintro e w' ⟨rfl, rfl⟩
  go_wp2
  go_ret
  exact ⟨rfl, rfl⟩
end Go.Proofs.YthakbkkopneilaaDoor.PK
