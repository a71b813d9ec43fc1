/- The contracts of pdqsort, SortFunc of at most twelve timers. -/
import Derived.Test.YtmcbgfcpalfcjaaOE
import Derived.LoopN
namespace Go.Proofs.Ytmcbgfcpalfcjaa
open Go.ChangeShapes Go.WideShapes Go.ChangeAt Go.RowKit
set_option maxHeartbeats 1000000 in
theorem blen_calls (x : Nat) (hx : x < 18446744073709551616) (w : World) : Calls Try.prog 45 #[.int .u64 (x : Int)] w fun e w' => e = .returned (.int .i64 (bl x : Nat)) ∧ w' = w := by
  have K := len_calls x hx w
  clear hx
  go_enter Try.func45, Try.ntmps45
  go_wp2_with fail
  refine K.mono ?_
  rintro e w1 ⟨rfl, rfl⟩
  go_wp2_with fail
  go_ret
  exact ⟨rfl, rfl⟩
set_option maxHeartbeats 1000000 in
theorem pdq_calls (l : List Tm) (B o c : Nat) (z : Int) (w : World) (hl : l.length ≤ 12) (hB : B < w.heap.size) (h : RowT w B o l) (hf : ∀ p, w.frozen? ⟨B, p, none⟩ = false) :
    Calls Try.prog 44 #[.slice (some ⟨B, o, none⟩) l.length c, .int .i64 0, .int .i64 l.length, .int .i64 z, .func (.func 31) #[] #[]] w fun e w' => e = .returned (.tuple #[]) ∧ Srt w w' B o (isort l) := by
  have K := insertion_calls l B o c w hl hB h hf
  have d : (l.length : Int) ≤ 12 := by omega
  clear hl hB h hf
  go_enter Try.func44, Try.ntmps44
  go_wp2_with fail
  refine wp_loop_rounds 1 ?_
  rw [rounds_succ]
  go_wp2_with fail
  refine K.mono ?_
  rintro e w1 ⟨rfl, hS⟩
  have HS : Hid (Srt w w1 B o (isort l)) := hS
  clear hS
  go_wp2_with fail
  refine bodyPost_ret (results_none rfl _ _ _) rfl ?_
  exact ⟨rfl, HS.out⟩
set_option maxHeartbeats 1000000 in
theorem sortfunc_calls (l : List Tm) (B o c : Nat) (w : World) (hl : l.length ≤ 12) (hB : B < w.heap.size) (h : RowT w B o l) (hf : ∀ p, w.frozen? ⟨B, p, none⟩ = false) :
    Calls Try.prog 30 #[.slice (some ⟨B, o, none⟩) l.length c, .func (.func 31) #[] #[]] w fun e w' => e = .returned (.tuple #[]) ∧ Srt w w' B o (isort l) := by
  have K := pdq_calls l B o c (bl l.length : Nat) w hl hB h hf
  have KL := fun W => blen_calls l.length (by omega) W
  have d : (l.length : Int) ≤ 12 := by omega
  clear hl hB h hf
  go_enter Try.func30, Try.ntmps30
  go_wp2_with fail
  refine (KL _).mono ?_
  rintro e w1 ⟨rfl, e1⟩
  have e2 := e1.symm
  subst e2
  clear e1
  go_wp2_with fail
  refine K.mono ?_
  rintro e w1 ⟨rfl, hS⟩
  have HS : Hid (Srt w w1 B o (isort l)) := hS
  clear hS
  go_wp2_with fail
  go_end0
  exact ⟨rfl, HS.out⟩
set_option maxHeartbeats 1000000 in
theorem sortnil_calls (w : World) : Calls Try.prog 30 #[.slice none 0 0, .func (.func 31) #[] #[]] w fun e w' => e = .returned (.tuple #[]) ∧ w' = w := by
  have KI : ∀ W, Calls Try.prog 54 #[.slice none 0 0, .int .i64 0, .int .i64 0, .func (.func 31) #[] #[]] W fun e w' => e = .returned (.tuple #[]) ∧ w' = W := by
    intro W
    go_enter Try.func54, Try.ntmps54
    go_wp2_with fail
    refine wp_loop_rounds 1 ?_
    rw [rounds_succ]
    go_wp2_with fail
    go_end0
    exact ⟨rfl, rfl⟩
  have KP : ∀ z W, Calls Try.prog 44 #[.slice none 0 0, .int .i64 0, .int .i64 0, .int .i64 z, .func (.func 31) #[] #[]] W fun e w' => e = .returned (.tuple #[]) ∧ w' = W := by
    intro z W
    go_enter Try.func44, Try.ntmps44
    go_wp2_with fail
    refine wp_loop_rounds 1 ?_
    rw [rounds_succ]
    go_wp2_with fail
    refine (KI _).mono ?_
    rintro e w1 ⟨rfl, rfl⟩
    go_wp2_with fail
    refine bodyPost_ret (results_none rfl _ _ _) rfl ?_
    exact ⟨rfl, rfl⟩
  have KL := fun W => blen_calls 0 (by omega) W
  go_enter Try.func30, Try.ntmps30
  go_wp2_with fail
  refine (KL _).mono ?_
  rintro e w1 ⟨rfl, rfl⟩
  go_wp2_with fail
  refine (KP _ _).mono ?_
  rintro e w1 ⟨rfl, rfl⟩
  go_wp2_with fail
  go_end0
  exact ⟨rfl, rfl⟩
end Go.Proofs.Ytmcbgfcpalfcjaa
