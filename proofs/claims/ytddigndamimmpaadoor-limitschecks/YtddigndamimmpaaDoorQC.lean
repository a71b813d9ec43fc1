/- The reference's Check of a policy. -/
import Derived.Test.YtddigndamimmpaaDoorRX
import Derived.Test.YtddigndamimmpaaDoorGA
import Derived.Deep.QuietTactic
import Derived.BigQuiet
namespace Go.Proofs.YtddigndamimmpaaDoor
open Go.ChangeShapes Go.WideShapes Go.ChangeAt Go.RowKit
open FM
attribute [local go_sem] o_eq o_lt o_gt o_ne frombits tobits emod_top eql_inf eql_zero lss_sub
theorem nan_calls (x : Nat) (w : World) : Calls Tryd.prog 58 #[.int .u64 (x : Int)] w fun e w' => e = .returned (.bool (isN x)) ∧ w' = w := by
  go_enter Tryd.func58, Tryd.ntmps58
  go_wp2
  go_ret
  exact ⟨rfl, rfl⟩
theorem refKind_calls (x : Nat) (w : World) : Calls Tryd.prog 39 #[.int .u64 (x : Int)] w fun e w' => e = .returned (.int .i64 (kd x)) ∧ w' = w := by
  cases h1 : isN x
  · cases h2 : isI x
    · cases h3 : isZ x
      · cases h4 : isS x
        · have hk : kd x = 5 := by simp [kd, h1, h2, h3, h4]
          rw [hk]
          go_enter Tryd.func39, Tryd.ntmps39
          go_wp2
          go_ret
          exact ⟨rfl, rfl⟩
        · have hk : kd x = 4 := by simp [kd, h1, h2, h3, h4]
          rw [hk]
          go_enter Tryd.func39, Tryd.ntmps39
          go_wp2
          go_ret
          exact ⟨rfl, rfl⟩
      · have hk : kd x = 3 := by simp [kd, h1, h2, h3]
        rw [hk]
        go_enter Tryd.func39, Tryd.ntmps39
        go_wp2
        go_ret
        exact ⟨rfl, rfl⟩
    · have hk : kd x = 2 := by simp [kd, h1, h2]
      rw [hk]
      go_enter Tryd.func39, Tryd.ntmps39
      go_wp2
      go_ret
      exact ⟨rfl, rfl⟩
  · have hk : kd x = 1 := by simp [kd, h1]
    rw [hk]
    go_enter Tryd.func39, Tryd.ntmps39
    go_wp2
    go_ret
    exact ⟨rfl, rfl⟩
theorem belNQ (w : World) (n : Nat) : Below w.heap.size w (w.drewN n) := ⟨rfl, rfl, rfl, Nat.le_refl _, fun _ _ => rfl⟩
theorem refCheck_0 (f : Int) (c : Nat) (m : Int) (hf0 : decide (f < 0) = true) (w : World) :
    Calls Tryd.prog 24 #[.agg #[.int .i64 f, .int .u64 (c : Int), .int .i64 m]] w fun e w' => e = .returned (.int .i64 1) ∧ Below w.heap.size w w' := by
  go_enter Tryd.func24, Tryd.ntmps24
  go_wp2_with fail
  go_quiet (first | (go_at_call 38; exact Calls.quiet_of_same (refCanon_calls c _)) | (go_at_call 39; exact Calls.quiet_of_same (refKind_calls c _)))
  go_wp2_with fail
  go_ret
  exact ⟨rfl, (bel1 _ _).trans ((belNQ _ _).mono (by simp))⟩
theorem refCheck_1 (f : Int) (c : Nat) (m : Int) (hf0 : decide (f < 0) = false) (hf1 : decide (1073741824 < f) = true) (w : World) :
    Calls Tryd.prog 24 #[.agg #[.int .i64 f, .int .u64 (c : Int), .int .i64 m]] w fun e w' => e = .returned (.int .i64 1) ∧ Below w.heap.size w w' := by
  go_enter Tryd.func24, Tryd.ntmps24
  go_wp2_with fail
  go_quiet (first | (go_at_call 38; exact Calls.quiet_of_same (refCanon_calls c _)) | (go_at_call 39; exact Calls.quiet_of_same (refKind_calls c _)))
  go_wp2_with fail
  go_ret
  exact ⟨rfl, (bel1 _ _).trans ((belNQ _ _).mono (by simp))⟩
theorem refCheck_2 (f : Int) (c : Nat) (m : Int) (hf0 : decide (f < 0) = false) (hf1 : decide (1073741824 < f) = false) (hm0 : decide (m < 0) = true) (w : World) :
    Calls Tryd.prog 24 #[.agg #[.int .i64 f, .int .u64 (c : Int), .int .i64 m]] w fun e w' => e = .returned (.int .i64 1) ∧ Below w.heap.size w w' := by
  go_enter Tryd.func24, Tryd.ntmps24
  go_wp2_with fail
  go_quiet (first | (go_at_call 38; exact Calls.quiet_of_same (refCanon_calls c _)) | (go_at_call 39; exact Calls.quiet_of_same (refKind_calls c _)))
  go_wp2_with fail
  go_ret
  exact ⟨rfl, (bel1 _ _).trans ((belNQ _ _).mono (by simp))⟩
theorem refCheck_3 (f : Int) (c : Nat) (m : Int) (hf0 : decide (f < 0) = false) (hf1 : decide (1073741824 < f) = false) (hm0 : decide (m < 0) = false) (hm1 : decide (1073741824 < m) = true) (w : World) :
    Calls Tryd.prog 24 #[.agg #[.int .i64 f, .int .u64 (c : Int), .int .i64 m]] w fun e w' => e = .returned (.int .i64 1) ∧ Below w.heap.size w w' := by
  go_enter Tryd.func24, Tryd.ntmps24
  go_wp2_with fail
  go_quiet (first | (go_at_call 38; exact Calls.quiet_of_same (refCanon_calls c _)) | (go_at_call 39; exact Calls.quiet_of_same (refKind_calls c _)))
  go_wp2_with fail
  go_ret
  exact ⟨rfl, (bel1 _ _).trans ((belNQ _ _).mono (by simp))⟩
theorem refCheck_4 (f : Int) (c : Nat) (m : Int) (hf0 : decide (f < 0) = false) (hf1 : decide (1073741824 < f) = false) (hm0 : decide (m < 0) = false) (hm1 : decide (1073741824 < m) = false) (hcn : ((c : Int) != ((cn c : Nat) : Int)) = true) (w : World) :
    Calls Tryd.prog 24 #[.agg #[.int .i64 f, .int .u64 (c : Int), .int .i64 m]] w fun e w' => e = .returned (.int .i64 1) ∧ Below w.heap.size w w' := by
  go_enter Tryd.func24, Tryd.ntmps24
  go_wp2_with fail
  go_quiet (first | (go_at_call 38; exact Calls.quiet_of_same (refCanon_calls c _)) | (go_at_call 39; exact Calls.quiet_of_same (refKind_calls c _)))
  go_wp2_with fail
  go_ret
  exact ⟨rfl, (bel1 _ _).trans ((belNQ _ _).mono (by simp))⟩
theorem refCheck_5 (f : Int) (c : Nat) (m : Int) (hf0 : decide (f < 0) = false) (hf1 : decide (1073741824 < f) = false) (hm0 : decide (m < 0) = false) (hm1 : decide (1073741824 < m) = false) (hcn : ((c : Int) != ((cn c : Nat) : Int)) = false) (hna : ((kd c : Int) == 1) = true) (w : World) :
    Calls Tryd.prog 24 #[.agg #[.int .i64 f, .int .u64 (c : Int), .int .i64 m]] w fun e w' => e = .returned (.int .i64 1) ∧ Below w.heap.size w w' := by
  go_enter Tryd.func24, Tryd.ntmps24
  go_wp2_with fail
  go_quiet (first | (go_at_call 38; exact Calls.quiet_of_same (refCanon_calls c _)) | (go_at_call 39; exact Calls.quiet_of_same (refKind_calls c _)))
  go_wp2_with fail
  go_ret
  exact ⟨rfl, (bel1 _ _).trans ((belNQ _ _).mono (by simp))⟩
theorem refCheck_6 (f : Int) (c : Nat) (m : Int) (hf0 : decide (f < 0) = false) (hf1 : decide (1073741824 < f) = false) (hm0 : decide (m < 0) = false) (hm1 : decide (1073741824 < m) = false) (hcn : ((c : Int) != ((cn c : Nat) : Int)) = false) (hna : ((kd c : Int) == 1) = false) (w : World) :
    Calls Tryd.prog 24 #[.agg #[.int .i64 f, .int .u64 (c : Int), .int .i64 m]] w fun e w' => e = .returned (.int .i64 0) ∧ Below w.heap.size w w' := by
  go_enter Tryd.func24, Tryd.ntmps24
  go_wp2_with fail
  go_quiet (first | (go_at_call 38; exact Calls.quiet_of_same (refCanon_calls c _)) | (go_at_call 39; exact Calls.quiet_of_same (refKind_calls c _)))
  go_wp2_with fail
  go_ret
  exact ⟨rfl, (bel1 _ _).trans ((belNQ _ _).mono (by simp))⟩
theorem refCheck_calls (f : Int) (c : Nat) (m : Int) (w : World) :
    Calls Tryd.prog 24 #[.agg #[.int .i64 f, .int .u64 (c : Int), .int .i64 m]] w fun e w' => e = .returned (.int .i64 (ce (may f c m))) ∧ Below w.heap.size w w' := by
  have hk := kd_one c
  cases hf0 : decide (f < 0)
  · cases hf1 : decide (1073741824 < f)
    · cases hm0 : decide (m < 0)
      · cases hm1 : decide (1073741824 < m)
        · cases hcn : ((c : Int) == ((cn c : Nat) : Int))
          · have hne : ((c : Int) != ((cn c : Nat) : Int)) = true := by unfold bne; rw [hcn]; rfl
            have : may f c m = false := by
              unfold may isC; rw [beq_eq_false_iff_ne] at hcn
              have : ¬ cn c = c := fun h => hcn (by rw [h])
              simp [this]
            rw [this]; exact refCheck_4 f c m hf0 hf1 hm0 hm1 hne w
          · have hne : ((c : Int) != ((cn c : Nat) : Int)) = false := by unfold bne; rw [hcn]; rfl
            cases hna : ((kd c : Int) == 1)
            · have : may f c m = true := by
                unfold may isC isD
                rw [hna] at hk
                rw [beq_iff_eq] at hcn
                simp at hf0 hf1 hm0 hm1
                have hc : cn c = c := by omega
                simp [← hk, hc]
                omega
              rw [this]; exact refCheck_6 f c m hf0 hf1 hm0 hm1 hne hna w
            · have : may f c m = false := by
                unfold may isC
                rw [hna] at hk
                simp [← hk]
              rw [this]; exact refCheck_5 f c m hf0 hf1 hm0 hm1 hne hna w
        · have : may f c m = false := by unfold may isD; simp at hm1; simp; omega
          rw [this]; exact refCheck_3 f c m hf0 hf1 hm0 hm1 w
      · have : may f c m = false := by unfold may isD; simp at hm0; simp; omega
        rw [this]; exact refCheck_2 f c m hf0 hf1 hm0 w
    · have : may f c m = false := by unfold may isD; simp at hf1; simp; omega
      rw [this]; exact refCheck_1 f c m hf0 hf1 w
  · have : may f c m = false := by unfold may isD; simp at hf0; simp; omega
    rw [this]; exact refCheck_0 f c m hf0 w
end Go.Proofs.YtddigndamimmpaaDoor
