/- The Go function FloatsBack returns true for every input, and its arguments read afterwards as they did before. -/
import Derived.Test.YteigemeeoldadabRows
import Derived.Test.YteigemeeoldadabT4
import Derived.Test.YteigemeeoldadabTu
import Derived.WalkKit
import Derived.ProofKit
import Derived.OpenShut
import Derived.ShutString
namespace Go.Proofs.Yteigemeeoldadab.floatsBack
open Go.ChangeShapes Go.WideShapes Go.ChangeAt Go.RowKit
open Go.ChangeMaps (open_string shut_string)
set_option linter.unusedVariables false      -- a walk need not use every 'w<i>' (that an integer argument fits its kind)

theorem own : ownKnob Try.prog.godebug = none := by kernel_rfl

open FM
theorem of_zero : floatOfInt .f64 0 = 0 := by decide +kernel
theorem of_top : floatOfInt .f64 9007199254740992 = 4845873199050653696 := by decide +kernel
theorem top_val : floatToIntVal .f64 4845873199050653696 .i64 = some 9007199254740992 := by decide +kernel
theorem top_facts : isN 4845873199050653696 = false ∧ fLt 0 4845873199050653696 = true ∧ (fLt 4890909195324358656 4845873199050653696 || fEq 4845873199050653696 4890909195324358656) = false := by decide +kernel
/-- Whole of Of of a number up to 2^53, at most that number, is it. -/
theorem whole_back (m : Int) (h0 : 0 ≤ m) (h1 : m ≤ 9007199254740992) (w : World) : Calls Try.prog 13 #[.int .u64 (floatOfInt .f64 m : Nat), .int .i64 m] w fun e w' => e = .returned (.tuple #[.int .i64 m, .int .i64 0]) ∧ w' = w := by
  by_cases hz : m = 0
  · subst hz
    rw [of_zero]
    exact whole_zero 0 0 isN_zero (by omega) (by decide +kernel) w
  · by_cases ht : m = 9007199254740992
    · subst ht
      rw [of_top]
      exact whole_some 4845873199050653696 9007199254740992 top_facts.1 (by omega) top_facts.2.1 top_facts.2.2 9007199254740992 top_val (by omega) w
    · obtain ⟨n, rfl⟩ := Int.eq_ofNat_of_zero_le h0
      have e : floatOfInt .f64 (n : Int) = Ieee.double.nearest false n 0 := by
        show Ieee.double.nearest (decide ((n : Int) < 0)) (n : Int).natAbs 0 = _
        rw [decide_eq_false (by omega), Int.natAbs_natCast]
      obtain ⟨f1, f2, f3, f4⟩ := back_small n (by omega) (by omega) _ e
      exact whole_some _ n f1 (by omega) f2 f3 n f4 (by omega) w
theorem cut_bound (a : Int) : 0 ≤ wrap64 ((IntKind.u64.wrap a).tmod 9007199254740993) ∧ wrap64 ((IntKind.u64.wrap a).tmod 9007199254740993) ≤ 9007199254740992 := by
  have e : IntKind.u64.wrap a = a % 18446744073709551616 := by
    simp [IntKind.wrap, IntKind.signed, IntKind.bits]
  rw [e, Int.tmod_eq_emod_of_nonneg (by omega)]
  unfold wrap64
  omega
/-! ### STEP 1: THE WALK: the Go text returns true. 'Grown w w'': the world has at most new blocks (Derived/RowKit3.lean). Part the cases AHEAD of 'go_enter' where a test parts the walk; take each callee by a contract of your own. -/
theorem walk (a0 : Int) (w0 : (Lit.int .i64 a0).wf = true) (w : World) :
    Calls Try.prog 4 #[.int .i64 a0] w fun e w' => e = .returned (.bool true) ∧ Grown w w' := by
  obtain ⟨b0, b1⟩ := cut_bound a0
  have B0 : Hid (0 ≤ wrap64 ((IntKind.u64.wrap a0).tmod 9007199254740993)) := b0
  have B1 : Hid (wrap64 ((IntKind.u64.wrap a0).tmod 9007199254740993) ≤ 9007199254740992) := b1
  clear b0 b1 w0
  go_enter Try.func4, Try.ntmps4
  go_wp2_with fail
  generalize wrap64 ((IntKind.u64.wrap a0).tmod 9007199254740993) = m at B0 B1
  refine (of_calls _ _).mono ?_
  rintro e w' ⟨rfl, rfl⟩
  go_wp2_with fail
  refine (whole_back _ B0.out B1.out _).mono ?_
  rintro e w' ⟨rfl, rfl⟩
  go_wp2_with fail
  refine (awake_calls _).mono ?_
  rintro e w' ⟨rfl, rfl⟩
  go_wp2
  go_ret
  exact ⟨rfl, (Grown.refl _).drew⟩

/-! ### THE ROW's STEP: WRITTEN OUT: LEAVE IT -/
set_option maxRecDepth 100000 in
theorem lifted (os : Os) (started : os.Started) (H : Type) (enc : TypeId × Value → H) :
    ReturnsInHanded {} Try.checked os 4 .any (Rows.floatsBackSpec.pre6 enc Try.prog Try.f4 Rows.floatsBackRow.domain false) (Rows.floatsBackSpec.post enc Try.prog Try.f4 false true false false) := by
  refine returnsInHanded_of_change (C := Try.checked) own started (by kernel_rfl) Try.func4
    (ChangeSpec.witness6 (enc := enc) (C := Try.checked) false ⟨#[], #[.int .i64 0], []⟩ 8 (by kernel_rfl) (by kernel_rfl) (by kernel_rfl) (by kernel_rfl)) ?_
  intro W base args ds gs before hval0 hW hcnd _
  have hval : ∀ (j : Nat) t v, Try.f4.params[j]? = some t → args[j]? = some v → Value.okWide Try.prog W .any base t v := hval0
  have hW' := hW
  obtain ⟨p, q, hA0, hV, rfl, hfz, hnd⟩ := hW
  have hA : DataW.TrodAll enc Try.prog W 0 (fun _ => true) true Try.f4.params.toList args.toList ds p := hA0
  rw [Try.params4] at hA hval
  obtain ⟨v0, vs0, d0, ds0, p0, q0, hargs, rfl, rfl, h0, r0⟩ := trodAll_cons hA
  obtain ⟨rfl, rfl, rfl⟩ := trodAll_nil r0
  obtain rfl : args = #[v0] := by cases args; simp_all
  obtain ⟨rfl, rfl⟩ := trodVars_none hV
  obtain ⟨a0, rfl, rfl, rfl, w0⟩ := open_int Try.underlying3 (hval 0 3 v0 rfl rfl) h0
  clear hA0 hval0
  simp only [List.append_nil] at hW'
  refine (walk a0 w0 W).mono fun e W' ⟨he, hg⟩ => ?_
  subst he
  exact ⟨_, rfl, post_of_same (pa := []) (pv := []) hW' (fun _ _ _ => (trodAll_cons_mk (shut_bool Try.underlying4 _) trodAll_mk0)) (fun sp _ => (trodAll_cons_mk (shut_int Try.underlying3 w0) trodAll_mk0)) (fun _ _ => rfl) rfl
    (hg.frame _) hg.2.1 (ok_one (by kernel_rfl) rfl (okWide_bool_mk Try.underlying4 _))⟩

theorem over : Rows.floatsBackRow.holds Try.pinned (OpenSpec.ofChange Rows.floatsBackSpec) :=
  OpenClaim.holds_of_wide 4 Try.f4 rfl rfl rfl rfl rfl rfl rfl ⟨rfl, rfl, rfl, rfl, rfl⟩ rfl rfl rfl rfl rfl (by kernel_rfl) Try.func4 (by kernel_rfl)
    (of_decide_eq_true (by kernel_rfl)) (by unfold Func.isWrapper; first | (rw [if_pos (by decide +kernel)]; kernel_rfl) | (rw [if_neg (by decide +kernel)]; exact ⟨rfl, rfl⟩))
    (fun os started H enc _ => lifted os started H enc)

/-- ████ THE STATEMENT ████ -/
theorem proved : Rows.FloatsBackSaid :=
  over
end Go.Proofs.Yteigemeeoldadab.floatsBack

namespace Go.Proofs.Yteigemeeoldadab
theorem floatsBack_holds : Rows.FloatsBackSaid := floatsBack.proved
end Go.Proofs.Yteigemeeoldadab
