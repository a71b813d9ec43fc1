/- The Go function FloatsTotal returns true for every input, and its arguments read afterwards as they did before. -/
import Derived.Test.YteigemeeoldadaaRows
import Derived.Test.YteigemeeoldadaaT4
import Derived.Test.YteigemeeoldadaaOrd
import Derived.WalkKit
import Derived.ProofKit
import Derived.OpenShut
import Derived.ShutString
namespace Go.Proofs.Yteigemeeoldadaa.floatsTotal
open Go.ChangeShapes Go.WideShapes Go.ChangeAt Go.RowKit
open Go.ChangeMaps (open_string shut_string)
set_option linter.unusedVariables false      -- a walk need not use every 'w<i>' (that an integer argument fits its kind)

theorem own : ownKnob Try.prog.godebug = none := by kernel_rfl

open FM
theorem g1 (a b c : Nat) (HA : Hid (a < 18446744073709551616)) (HB : Hid (b < 18446744073709551616)) (HC : Hid (c < 18446744073709551616)) (w : World) (hab : od a b = 1) (hba : od b a = -1) (hcn : ((cn a : Int) == (cn b : Int)) = false) : Calls Try.prog 7 #[.int .u64 (a : Int), .int .u64 (b : Int), .int .u64 (c : Int)] w fun e w' => e = .returned (.bool true) ∧ Grown w w' := by
  go_enter Try.func7, Try.ntmps7
  go_wp2_with fail
  refine (order_od _ _ HA.out HB.out _).mono ?_
  rintro e w' ⟨rfl, rfl⟩
  rw [hab]
  go_wp2_with fail
  refine (order_od _ _ HB.out HC.out _).mono ?_
  rintro e w' ⟨rfl, rfl⟩
  go_wp2_with fail
  refine (order_od _ _ HA.out HC.out _).mono ?_
  rintro e w' ⟨rfl, rfl⟩
  go_wp2_with fail
  refine (order_od _ _ HB.out HA.out _).mono ?_
  rintro e w' ⟨rfl, rfl⟩
  rw [hba]
  go_wp2_with fail
  refine (canon_calls _ _).mono ?_
  rintro e w' ⟨rfl, rfl⟩
  go_wp2_with fail
  refine (canon_calls _ _).mono ?_
  rintro e w' ⟨rfl, rfl⟩
  go_wp2_with fail
  refine (awake_calls _).mono ?_
  rintro e w' ⟨rfl, rfl⟩
  go_wp2
  go_ret
  exact ⟨rfl, (Grown.refl _).drew⟩
theorem g2 (a b c : Nat) (HA : Hid (a < 18446744073709551616)) (HB : Hid (b < 18446744073709551616)) (HC : Hid (c < 18446744073709551616)) (w : World) (hab : od a b = 0) (hba : od b a = 0) (hbc : od b c = 1) (hcn : ((cn a : Int) == (cn b : Int)) = true) : Calls Try.prog 7 #[.int .u64 (a : Int), .int .u64 (b : Int), .int .u64 (c : Int)] w fun e w' => e = .returned (.bool true) ∧ Grown w w' := by
  go_enter Try.func7, Try.ntmps7
  go_wp2_with fail
  refine (order_od _ _ HA.out HB.out _).mono ?_
  rintro e w' ⟨rfl, rfl⟩
  rw [hab]
  go_wp2_with fail
  refine (order_od _ _ HB.out HC.out _).mono ?_
  rintro e w' ⟨rfl, rfl⟩
  rw [hbc]
  go_wp2_with fail
  refine (order_od _ _ HA.out HC.out _).mono ?_
  rintro e w' ⟨rfl, rfl⟩
  go_wp2_with fail
  refine (order_od _ _ HB.out HA.out _).mono ?_
  rintro e w' ⟨rfl, rfl⟩
  rw [hba]
  go_wp2_with fail
  refine (canon_calls _ _).mono ?_
  rintro e w' ⟨rfl, rfl⟩
  go_wp2_with fail
  refine (canon_calls _ _).mono ?_
  rintro e w' ⟨rfl, rfl⟩
  go_wp2_with fail
  refine (awake_calls _).mono ?_
  rintro e w' ⟨rfl, rfl⟩
  go_wp2
  go_ret
  exact ⟨rfl, (Grown.refl _).drew⟩
theorem g3 (a b c : Nat) (HA : Hid (a < 18446744073709551616)) (HB : Hid (b < 18446744073709551616)) (HC : Hid (c < 18446744073709551616)) (w : World) (hab : od a b = 0) (hba : od b a = 0) (hbc : od b c = 0) (hac : od a c = 0) (hcn : ((cn a : Int) == (cn b : Int)) = true) : Calls Try.prog 7 #[.int .u64 (a : Int), .int .u64 (b : Int), .int .u64 (c : Int)] w fun e w' => e = .returned (.bool true) ∧ Grown w w' := by
  go_enter Try.func7, Try.ntmps7
  go_wp2_with fail
  refine (order_od _ _ HA.out HB.out _).mono ?_
  rintro e w' ⟨rfl, rfl⟩
  rw [hab]
  go_wp2_with fail
  refine (order_od _ _ HB.out HC.out _).mono ?_
  rintro e w' ⟨rfl, rfl⟩
  rw [hbc]
  go_wp2_with fail
  refine (order_od _ _ HA.out HC.out _).mono ?_
  rintro e w' ⟨rfl, rfl⟩
  rw [hac]
  go_wp2_with fail
  refine (order_od _ _ HB.out HA.out _).mono ?_
  rintro e w' ⟨rfl, rfl⟩
  rw [hba]
  go_wp2_with fail
  refine (canon_calls _ _).mono ?_
  rintro e w' ⟨rfl, rfl⟩
  go_wp2_with fail
  refine (canon_calls _ _).mono ?_
  rintro e w' ⟨rfl, rfl⟩
  go_wp2_with fail
  refine (awake_calls _).mono ?_
  rintro e w' ⟨rfl, rfl⟩
  go_wp2
  go_ret
  exact ⟨rfl, (Grown.refl _).drew⟩
theorem g4 (a b c : Nat) (HA : Hid (a < 18446744073709551616)) (HB : Hid (b < 18446744073709551616)) (HC : Hid (c < 18446744073709551616)) (w : World) (hab : od a b = 0) (hba : od b a = 0) (hbc : od b c = -1) (hac : od a c = -1) (hcn : ((cn a : Int) == (cn b : Int)) = true) : Calls Try.prog 7 #[.int .u64 (a : Int), .int .u64 (b : Int), .int .u64 (c : Int)] w fun e w' => e = .returned (.bool true) ∧ Grown w w' := by
  go_enter Try.func7, Try.ntmps7
  go_wp2_with fail
  refine (order_od _ _ HA.out HB.out _).mono ?_
  rintro e w' ⟨rfl, rfl⟩
  rw [hab]
  go_wp2_with fail
  refine (order_od _ _ HB.out HC.out _).mono ?_
  rintro e w' ⟨rfl, rfl⟩
  rw [hbc]
  go_wp2_with fail
  refine (order_od _ _ HA.out HC.out _).mono ?_
  rintro e w' ⟨rfl, rfl⟩
  rw [hac]
  go_wp2_with fail
  refine (order_od _ _ HB.out HA.out _).mono ?_
  rintro e w' ⟨rfl, rfl⟩
  rw [hba]
  go_wp2_with fail
  refine (canon_calls _ _).mono ?_
  rintro e w' ⟨rfl, rfl⟩
  go_wp2_with fail
  refine (canon_calls _ _).mono ?_
  rintro e w' ⟨rfl, rfl⟩
  go_wp2_with fail
  refine (awake_calls _).mono ?_
  rintro e w' ⟨rfl, rfl⟩
  go_wp2
  go_ret
  exact ⟨rfl, (Grown.refl _).drew⟩
theorem g5 (a b c : Nat) (HA : Hid (a < 18446744073709551616)) (HB : Hid (b < 18446744073709551616)) (HC : Hid (c < 18446744073709551616)) (w : World) (hab : od a b = -1) (hba : od b a = 1) (hbc : od b c = 1) (hcn : ((cn a : Int) == (cn b : Int)) = false) : Calls Try.prog 7 #[.int .u64 (a : Int), .int .u64 (b : Int), .int .u64 (c : Int)] w fun e w' => e = .returned (.bool true) ∧ Grown w w' := by
  go_enter Try.func7, Try.ntmps7
  go_wp2_with fail
  refine (order_od _ _ HA.out HB.out _).mono ?_
  rintro e w' ⟨rfl, rfl⟩
  rw [hab]
  go_wp2_with fail
  refine (order_od _ _ HB.out HC.out _).mono ?_
  rintro e w' ⟨rfl, rfl⟩
  rw [hbc]
  go_wp2_with fail
  refine (order_od _ _ HA.out HC.out _).mono ?_
  rintro e w' ⟨rfl, rfl⟩
  go_wp2_with fail
  refine (order_od _ _ HB.out HA.out _).mono ?_
  rintro e w' ⟨rfl, rfl⟩
  rw [hba]
  go_wp2_with fail
  refine (canon_calls _ _).mono ?_
  rintro e w' ⟨rfl, rfl⟩
  go_wp2_with fail
  refine (canon_calls _ _).mono ?_
  rintro e w' ⟨rfl, rfl⟩
  go_wp2_with fail
  refine (awake_calls _).mono ?_
  rintro e w' ⟨rfl, rfl⟩
  go_wp2
  go_ret
  exact ⟨rfl, (Grown.refl _).drew⟩
theorem g6 (a b c : Nat) (HA : Hid (a < 18446744073709551616)) (HB : Hid (b < 18446744073709551616)) (HC : Hid (c < 18446744073709551616)) (w : World) (hab : od a b = -1) (hba : od b a = 1) (hbc : od b c = 0) (hac : od a c = -1) (hcn : ((cn a : Int) == (cn b : Int)) = false) : Calls Try.prog 7 #[.int .u64 (a : Int), .int .u64 (b : Int), .int .u64 (c : Int)] w fun e w' => e = .returned (.bool true) ∧ Grown w w' := by
  go_enter Try.func7, Try.ntmps7
  go_wp2_with fail
  refine (order_od _ _ HA.out HB.out _).mono ?_
  rintro e w' ⟨rfl, rfl⟩
  rw [hab]
  go_wp2_with fail
  refine (order_od _ _ HB.out HC.out _).mono ?_
  rintro e w' ⟨rfl, rfl⟩
  rw [hbc]
  go_wp2_with fail
  refine (order_od _ _ HA.out HC.out _).mono ?_
  rintro e w' ⟨rfl, rfl⟩
  rw [hac]
  go_wp2_with fail
  refine (order_od _ _ HB.out HA.out _).mono ?_
  rintro e w' ⟨rfl, rfl⟩
  rw [hba]
  go_wp2_with fail
  refine (canon_calls _ _).mono ?_
  rintro e w' ⟨rfl, rfl⟩
  go_wp2_with fail
  refine (canon_calls _ _).mono ?_
  rintro e w' ⟨rfl, rfl⟩
  go_wp2_with fail
  refine (awake_calls _).mono ?_
  rintro e w' ⟨rfl, rfl⟩
  go_wp2
  go_ret
  exact ⟨rfl, (Grown.refl _).drew⟩
theorem g7 (a b c : Nat) (HA : Hid (a < 18446744073709551616)) (HB : Hid (b < 18446744073709551616)) (HC : Hid (c < 18446744073709551616)) (w : World) (hab : od a b = -1) (hba : od b a = 1) (hbc : od b c = -1) (hac : od a c = -1) (hcn : ((cn a : Int) == (cn b : Int)) = false) : Calls Try.prog 7 #[.int .u64 (a : Int), .int .u64 (b : Int), .int .u64 (c : Int)] w fun e w' => e = .returned (.bool true) ∧ Grown w w' := by
  go_enter Try.func7, Try.ntmps7
  go_wp2_with fail
  refine (order_od _ _ HA.out HB.out _).mono ?_
  rintro e w' ⟨rfl, rfl⟩
  rw [hab]
  go_wp2_with fail
  refine (order_od _ _ HB.out HC.out _).mono ?_
  rintro e w' ⟨rfl, rfl⟩
  rw [hbc]
  go_wp2_with fail
  refine (order_od _ _ HA.out HC.out _).mono ?_
  rintro e w' ⟨rfl, rfl⟩
  rw [hac]
  go_wp2_with fail
  refine (order_od _ _ HB.out HA.out _).mono ?_
  rintro e w' ⟨rfl, rfl⟩
  rw [hba]
  go_wp2_with fail
  refine (canon_calls _ _).mono ?_
  rintro e w' ⟨rfl, rfl⟩
  go_wp2_with fail
  refine (canon_calls _ _).mono ?_
  rintro e w' ⟨rfl, rfl⟩
  go_wp2_with fail
  refine (awake_calls _).mono ?_
  rintro e w' ⟨rfl, rfl⟩
  go_wp2
  go_ret
  exact ⟨rfl, (Grown.refl _).drew⟩
/-! ### STEP 1: THE WALK: the Go text returns true. 'Grown w w'': the world has at most new blocks (Derived/RowKit3.lean). Part the cases AHEAD of 'go_enter' where a test parts the walk; take each callee by a contract of your own. -/
theorem walk (a0 : Int) (a1 : Int) (a2 : Int) (w0 : (Lit.int .u64 a0).wf = true) (w1 : (Lit.int .u64 a1).wf = true) (w2 : (Lit.int .u64 a2).wf = true) (w : World) :
    Calls Try.prog 7 #[.int .u64 a0, .int .u64 a1, .int .u64 a2] w fun e w' => e = .returned (.bool true) ∧ Grown w w' := by
  obtain ⟨a, rfl, ha⟩ := nat_u64 a0 w0
  obtain ⟨b, rfl, hb⟩ := nat_u64 a1 w1
  obtain ⟨c, rfl, hc⟩ := nat_u64 a2 w2
  have hcn := od_canon a b ha hb
  have hba := od_turn a b
  have ht := od_trans a b c
  rcases od_three a b with h1 | h1 | h1
  · rw [h1] at hcn hba
    rcases od_three b c with h2 | h2 | h2
    · have h3 : od a c = -1 := by have := od_three a c; omega
      exact g7 a b c ha hb hc w h1 hba h2 h3 hcn
    · have h3 : od a c = -1 := by have := od_three a c; omega
      exact g6 a b c ha hb hc w h1 hba h2 h3 hcn
    · exact g5 a b c ha hb hc w h1 hba h2 hcn
  · rw [h1] at hcn hba
    rcases od_three b c with h2 | h2 | h2
    · have h3 : od a c = -1 := by have := od_three a c; omega
      exact g4 a b c ha hb hc w h1 hba h2 h3 hcn
    · have h3 : od a c = 0 := by have := od_three a c; omega
      exact g3 a b c ha hb hc w h1 hba h2 h3 hcn
    · exact g2 a b c ha hb hc w h1 hba h2 hcn
  · rw [h1] at hcn hba
    exact g1 a b c ha hb hc w h1 hba hcn

/-! ### THE ROW's STEP: WRITTEN OUT: LEAVE IT -/
set_option maxRecDepth 100000 in
theorem lifted (os : Os) (started : os.Started) (H : Type) (enc : TypeId × Value → H) :
    ReturnsInHanded {} Try.checked os 7 .any (Rows.floatsTotalSpec.pre6 enc Try.prog Try.f7 Rows.floatsTotalRow.domain false) (Rows.floatsTotalSpec.post enc Try.prog Try.f7 false true false false) := by
  refine returnsInHanded_of_change (C := Try.checked) own started (by kernel_rfl) Try.func7
    (ChangeSpec.witness6 (enc := enc) (C := Try.checked) false ⟨#[], #[.int .u64 0, .int .u64 0, .int .u64 0], []⟩ 8 (by kernel_rfl) (by kernel_rfl) (by kernel_rfl) (by kernel_rfl)) ?_
  intro W base args ds gs before hval0 hW hcnd _
  have hval : ∀ (j : Nat) t v, Try.f7.params[j]? = some t → args[j]? = some v → Value.okWide Try.prog W .any base t v := hval0
  have hW' := hW
  obtain ⟨p, q, hA0, hV, rfl, hfz, hnd⟩ := hW
  have hA : DataW.TrodAll enc Try.prog W 0 (fun _ => true) true Try.f7.params.toList args.toList ds p := hA0
  rw [Try.params7] at hA hval
  obtain ⟨v0, vs0, d0, ds0, p0, q0, hargs, rfl, rfl, h0, r0⟩ := trodAll_cons hA
  obtain ⟨v1, vs1, d1, ds1, p1, q1, rfl, rfl, rfl, h1, r1⟩ := trodAll_cons r0
  obtain ⟨v2, vs2, d2, ds2, p2, q2, rfl, rfl, rfl, h2, r2⟩ := trodAll_cons r1
  obtain ⟨rfl, rfl, rfl⟩ := trodAll_nil r2
  obtain rfl : args = #[v0, v1, v2] := by cases args; simp_all
  obtain ⟨rfl, rfl⟩ := trodVars_none hV
  obtain ⟨a0, rfl, rfl, rfl, w0⟩ := open_int Try.underlying22 (hval 0 22 v0 rfl rfl) h0
  obtain ⟨a1, rfl, rfl, rfl, w1⟩ := open_int Try.underlying22 (hval 1 22 v1 rfl rfl) h1
  obtain ⟨a2, rfl, rfl, rfl, w2⟩ := open_int Try.underlying22 (hval 2 22 v2 rfl rfl) h2
  clear hA0 hval0
  simp only [List.append_nil] at hW'
  refine (walk a0 a1 a2 w0 w1 w2 W).mono fun e W' ⟨he, hg⟩ => ?_
  subst he
  exact ⟨_, rfl, post_of_same (pa := []) (pv := []) hW' (fun _ _ _ => (trodAll_cons_mk (shut_bool Try.underlying4 _) trodAll_mk0)) (fun sp _ => (trodAll_cons_mk (shut_int Try.underlying22 w0) (trodAll_cons_mk (shut_int Try.underlying22 w1) (trodAll_cons_mk (shut_int Try.underlying22 w2) trodAll_mk0)))) (fun _ _ => rfl) rfl
    (hg.frame _) hg.2.1 (ok_one (by kernel_rfl) rfl (okWide_bool_mk Try.underlying4 _))⟩

theorem over : Rows.floatsTotalRow.holds Try.pinned (OpenSpec.ofChange Rows.floatsTotalSpec) :=
  OpenClaim.holds_of_wide 7 Try.f7 rfl rfl rfl rfl rfl rfl rfl ⟨rfl, rfl, rfl, rfl, rfl⟩ rfl rfl rfl rfl rfl (by kernel_rfl) Try.func7 (by kernel_rfl)
    (of_decide_eq_true (by kernel_rfl)) (by unfold Func.isWrapper; first | (rw [if_pos (by decide +kernel)]; kernel_rfl) | (rw [if_neg (by decide +kernel)]; exact ⟨rfl, rfl⟩))
    (fun os started H enc _ => lifted os started H enc)

/-- ████ THE STATEMENT ████ -/
theorem proved : Rows.FloatsTotalSaid :=
  over
end Go.Proofs.Yteigemeeoldadaa.floatsTotal

namespace Go.Proofs.Yteigemeeoldadaa
theorem floatsTotal_holds : Rows.FloatsTotalSaid := floatsTotal.proved
end Go.Proofs.Yteigemeeoldadaa
