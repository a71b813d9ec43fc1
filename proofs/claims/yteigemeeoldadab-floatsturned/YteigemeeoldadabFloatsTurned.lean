/- The Go function FloatsTurned returns true for every input, and its arguments read afterwards as they did before. -/
import Derived.Test.YteigemeeoldadabRows
import Derived.Test.YteigemeeoldadabT4
import Derived.Test.YteigemeeoldadabTu
import Derived.WalkKit
import Derived.ProofKit
import Derived.OpenShut
import Derived.ShutString
namespace Go.Proofs.Yteigemeeoldadab.floatsTurned
open Go.ChangeShapes Go.WideShapes Go.ChangeAt Go.RowKit
open Go.ChangeMaps (open_string shut_string)
set_option linter.unusedVariables false      -- a walk need not use every 'w<i>' (that an integer argument fits its kind)

theorem own : ownKnob Try.prog.godebug = none := by kernel_rfl

open FM
theorem grown_trans {a b c : World} (h : Grown a b) (k : Grown b c) : Grown a c :=
  ⟨World.keptBut_trans h.1 k.1, fun x => (k.2.1 x).trans (h.2.1 x), Nat.le_trans h.2.2 k.2.2⟩
/-- The answer of Add, of Mul. -/
def ar (op : BinOp) (a b : Nat) : Nat := match floatBits op .f64 a b with | some r => cn r | none => 9221120237041090560
theorem ar_cn (op : BinOp) (a b : Nat) : cn (ar op a b) = ar op a b := by
  unfold ar
  split
  · exact cn_cn _
  · decide +kernel
theorem ar_add (a b : Nat) : ar .add b a = ar .add a b := by unfold ar; rw [add_turn]
theorem ar_mul (a b : Nat) : ar .mul b a = ar .mul a b := by unfold ar; rw [mul_turn]
theorem add_any (a b : Nat) (w : World) : Calls Try.prog 9 #[.int .u64 (a : Int), .int .u64 (b : Int)] w fun e w' => e = .returned (.int .u64 (ar .add a b : Nat)) ∧ Grown w w' := by
  cases h : floatBits .add .f64 a b with
  | none =>
    have e : ar .add a b = 9221120237041090560 := by unfold ar; rw [h]
    rw [e]
    exact (add_none a b w h).mono fun _ _ ⟨h1, h2⟩ => ⟨h1, by rw [h2]; exact (Grown.refl _).drew⟩
  | some r =>
    have e : ar .add a b = cn r := by unfold ar; rw [h]
    rw [e]
    exact (add_some a b r w h).mono fun _ _ ⟨h1, h2⟩ => ⟨h1, by rw [h2]; exact Grown.refl _⟩
theorem mul_any (a b : Nat) (w : World) : Calls Try.prog 10 #[.int .u64 (a : Int), .int .u64 (b : Int)] w fun e w' => e = .returned (.int .u64 (ar .mul a b : Nat)) ∧ Grown w w' := by
  cases h : floatBits .mul .f64 a b with
  | none =>
    have e : ar .mul a b = 9221120237041090560 := by unfold ar; rw [h]
    rw [e]
    exact (mul_none a b w h).mono fun _ _ ⟨h1, h2⟩ => ⟨h1, by rw [h2]; exact (Grown.refl _).drew⟩
  | some r =>
    have e : ar .mul a b = cn r := by unfold ar; rw [h]
    rw [e]
    exact (mul_some a b r w h).mono fun _ _ ⟨h1, h2⟩ => ⟨h1, by rw [h2]; exact Grown.refl _⟩
/-! ### STEP 1: THE WALK: the Go text returns true. 'Grown w w'': the world has at most new blocks (Derived/RowKit3.lean). Part the cases AHEAD of 'go_enter' where a test parts the walk; take each callee by a contract of your own. -/
theorem walk (a0 : Int) (a1 : Int) (w0 : (Lit.int .u64 a0).wf = true) (w1 : (Lit.int .u64 a1).wf = true) (w : World) :
    Calls Try.prog 3 #[.int .u64 a0, .int .u64 a1] w fun e w' => e = .returned (.bool true) ∧ Grown w w' := by
  obtain ⟨a, rfl, ha⟩ := nat_u64 a0 w0
  obtain ⟨b, rfl, hb⟩ := nat_u64 a1 w1
  clear w0 w1 ha hb
  go_enter Try.func3, Try.ntmps3
  go_wp2_with fail
  refine (add_any _ _ _).mono ?_
  rintro e w1 ⟨rfl, g1⟩
  have G1 : Hid (Grown _ _) := g1
  clear g1
  go_wp2_with fail
  refine (mul_any _ _ _).mono ?_
  rintro e w2 ⟨rfl, g2⟩
  have G2 : Hid (Grown _ _) := g2
  clear g2
  go_wp2_with fail
  refine (add_any _ _ _).mono ?_
  rintro e w3 ⟨rfl, g3⟩
  have G3 : Hid (Grown _ _) := g3
  clear g3
  rw [ar_add a b]
  go_wp2_with fail
  refine (mul_any _ _ _).mono ?_
  rintro e w4 ⟨rfl, g4⟩
  have G4 : Hid (Grown _ _) := g4
  clear g4
  rw [ar_mul a b]
  go_wp2_with fail
  refine (canon_calls _ _).mono ?_
  rintro e w5 ⟨rfl, rfl⟩
  rw [ar_cn]
  go_wp2_with fail
  refine (canon_calls _ _).mono ?_
  rintro e w6 ⟨rfl, rfl⟩
  rw [ar_cn]
  go_wp2_with fail
  refine (awake_calls _).mono ?_
  rintro e w7 ⟨rfl, rfl⟩
  go_wp2
  go_ret
  exact ⟨rfl, (grown_trans G1.out (grown_trans G2.out (grown_trans G3.out G4.out))).drew⟩

/-! ### THE ROW's STEP: WRITTEN OUT: LEAVE IT -/
set_option maxRecDepth 100000 in
theorem lifted (os : Os) (started : os.Started) (H : Type) (enc : TypeId × Value → H) :
    ReturnsInHanded {} Try.checked os 3 .any (Rows.floatsTurnedSpec.pre6 enc Try.prog Try.f3 Rows.floatsTurnedRow.domain false) (Rows.floatsTurnedSpec.post enc Try.prog Try.f3 false true false false) := by
  refine returnsInHanded_of_change (C := Try.checked) own started (by kernel_rfl) Try.func3
    (ChangeSpec.witness6 (enc := enc) (C := Try.checked) false ⟨#[], #[.int .u64 0, .int .u64 0], []⟩ 8 (by kernel_rfl) (by kernel_rfl) (by kernel_rfl) (by kernel_rfl)) ?_
  intro W base args ds gs before hval0 hW hcnd _
  have hval : ∀ (j : Nat) t v, Try.f3.params[j]? = some t → args[j]? = some v → Value.okWide Try.prog W .any base t v := hval0
  have hW' := hW
  obtain ⟨p, q, hA0, hV, rfl, hfz, hnd⟩ := hW
  have hA : DataW.TrodAll enc Try.prog W 0 (fun _ => true) true Try.f3.params.toList args.toList ds p := hA0
  rw [Try.params3] at hA hval
  obtain ⟨v0, vs0, d0, ds0, p0, q0, hargs, rfl, rfl, h0, r0⟩ := trodAll_cons hA
  obtain ⟨v1, vs1, d1, ds1, p1, q1, rfl, rfl, rfl, h1, r1⟩ := trodAll_cons r0
  obtain ⟨rfl, rfl, rfl⟩ := trodAll_nil r1
  obtain rfl : args = #[v0, v1] := by cases args; simp_all
  obtain ⟨rfl, rfl⟩ := trodVars_none hV
  obtain ⟨a0, rfl, rfl, rfl, w0⟩ := open_int Try.underlying22 (hval 0 22 v0 rfl rfl) h0
  obtain ⟨a1, rfl, rfl, rfl, w1⟩ := open_int Try.underlying22 (hval 1 22 v1 rfl rfl) h1
  clear hA0 hval0
  simp only [List.append_nil] at hW'
  refine (walk a0 a1 w0 w1 W).mono fun e W' ⟨he, hg⟩ => ?_
  subst he
  exact ⟨_, rfl, post_of_same (pa := []) (pv := []) hW' (fun _ _ _ => (trodAll_cons_mk (shut_bool Try.underlying4 _) trodAll_mk0)) (fun sp _ => (trodAll_cons_mk (shut_int Try.underlying22 w0) (trodAll_cons_mk (shut_int Try.underlying22 w1) trodAll_mk0))) (fun _ _ => rfl) rfl
    (hg.frame _) hg.2.1 (ok_one (by kernel_rfl) rfl (okWide_bool_mk Try.underlying4 _))⟩

theorem over : Rows.floatsTurnedRow.holds Try.pinned (OpenSpec.ofChange Rows.floatsTurnedSpec) :=
  OpenClaim.holds_of_wide 3 Try.f3 rfl rfl rfl rfl rfl rfl rfl ⟨rfl, rfl, rfl, rfl, rfl⟩ rfl rfl rfl rfl rfl (by kernel_rfl) Try.func3 (by kernel_rfl)
    (of_decide_eq_true (by kernel_rfl)) (by unfold Func.isWrapper; first | (rw [if_pos (by decide +kernel)]; kernel_rfl) | (rw [if_neg (by decide +kernel)]; exact ⟨rfl, rfl⟩))
    (fun os started H enc _ => lifted os started H enc)

/-- ████ THE STATEMENT ████ -/
theorem proved : Rows.FloatsTurnedSaid :=
  over
end Go.Proofs.Yteigemeeoldadab.floatsTurned

namespace Go.Proofs.Yteigemeeoldadab
theorem floatsTurned_holds : Rows.FloatsTurnedSaid := floatsTurned.proved
end Go.Proofs.Yteigemeeoldadab
