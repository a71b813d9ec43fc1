/- The Go function PackOrder returns true for every input, and its arguments read afterwards as they did before. -/
import Derived.Test.YtdgnpllbdjjiiaaRows
import Derived.Test.YtdgnpllbdjjiiaaE
import Derived.Test.YtdgnpllbdjjiiaaO
import Derived.WalkKit
import Derived.ProofKit
import Derived.OpenShut
import Derived.ChangeOld
import Derived.Below
import Derived.ShutString
namespace Go.Proofs.Ytdgnpllbdjjiiaa.packOrder
open Go.ChangeShapes Go.WideShapes Go.ChangeAt Go.RowKit
open Go.ChangeMaps (open_string shut_string)
set_option linter.unusedVariables false      -- a walk need not use every 'w<i>' (that an integer argument fits its kind)

theorem own : ownKnob Try.prog.godebug = none := by kernel_rfl

theorem max_lt (a : Int) (h : (Lit.int .i64 a).wf = true) : max a 0 < 9223372036854775808 := by
  simp only [Lit.wf, IntKind.min, IntKind.max, IntKind.signed, IntKind.bits, Bool.and_eq_true, decide_eq_true_eq, if_true] at h
  omega
theorem num_cmp (a b : Int) (ha : (Lit.int .i64 a).wf = true) (hb : (Lit.int .i64 b).wf = true) : Lib.compareBytes (enc (max a 0).toNat) (enc (max b 0).toNat) = cp (max a 0) (max b 0) := by
  have h1 := max_lt a ha
  have h2 := max_lt b hb
  rw [enc_cmp _ _ (by omega) (by omega), Int.toNat_of_nonneg (by omega), Int.toNat_of_nonneg (by omega)]
/-- What a call that makes bytes out of none leaves, as the walk takes it up. -/
theorem nb_take {w : World} {l : List UInt8} {e : Ending} {w' : World} (h : NB w l e w') : ∃ v, e = .returned v ∧ Lib.HoldsBytes w' v l ∧ Below w.heap.size w w' := by
  obtain ⟨g, _, rfl, h3, h4⟩ := h
  exact ⟨_, rfl, h3, h4⟩
theorem below_step {a b c : World} (h : Below a.heap.size a b) (k : Below b.heap.size b c) : Below a.heap.size a c := h.trans (k.mono h.size)
/-! ### STEP 1: THE WALK: the Go text returns true. 'Below w.heap.size w w'': the world has at most new blocks (Derived/RowKit3.lean). Part the cases AHEAD of 'go_enter' where a test parts the walk; take each callee by a contract of your own. -/
theorem walk (a0 : Int) (a1 : Int) (w0 : (Lit.int .i64 a0).wf = true) (w1 : (Lit.int .i64 a1).wf = true) (w : World) :
    Calls Try.prog 6 #[.int .i64 a0, .int .i64 a1] w fun e w' => e = .returned (.bool true) ∧ Below w.heap.size w w' := by
  have C1 : Hid (∀ w, Calls Try.prog 12 #[.slice none 0 0, .int .i64 a0] w (NB w (be (tn a0) 8))) := fun w => int_calls (.slice none 0 0) [] a0 w0 w (holds_nil w) (by simp)
  have C2 : Hid (∀ w, Calls Try.prog 12 #[.slice none 0 0, .int .i64 a1] w (NB w (be (tn a1) 8))) := fun w => int_calls (.slice none 0 0) [] a1 w1 w (holds_nil w) (by simp)
  have C3 : Hid (∀ w, Calls Try.prog 10 #[.slice none 0 0, .int .i64 (max a0 0)] w (NB w (enc (max a0 0).toNat))) := fun w => num_calls (.slice none 0 0) [] (max a0 0) (max_lt a0 w0) w (holds_nil w) (by simp)
  have C4 : Hid (∀ w, Calls Try.prog 10 #[.slice none 0 0, .int .i64 (max a1 0)] w (NB w (enc (max a1 0).toNat))) := fun w => num_calls (.slice none 0 0) [] (max a1 0) (max_lt a1 w1) w (holds_nil w) (by simp)
  have E1 : Hid (Lib.compareBytes (be (tn a0) 8) (be (tn a1) 8) = cp a0 a1) := tn_cmp a0 a1 w0 w1
  have E2 : Hid (Lib.compareBytes (enc (max a0 0).toNat) (enc (max a1 0).toNat) = cp (max a0 0) (max a1 0)) := num_cmp a0 a1 w0 w1
  clear w0 w1
  obtain ⟨m0, hm0⟩ : ∃ m, max a0 0 = m := ⟨_, rfl⟩
  obtain ⟨m1, hm1⟩ : ∃ m, max a1 0 = m := ⟨_, rfl⟩
  rw [hm0, hm1] at E2
  rw [hm0] at C3
  rw [hm1] at C4
  go_enter Try.func6, Try.ntmps6
  go_wp2_with fail
  refine (C1.out _).mono ?_
  intro e u1 hN
  obtain ⟨v1, rfl, p1, q1⟩ := nb_take hN
  clear hN
  have P1 : Hid (Lib.HoldsBytes u1 v1 (be (tn a0) 8)) := p1
  have Q1 : Hid (Below w.heap.size w u1) := q1
  clear p1 q1
  go_wp2_with fail
  refine (C2.out _).mono ?_
  intro e u2 hN
  obtain ⟨v2, rfl, p2, q2⟩ := nb_take hN
  clear hN
  have P2 : Hid (Lib.HoldsBytes u2 v2 (be (tn a1) 8)) := p2
  have Q2 : Hid (Below u1.heap.size u1 u2) := q2
  clear p2 q2
  go_wp2_with fail
  refine (compare_calls _ _ _ _ _ (holds_below P1.out Q2.out) P2.out).mono ?_
  rintro e u ⟨rfl, hw1⟩
  have hw2 := hw1.symm
  subst hw2
  rw [E1.out]
  go_wp2_with fail
  refine (cmp_calls _ _ _).mono ?_
  rintro e u ⟨rfl, hw1⟩
  have hw2 := hw1.symm
  subst hw2
  go_wp2_with fail
  refine (C3.out _).mono ?_
  intro e u3 hN
  obtain ⟨v3, rfl, p3, q3⟩ := nb_take hN
  clear hN
  have P3 : Hid (Lib.HoldsBytes u3 v3 (enc m0.toNat)) := p3
  have Q3 : Hid (Below u2.heap.size u2 u3) := q3
  clear p3 q3
  go_wp2_with fail
  refine (C4.out _).mono ?_
  intro e u4 hN
  obtain ⟨v4, rfl, p4, q4⟩ := nb_take hN
  clear hN
  have P4 : Hid (Lib.HoldsBytes u4 v4 (enc m1.toNat)) := p4
  have Q4 : Hid (Below u3.heap.size u3 u4) := q4
  clear p4 q4
  go_wp2_with fail
  refine (compare_calls _ _ _ _ _ (holds_below P3.out Q4.out) P4.out).mono ?_
  rintro e u5 ⟨rfl, hw1⟩
  have hw2 := hw1.symm
  subst hw2
  rw [E2.out]
  go_wp2_with fail
  refine (cmp_calls _ _ _).mono ?_
  rintro e u6 ⟨rfl, hw1⟩
  have hw2 := hw1.symm
  subst hw2
  go_wp2_with fail
  refine (awake_calls _).mono ?_
  rintro e u7 ⟨rfl, hb⟩
  go_wp2
  go_ret
  exact ⟨rfl, below_step Q1.out (below_step Q2.out (below_step Q3.out (below_step Q4.out hb)))⟩

/-! ### THE ROW's STEP: WRITTEN OUT: LEAVE IT -/
set_option maxRecDepth 100000 in
theorem lifted (os : Os) (started : os.Started) (H : Type) (enc : TypeId × Value → H) :
    ReturnsInHanded {} Try.checked os 6 .any (Rows.packOrderSpec.pre6 enc Try.prog Try.f6 Rows.packOrderRow.domain false) (Rows.packOrderSpec.post enc Try.prog Try.f6 false true false false) := by
  refine returnsInHanded_of_change (C := Try.checked) own started (by kernel_rfl) Try.func6
    (ChangeSpec.witness6 (enc := enc) (C := Try.checked) false ⟨#[], #[.int .i64 0, .int .i64 0], []⟩ 8 (by kernel_rfl) (by kernel_rfl) (by kernel_rfl) (by kernel_rfl)) ?_
  intro W base args ds gs before hval0 hW hcnd _
  have hval : ∀ (j : Nat) t v, Try.f6.params[j]? = some t → args[j]? = some v → Value.okWide Try.prog W .any base t v := hval0
  have hW' := hW
  obtain ⟨p, q, hA0, hV, rfl, hfz, hnd⟩ := hW
  have hA : DataW.TrodAll enc Try.prog W 0 (fun _ => true) true Try.f6.params.toList args.toList ds p := hA0
  rw [Try.params6] at hA hval
  obtain ⟨v0, vs0, d0, ds0, p0, q0, hargs, rfl, rfl, h0, r0⟩ := trodAll_cons hA
  obtain ⟨v1, vs1, d1, ds1, p1, q1, rfl, rfl, rfl, h1, r1⟩ := trodAll_cons r0
  obtain ⟨rfl, rfl, rfl⟩ := trodAll_nil r1
  obtain rfl : args = #[v0, v1] := by cases args; simp_all
  obtain ⟨rfl, rfl⟩ := trodVars_none hV
  obtain ⟨a0, rfl, rfl, rfl, w0⟩ := open_int Try.underlying3 (hval 0 3 v0 rfl rfl) h0
  obtain ⟨a1, rfl, rfl, rfl, w1⟩ := open_int Try.underlying3 (hval 1 3 v1 rfl rfl) h1
  clear hA0 hval0
  simp only [List.append_nil] at hW'
  refine (walk a0 a1 w0 w1 W).mono fun e W' ⟨he, hg⟩ => ?_
  subst he
  exact ⟨_, rfl, _, _, _, [], _, [], hW', trodAll_mk1 (shut_bool Try.underlying4 _), (trodAll_cons_mk (shut_int Try.underlying3 w0) (trodAll_cons_mk (shut_int Try.underlying3 w1) trodAll_mk0)), rfl, hg.frame _, fun h => by cases h⟩

theorem over : Rows.packOrderRow.holds Try.pinned (OpenSpec.ofChange Rows.packOrderSpec) :=
  OpenClaim.holds_of_wide 6 Try.f6 rfl rfl rfl rfl rfl rfl rfl ⟨rfl, rfl, rfl, rfl, rfl⟩ rfl rfl rfl rfl rfl (by kernel_rfl) Try.func6 (by kernel_rfl)
    (of_decide_eq_true (by kernel_rfl)) (by unfold Func.isWrapper; first | (rw [if_pos (by decide +kernel)]; kernel_rfl) | (rw [if_neg (by decide +kernel)]; exact ⟨rfl, rfl⟩))
    (fun os started H enc _ => lifted os started H enc)

/-- ████ THE STATEMENT ████ -/
theorem proved : Rows.PackOrderSaid :=
  over
end Go.Proofs.Ytdgnpllbdjjiiaa.packOrder

namespace Go.Proofs.Ytdgnpllbdjjiiaa
theorem packOrder_holds : Rows.PackOrderSaid := packOrder.proved
end Go.Proofs.Ytdgnpllbdjjiiaa
