/- The contracts of slices.Clone at bytes and of Read. -/
import Derived.Test.YtfjcjaojbdcpeaaNF
import Derived.Lib.SliceRun
namespace Go.Proofs.Ytfjcjaojbdcpeaa
open Go.ChangeShapes Go.WideShapes Go.ChangeAt Go.RowKit Go.Maps
set_option maxHeartbeats 1000000 in
theorem clone_calls (v : Value) (l : List UInt8) (w : World) (hv : Lib.HoldsBytes w v l) (hl : l.length ≤ 1000000000) : Calls Try.prog 36 #[v] w (fun x w' => ∃ a n c, x = .returned (.slice a n c) ∧ Own w.heap.size w' (.slice a n c) l ∧ Below w.heap.size w w') := by
  have q31 : ∀ (w : World) (a : Option Addr) (n c n' c' : Nat), (binOp .eql 31 (.slice a n c) (.slice none n' c')).run Try.prog w = .ok (.bool a.isNone) w := fun w a n c n' c' => Lib.run_eql_slice_nil w _ _ a n c n' c' Try.underlying31
  have hv2 := hv
  obtain ⟨p, c, rfl, q1, q2⟩ := hv
  cases p with
  | none =>
    have hl0 : l = [] := q1 rfl
    subst hl0
    go_enter Try.func36, Try.ntmps36
    go_wp2_with fail
    go_ret
    exact ⟨none, 0, 0, rfl, Own.nil _ _, Below.refl _ _⟩
  | some a =>
    have o1 : Own w.heap.size (w.alloc (.cells #[] 5)) (.slice (some ⟨w.heap.size, 0, none⟩) 0 0) [] := World.ownsRow_made w #[] 0 (Nat.le_refl _) (Nat.zero_le _) rfl
    have b1 := bel1 w (.cells #[] 5)
    obtain ⟨v', w', hr, ho, hg, _⟩ := o1.app (holds_below hv2 b1) (by simp; omega) b1.size
    rw [List.nil_append] at ho
    have hB : Below w.heap.size w w' := b1.trans ((Below.refl _ _).grown hg b1.size (fun k hk => (World.ownsRow.lt (show World.ownsRow _ w.heap.size 5 1 _ 0 (bval []) from o1) k hk).1))
    obtain ⟨va, vc, rfl, _⟩ := ho.shape
    have HO : Hid (Own w.heap.size w' (.slice va l.length vc) l) := ho
    have HB : Hid (Below w.heap.size w w') := hB
    generalize l.length = n at hr HO
    clear hv2 hl o1 b1 ho hB hg q1 q2
    go_enter Try.func36, Try.ntmps36
    go_wp2_with (at_builtin; refine Lib.wpList_append_run _ rfl _ _ 31 31 rfl _ _ rfl rfl _ _ (hr _) ?_)
    go_ret
    exact ⟨va, n, vc, rfl, HO.out, HB.out⟩
end Go.Proofs.Ytfjcjaojbdcpeaa
