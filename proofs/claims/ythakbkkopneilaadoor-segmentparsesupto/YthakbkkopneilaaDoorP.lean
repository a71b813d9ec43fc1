/- What both Parses give, laid flat, and the walk of SegmentParses. -/
import Derived.Test.YthakbkkopneilaaDoorO
import Derived.Test.YthakbkkopneilaaDoorA
import Derived.Test.YthakbkkopneilaaDoorX
namespace Go.Proofs.YthakbkkopneilaaDoor
open Go.ChangeShapes Go.WideShapes Go.ChangeAt Go.RowKit
abbrev Pr := Option (Int × Int × Option (List UInt8) × List (List UInt8) × Nat)
def pn : Pr → Int | none => 0 | some (n, _, _, _, _) => n
def pf : Pr → Int | none => 0 | some (_, f, _, _, _) => f
def ph : Pr → Bool | none => false | some (_, _, sn, _, _) => sn.isSome
def pp : Pr → List UInt8 | none => [] | some (_, _, sn, _, _) => sn.getD []
def pr : Pr → List (List UInt8) | none => [] | some (_, _, _, rs, _) => rs
def pz : Pr → Int | none => 0 | some (_, _, _, _, sz) => (sz : Int)
def pt (l : List UInt8) : Pr → Bool | none => false | some (_, _, _, _, sz) => decide (sz < l.length)
def pc : Pr → Int | none => 10 | some _ => 0
theorem PX.flat {w : World} {l : List UInt8} {r : Pr} {e : Ending} {w' : World} (h : PX w l r e w') : ∃ xa xn xc Ra Rn Rc, e = .returned (.tuple #[.agg #[.int .i64 (pn r), .int .i64 (pf r), .bool (ph r), .slice xa xn xc, .slice Ra Rn Rc, .int .i64 (pz r), .bool (pt l r)], .int .i64 (pc r)]) ∧ Own w.heap.size w' (.slice xa xn xc) (pp r) ∧ Ls w.heap.size w' (.slice Ra Rn Rc) (pr r) ∧ Below w.heap.size w w' := by
  obtain ⟨hb, h⟩ := h
  match r, h with
  | none, h => exact ⟨none, 0, 0, none, 0, 0, h, Own.nil _ _, Ls.nil _ _, hb⟩
  | some (n, f, sn, rs, sz), h =>
    obtain ⟨x, R, he, hx, hR⟩ := h
    obtain ⟨xa, xn, xc, rfl⟩ := hx.hb.shape
    obtain ⟨Ra, Rn, Rc, rfl⟩ := hR.shape
    exact ⟨xa, xn, xc, Ra, Rn, Rc, he, hx, hR, hb⟩
theorem recF_len : ∀ (n : Nat) (l : List UInt8) (sz : Nat), (recF n l sz).length ≤ n := by
  intro n
  induction n with
  | zero => intro l sz; exact Nat.le_refl _
  | succ n ih =>
    intro l sz
    simp only [recF]
    cases takeL l sz 3 with
    | none => simp
    | some p => have := ih l (sz + (9 + p.length)); simp only [List.length_cons]; omega
theorem recsL_len (l : List UInt8) (sz : Nat) : (recsL l sz).length ≤ l.length := Nat.le_trans (recF_len _ l sz) (Nat.sub_le _ _)
theorem pr_len (l : List UInt8) : (pr (parseL l)).length ≤ l.length := by
  unfold parseL
  cases headOf l with
  | none => simp [pr]
  | some r =>
    obtain ⟨n, f, sz⟩ := r
    simp only
    cases takeL l sz 2 with
    | none => exact recsL_len _ _
    | some p => exact recsL_len _ _
set_option maxHeartbeats 1000000 in
set_option maxRecDepth 100000 in
theorem parses_walk (v : Value) (l : List UInt8) (w : World) (hv : Hb w v l) (hl : l.length ≤ 1000000000) (ht : Tb w) :
    Calls Tryd.prog 4 #[v] w fun e w' => e = .returned (.bool true) ∧ Below w.heap.size w w' := by
  have HT : Hid (∀ W, Below w.heap.size w W → Tb W) := fun W hW => ht.below hW
  have P1 : Hid (Calls Tryd.prog 15 #[v] w (PX w l (parseL l))) := parse_calls v l w hv ht hl
  have P2 : Hid (∀ W, Below w.heap.size w W → Calls Tryd.prog 16 #[v] W (PX W l (parseL l))) := fun W hW => rparse_calls v l W (hv.below hW) hl
  have HC : Hid ((pr (parseL l)).length ≤ 9223372036854775807) := by have := pr_len l; show _ ≤ _; omega
  obtain ⟨va, vn, vc, rfl⟩ := hv.shape
  clear hv ht hl
  generalize parseL l = r at P1 P2 HC
  go_enter Tryd.func4, Tryd.ntmps4
  go_wp2_with fail
  refine P1.out.mono ?_
  intro e w1 h1
  obtain ⟨xa, xn, xc, Ra, Rn, Rc, rfl, ox, lx, hb1⟩ := h1.flat
  obtain ⟨W1, hW1⟩ : ∃ W1, W1 = w1.alloc (Obj.cells #[.int .i64 (pn r), .int .i64 (pf r), .bool (ph r), .slice xa xn xc, .slice Ra Rn Rc, .int .i64 (pz r), .bool (pt l r)] 30) := ⟨_, rfl⟩
  have b11 : Below w1.heap.size w1 W1 := by rw [hW1]; exact below_alloc _ _
  have S1 : Hid (SegAt W1 w1.heap.size (.int .i64 (pn r)) (.int .i64 (pf r)) (.bool (ph r)) (.slice xa xn xc) (.slice Ra Rn Rc) (.int .i64 (pz r)) (.bool (pt l r))) := by rw [hW1]; exact heap_last w1 _
  have BB1 : Hid (Below w.heap.size w W1) := hb1.trans (b11.mono hb1.size)
  have O1 : Hid (Own w.heap.size W1 (.slice xa xn xc) (pp r)) := ox.below b11
  have L1 : Hid (Ls w.heap.size W1 (.slice Ra Rn Rc) (pr r)) := lx.kt (S := fun _ => True) (KT.below b11) trivial trivial
  have HW1 : Hid (W1 = w1.alloc (Obj.cells #[.int .i64 (pn r), .int .i64 (pf r), .bool (ph r), .slice xa xn xc, .slice Ra Rn Rc, .int .i64 (pz r), .bool (pt l r)] 30)) := hW1
  obtain ⟨g1, hg1⟩ : ∃ g1, g1 = w1.heap.size := ⟨_, rfl⟩
  rw [← hg1] at S1
  have HG1 : Hid (g1 = w1.heap.size) := hg1
  clear h1 ox lx hb1 b11 hW1 hg1
  go_upto_region 2 with fail
  rw [← HW1.out, ← HG1.out]
  go_wp2_with fail
  refine (P2.out W1 BB1.out).mono ?_
  intro e w2 h2
  obtain ⟨ya, yn, yc, Qa, Qn, Qc, rfl, oy, ly, hb2⟩ := h2.flat
  obtain ⟨W2, hW2⟩ : ∃ W2, W2 = w2.alloc (Obj.cells #[.int .i64 (pn r), .int .i64 (pf r), .bool (ph r), .slice ya yn yc, .slice Qa Qn Qc, .int .i64 (pz r), .bool (pt l r)] 30) := ⟨_, rfl⟩
  have b22 : Below w2.heap.size w2 W2 := by rw [hW2]; exact below_alloc _ _
  have b12 : Below W1.heap.size W1 W2 := hb2.trans (b22.mono hb2.size)
  have T1 : SegAt W2 g1 (.int .i64 (pn r)) (.int .i64 (pf r)) (.bool (ph r)) (.slice xa xn xc) (.slice Ra Rn Rc) (.int .i64 (pz r)) (.bool (pt l r)) := S1.out.below b12
  have T2 : SegAt W2 w2.heap.size (.int .i64 (pn r)) (.int .i64 (pf r)) (.bool (ph r)) (.slice ya yn yc) (.slice Qa Qn Qc) (.int .i64 (pz r)) (.bool (pt l r)) := by rw [hW2]; exact heap_last w2 _
  have BB2 : Hid (Below w.heap.size w W2) := BB1.out.trans (b12.mono BB1.out.size)
  obtain ⟨g2, hg2⟩ : ∃ g2, g2 = w2.heap.size := ⟨_, rfl⟩
  rw [← hg2] at T2
  have SC : Hid (Calls Tryd.prog 17 #[.agg #[.int .i64 (pn r), .int .i64 (pf r), .bool (ph r), .slice xa xn xc, .slice Ra Rn Rc, .int .i64 (pz r), .bool (pt l r)], .agg #[.int .i64 (pn r), .int .i64 (pf r), .bool (ph r), .slice ya yn yc, .slice Qa Qn Qc, .int .i64 (pz r), .bool (pt l r)]] W2 fun e w' => e = .returned (.bool true) ∧ Below W2.heap.size W2 w') := ssame_calls _ _ _ _ _ _ _ _ _ _ _ W2 (O1.out.below b12).hb (oy.below b22).hb ((L1.out.kt (S := fun _ => True) (KT.below b12) trivial trivial).lr) ((ly.kt (S := fun _ => True) (KT.below b22) trivial trivial).lr) HC.out
  have HW2 : Hid (W2 = w2.alloc (Obj.cells #[.int .i64 (pn r), .int .i64 (pf r), .bool (ph r), .slice ya yn yc, .slice Qa Qn Qc, .int .i64 (pz r), .bool (pt l r)] 30)) := hW2
  have HG2 : Hid (g2 = w2.heap.size) := hg2
  clear h2 oy ly hb2 b22 b12 hW2 hg2
  go_upto_region 3 with fail
  rw [← HW2.out, ← HG2.out]
  obtain ⟨t0, t1, t2, t3, t4, t5, t6, -⟩ := T1.all
  obtain ⟨u0, u1, u2, u3, u4, u5, u6, -⟩ := T2.all
  have dc : (pc r == pc r) = true := by simp
  clear T1 T2
  go_wp2_with fail
  refine SC.out.mono ?_
  rintro e w3 ⟨rfl, hb3⟩
  have BB3 : Hid (Below w.heap.size w w3) := BB2.out.trans (hb3.mono BB2.out.size)
  have AC : Hid (Calls Tryd.prog 14 #[] w3 _) := awake_calls w3 (HT.out w3 BB3.out)
  clear hb3
  go_wp2_with fail
  refine AC.out.mono ?_
  rintro e w4 ⟨rfl, hb4⟩
  have BB4 : Hid (Below w.heap.size w w4) := BB3.out.trans (hb4.mono BB3.out.size)
  clear hb4
  go_wp2_with fail
  go_ret
  exact ⟨rfl, BB4.out⟩
end Go.Proofs.YthakbkkopneilaaDoor
