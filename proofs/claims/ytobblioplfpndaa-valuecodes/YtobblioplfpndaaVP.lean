/- The contract of the program's Order. -/
import Derived.Test.YtobblioplfpndaaVO
namespace Go.Proofs.Ytobblioplfpndaa
open Go.ChangeShapes Go.WideShapes Go.ChangeAt Go.RowKit
set_option maxHeartbeats 8000000 in
set_option maxRecDepth 100000 in
theorem order_calls5 : ∀ n, OrderAt 23 n := by
  intro n
  induction n with
  | zero => intro v t v2 t2 w h; exact h.elim
  | succ n ih =>
    rintro v ⟨k, x, b, s, l⟩ v2 ⟨k2, x2, B2, s2, l2⟩ w ⟨a, c, rfl, hf, hr⟩ ⟨a2, c2, rfl, hf2, hr2⟩
    obtain ⟨b, rfl⟩ : ∃ m : Nat, b = m := ⟨b.toNat, by have := hf.b0; omega⟩
    obtain ⟨B2, rfl⟩ : ∃ m : Nat, B2 = m := ⟨B2.toNat, by have := hf2.b0; omega⟩
    have CF := fun W (hB : Below w.heap.size w W) => compareFunc_calls n ih a c l a2 c2 l2 W (Nat.le_trans hf.n1 hf.c1) (hr.below hB) (hr2.below hB)
    have hb1 : b < 18446744073709551616 := by have := hf.b1; omega
    have hb2 : B2 < 18446744073709551616 := by have := hf2.b1; omega
    obtain ⟨r0, hr0⟩ : ∃ r, r = cmp3 k k2 := ⟨_, rfl⟩
    obtain ⟨r1, hr1⟩ : ∃ r, r = cmp3 x x2 := ⟨_, rfl⟩
    obtain ⟨r2, hr2'⟩ : ∃ r, r = od b B2 := ⟨_, rfl⟩
    obtain ⟨r3, hr3⟩ : ∃ r, r = Lib.compareBytes s.data.toList s2.data.toList := ⟨_, rfl⟩
    obtain ⟨r4, hr4⟩ : ∃ r, r = or4 r0 r1 r2 r3 := ⟨_, rfl⟩
    obtain ⟨R, hR⟩ : ∃ R, R = ordT (n + 1) (.mk k x b s l) (.mk k2 x2 B2 s2 l2) := ⟨_, rfl⟩
    obtain ⟨q, hq⟩ : ∃ q, q = lex (ordT n) l l2 := ⟨_, rfl⟩
    have HRe : Hid (R = if r4 != 0 then r4 else q) := by
      show _ = _
      rw [hR, hr4, hr0, hr1, hr2', hr3, hq]
      rfl
    rw [← hR]
    rw [← hq] at CF
    have H0 : Hid (∀ W, Calls Try.prog 48 #[.int .i64 k, .int .i64 k2] W fun e w' => e = .returned (.int .i64 r0) ∧ w' = W) := fun W => by rw [hr0]; exact compare_calls k k2 W
    have H1 : Hid (∀ W, Calls Try.prog 48 #[.int .i64 x, .int .i64 x2] W fun e w' => e = .returned (.int .i64 r1) ∧ w' = W) := fun W => by rw [hr1]; exact compare_calls x x2 W
    have H2 : Hid (∀ W, Calls Try.prog 49 #[.int .u64 (b : Int), .int .u64 (B2 : Int)] W fun e w' => e = .returned (.int .i64 r2) ∧ w' = W) := fun W => by rw [hr2']; exact order_od b B2 hb1 hb2 W
    have H3 : Hid (∀ W, Calls Try.prog 50 #[.string s, .string s2] W fun e w' => e = .returned (.int .i64 r3) ∧ w' = W) := fun W => by rw [hr3]; exact strcmp_calls s s2 W
    have H4 : Hid (∀ W : World, Calls Try.prog 47 #[.slice (some ⟨W.heap.size, 0, none⟩) 4 4] (W.alloc (.cells #[.int .i64 r0, .int .i64 r1, .int .i64 r2, .int .i64 r3] 3)).drew fun e w' => e = .returned (.int .i64 r4) ∧ w' = (W.alloc (.cells #[.int .i64 r0, .int .i64 r1, .int .i64 r2, .int .i64 r3] 3)).drew) := fun W => by
      rw [hr4]
      have f : ∀ r, (W.alloc (.cells #[.int .i64 r0, .int .i64 r1, .int .i64 r2, .int .i64 r3] 3)).drew.cell? ⟨W.heap.size, r, none⟩ = #[Value.int .i64 r0, .int .i64 r1, .int .i64 r2, .int .i64 r3][r]? := fun r => cell_of_row _ W.heap.size r _ 3 (0, 0) (heap_alloc_last W _)
      exact or_calls r0 r1 r2 r3 _ _ (f 0) (f 1) (f 2) (f 3)
    have HCF : Hid (∀ W, Below w.heap.size w W → _) := CF
    clear CF hb1 hb2 hr0 hr1 hr2' hr3 hr4 hR hq hr hr2 hf hf2 ih
    go_enter Try.func23, Try.ntmps23
    go_wp2_with fail
    generalize hW0 : (w.alloc (Obj.cells #[.int .i64 k, .int .i64 x, .int .u64 (b : Int), .string s, .slice a l.length c] 25)).alloc (Obj.cells #[.int .i64 k2, .int .i64 x2, .int .u64 (B2 : Int), .string s2, .slice a2 l2.length c2] 25) = W0
    have hA : At5 W0 w.heap.size 0 (.int .i64 k) (.int .i64 x) (.int .u64 (b : Int)) (.string s) (.slice a l.length c) := by subst hW0; exact (box_at w _ _ _ _ _).below (bel1 _ _)
    have hB : At5 W0 (w.heap.size + 1) 0 (.int .i64 k2) (.int .i64 x2) (.int .u64 (B2 : Int)) (.string s2) (.slice a2 l2.length c2) := by subst hW0; exact box_at' _ _ (by simp) _ _ _ _ _
    have HB0 : Hid (Below w.heap.size w W0) := by subst hW0; exact bel2 (bel1 _ _) (bel1 _ _)
    have HA5 : Hid (At5 W0 w.heap.size 0 _ _ _ _ _) := hA
    have HB5 : Hid (At5 W0 (w.heap.size + 1) 0 _ _ _ _ _) := hB
    clear hW0
    obtain ⟨a0, a1, a3, a4, a5⟩ := hA
    obtain ⟨b0, b1, b3, b4, b5⟩ := hB
    go_region_held3 (fun w' => w'.cell? ⟨w.heap.size, 0, none⟩ = some (.int .i64 k) ∧ w'.cell? ⟨w.heap.size, 0 + 1, none⟩ = some (.int .i64 x) ∧ w'.cell? ⟨w.heap.size, 0 + 2, none⟩ = some (.int .u64 (b : Int)) ∧ w'.cell? ⟨w.heap.size, 0 + 3, none⟩ = some (.string s) ∧ w'.cell? ⟨w.heap.size + 1, 0, none⟩ = some (.int .i64 k2) ∧ w'.cell? ⟨w.heap.size + 1, 0 + 1, none⟩ = some (.int .i64 x2) ∧ w'.cell? ⟨w.heap.size + 1, 0 + 2, none⟩ = some (.int .u64 (B2 : Int)) ∧ w'.cell? ⟨w.heap.size + 1, 0 + 3, none⟩ = some (.string s2)) (go_keep) (first | (go_at_call 49; refine (H2.out _).mono ?_; rintro e w1 ⟨rfl, rfl⟩) | (go_at_call 50; refine (H3.out _).mono ?_; rintro e w1 ⟨rfl, rfl⟩) | (go_at_call_of 48 (Value.int IntKind.i64 k); refine (H0.out _).mono ?_; rintro e w1 ⟨rfl, rfl⟩) | (go_at_call_of 48 (Value.int IntKind.i64 x); refine (H1.out _).mono ?_; rintro e w1 ⟨rfl, rfl⟩) | (go_at_call 47; refine (H4.out W0).mono ?_; rintro e w1 ⟨rfl, rfl⟩))
    have HB1 : Hid (Below w.heap.size w (W0.alloc (.cells #[.int .i64 r0, .int .i64 r1, .int .i64 r2, .int .i64 r3] 3)).drew) := (bel2 HB0.out (bel1 _ _)).drew
    obtain ⟨W1, hW1⟩ : ∃ W1, W1 = (W0.alloc (.cells #[.int .i64 r0, .int .i64 r1, .int .i64 r2, .int .i64 r3] 3)).drew := ⟨_, rfl⟩
    have hA1 : At5 W1 w.heap.size 0 (.int .i64 k) (.int .i64 x) (.int .u64 (b : Int)) (.string s) (.slice a l.length c) := by rw [hW1]; exact HA5.out.below (bel1 _ _).drew
    have hB1 : At5 W1 (w.heap.size + 1) 0 (.int .i64 k2) (.int .i64 x2) (.int .u64 (B2 : Int)) (.string s2) (.slice a2 l2.length c2) := by rw [hW1]; exact HB5.out.below (bel1 _ _).drew
    obtain ⟨_, _, _, _, g5⟩ := hA1
    obtain ⟨_, _, _, _, g6⟩ := hB1
    rw [← hW1] at HB1 ⊢
    clear hW1 a0 a1 a3 a4 a5 b0 b1 b3 b4 b5 HA5 HB5 HB0 H0 H1 H2 H3 H4
    cases hq0 : (r4 != 0) with
    | true =>
      have HS : Hid (R = r4) := by have := HRe.out; rw [hq0] at this; exact this
      go_wp2_with fail
      go_ret
      exact ⟨by rw [HS.out]; rfl, HB1.out⟩
    | false =>
      have HS : Hid (R = q) := by have := HRe.out; rw [hq0] at this; exact this
      go_wp2_with fail
      refine Calls.mono (HCF.out _ HB1.out) ?_
      rintro e w2 ⟨rfl, hb2⟩
      have HB2 : Hid (Below w.heap.size w w2) := bel2 HB1.out hb2
      clear hb2
      go_wp2_with fail
      go_ret
      exact ⟨by rw [HS.out]; rfl, HB2.out⟩
end Go.Proofs.Ytobblioplfpndaa
