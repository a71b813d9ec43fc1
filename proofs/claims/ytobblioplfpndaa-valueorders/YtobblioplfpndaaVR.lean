/- The walk of ValueOrders. -/
import Derived.Test.YtobblioplfpndaaVP
import Derived.Test.YtobblioplfpndaaVQ
namespace Go.Proofs.Ytobblioplfpndaa
open Go.ChangeShapes Go.WideShapes Go.ChangeAt Go.RowKit
set_option maxHeartbeats 8000000 in
set_option maxRecDepth 100000 in
theorem walk_orders (n : Nat) (v : Value) (t : Tv) (v2 : Value) (t2 : Tv) (w : World) (h : Is w n v t) (h2 : Is w n v2 t2) :
    Calls Try.prog 4 #[v, v2] w fun e w' => e = .returned (.bool true) ∧ Below w.heap.size w w' := by
  have F1 := fun W (hB : Below w.heap.size w W) => fine_calls n v t W (h.below hB)
  have F2 := fun W (hB : Below w.heap.size w W) => fine_calls n v2 t2 W (h2.below hB)
  obtain ⟨r, hr⟩ : ∃ r, r = ordT n t t2 := ⟨_, rfl⟩
  have C1 : ∀ W, Below w.heap.size w W → Calls Try.prog 23 #[v, v2] W fun e w' => e = .returned (.int .i64 r) ∧ Below W.heap.size W w' := fun W hB => by rw [hr]; exact order_calls5 n v t v2 t2 W (h.below hB) (h2.below hB)
  have C2 : ∀ W, Below w.heap.size w W → Calls Try.prog 24 #[v, v2] W fun e w' => e = .returned (.int .i64 r) ∧ Below W.heap.size W w' := fun W hB => by rw [hr]; exact refOrder_calls5 n v t v2 t2 W (h.below hB) (h2.below hB)
  have sh : ∀ {v : Value} {t : Tv}, Is w n v t → ∃ k x b s a m c, v = .agg #[.int .i64 k, .int .i64 x, .int .u64 b, .string s, .slice a m c] := by
    intro v t h
    cases n with
    | zero => exact h.elim
    | succ n => obtain ⟨k, x, b, s, l⟩ := t; obtain ⟨a, c, rfl, _⟩ := h; exact ⟨_, _, _, _, _, _, _, rfl⟩
  obtain ⟨k, x, b, s, a, m, c, rfl⟩ := sh h
  obtain ⟨k2, x2, b2, s2, a2, m2, c2, rfl⟩ := sh h2
  have HF1 : Hid (∀ W, Below w.heap.size w W → _) := F1
  have HF2 : Hid (∀ W, Below w.heap.size w W → _) := F2
  have HC1 : Hid (∀ W, Below w.heap.size w W → _) := C1
  have HC2 : Hid (∀ W, Below w.heap.size w W → _) := C2
  clear h h2 hr sh F1 F2 C1 C2
  go_enter Try.func4, Try.ntmps4
  go_wp2_with fail
  generalize hW0 : (w.alloc (Obj.cells #[.int .i64 k, .int .i64 x, .int .u64 b, .string s, .slice a m c] 25)).alloc (Obj.cells #[.int .i64 k2, .int .i64 x2, .int .u64 b2, .string s2, .slice a2 m2 c2] 25) = W0
  have HA : Hid (At5 W0 w.heap.size 0 (.int .i64 k) (.int .i64 x) (.int .u64 b) (.string s) (.slice a m c)) := by subst hW0; exact (box_at w _ _ _ _ _).below (bel1 _ _)
  have HB : Hid (At5 W0 (w.heap.size + 1) 0 (.int .i64 k2) (.int .i64 x2) (.int .u64 b2) (.string s2) (.slice a2 m2 c2)) := by subst hW0; exact box_at' _ _ (by simp) _ _ _ _ _
  have HB0 : Hid (Below w.heap.size w W0) := by subst hW0; exact bel2 (bel1 _ _) (bel1 _ _)
  clear hW0
  refine (HF1.out W0 HB0.out).mono ?_
  rintro e w1 ⟨⟨f1, rfl⟩, hb1⟩
  have T1 : Hid (Below W0.heap.size W0 w1) := hb1
  clear hb1
  obtain ⟨p0, p1, p2, p3, p4⟩ := HB.out.below T1.out
  cases f1 with
  | false =>
    go_wp2_with fail
    refine (awake_calls _).mono ?_
    rintro e w2 ⟨rfl, hb2⟩
    have T2 : Hid (Below W0.heap.size W0 w2) := bel2 T1.out hb2
    clear hb2
    go_wp2_with fail
    go_ret
    exact ⟨rfl, bel2 HB0.out T2.out⟩
  | true =>
    go_wp2_with fail
    refine (HF2.out w1 (bel2 HB0.out T1.out)).mono ?_
    rintro e w2 ⟨⟨f2, rfl⟩, hb2⟩
    have T2 : Hid (Below W0.heap.size W0 w2) := bel2 T1.out hb2
    clear hb2 p0 p1 p2 p3 p4
    cases f2 with
    | false =>
      go_wp2_with fail
      refine (awake_calls _).mono ?_
      rintro e w3 ⟨rfl, hb3⟩
      have T3 : Hid (Below W0.heap.size W0 w3) := bel2 T2.out hb3
      clear hb3
      go_wp2_with fail
      go_ret
      exact ⟨rfl, bel2 HB0.out T3.out⟩
    | true =>
      obtain ⟨p0, p1, p2, p3, p4⟩ := HA.out.below T2.out
      obtain ⟨q0, q1, q2, q3, q4⟩ := HB.out.below T2.out
      go_wp2_with fail
      go_region_held3 (fun w' => w'.cell? ⟨w.heap.size, 0, none⟩ = some (.int .i64 k) ∧ w'.cell? ⟨w.heap.size, 0 + 1, none⟩ = some (.int .i64 x) ∧ w'.cell? ⟨w.heap.size, 0 + 2, none⟩ = some (.int .u64 b) ∧ w'.cell? ⟨w.heap.size, 0 + 3, none⟩ = some (.string s) ∧ w'.cell? ⟨w.heap.size, 0 + 4, none⟩ = some (.slice a m c) ∧ w'.cell? ⟨w.heap.size + 1, 0, none⟩ = some (.int .i64 k2) ∧ w'.cell? ⟨w.heap.size + 1, 0 + 1, none⟩ = some (.int .i64 x2) ∧ w'.cell? ⟨w.heap.size + 1, 0 + 2, none⟩ = some (.int .u64 b2) ∧ w'.cell? ⟨w.heap.size + 1, 0 + 3, none⟩ = some (.string s2) ∧ w'.cell? ⟨w.heap.size + 1, 0 + 4, none⟩ = some (.slice a2 m2 c2)) (go_keep) (first | (go_at_call 23; refine (HC1.out _ (bel2 HB0.out T2.out).drew).mono ?_; rintro e w3 ⟨rfl, hb3⟩; have T3 : Hid (Below W0.heap.size W0 w3) := bel2 T2.out.drew hb3; obtain ⟨s0, s1, s2, s3, s4⟩ := HA.out.below T3.out; obtain ⟨t0, t1, t2, t3, t4⟩ := HB.out.below T3.out; clear hb3) | (go_at_call 24; refine (HC2.out _ (bel2 HB0.out T3.out)).mono ?_; rintro e w4 ⟨rfl, hb4⟩; have T4 : Hid (Below W0.heap.size W0 w4) := bel2 T3.out hb4; obtain ⟨u0, u1, u2, u3, u4⟩ := HA.out.below T4.out; obtain ⟨v0, v1, v2, v3, v4⟩ := HB.out.below T4.out; clear hb4) | (go_at_call 10; refine (awake_calls _).mono ?_; rintro e w5 ⟨rfl, hb5⟩; have T5 : Hid (Below W0.heap.size W0 w5) := bel2 T4.out hb5; obtain ⟨y0, y1, y2, y3, y4⟩ := HA.out.below T5.out; obtain ⟨z0, z1, z2, z3, z4⟩ := HB.out.below T5.out; clear hb5))
      all_goals go_wp2_with fail
      all_goals go_ret
      all_goals exact ⟨rfl, bel2 HB0.out T5.out⟩
end Go.Proofs.Ytobblioplfpndaa
