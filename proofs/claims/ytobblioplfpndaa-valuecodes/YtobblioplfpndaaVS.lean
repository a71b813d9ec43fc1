/- The contracts of the statements' own shallow and fine, with what a yes says: no list has more than 500 values. -/
import Derived.Test.YtobblioplfpndaaVA
namespace Go.Proofs.Ytobblioplfpndaa
open Go.ChangeShapes Go.WideShapes Go.ChangeAt Go.RowKit
/-- No list has more than 500 values. -/
def Small : Nat → Tv → Prop
  | 0, _ => False
  | n + 1, .mk _ _ _ _ l => l.length ≤ 500 ∧ ∀ (i : Nat) t, l[i]? = some t → Small n t
/-- What shallow answers: where it says yes, there are at most 500 values. -/
def Shal (n : Nat) (t : Tv) (e : Ending) : Prop := ∃ (q : Int) (r : Bool), e = .returned (.tuple #[.int .i64 q, .bool r]) ∧ (r = true → 1 ≤ q ∧ q ≤ 500 ∧ Small n t)
theorem wr2 {q q1 : Int} (h : q ≤ 500) (h0 : 0 ≤ q) (h1 : 1 ≤ q1 ∧ q1 ≤ 500) : wrap64 (q + q1) = q + q1 := by unfold wrap64; omega
set_option maxHeartbeats 2000000 in
theorem shallow2_calls : ∀ (n : Nat) (v : Value) (t : Tv) (d : Int) (w : World), Is w n v t →
    Calls Try.prog 40 #[v, .int .i64 d] w fun e w' => Shal n t e ∧ Below w.heap.size w w' := by
  intro n
  induction n with
  | zero => intro v t d w h; exact h.elim
  | succ n ih =>
    rintro v ⟨k, x, b, s, l⟩ d w ⟨a, c, rfl, hf, hr⟩
    have HR : Hid (Row (Is w n) w a l) := hr
    have HF : Hid (Fit k x b s l.length c) := hf
    clear hr hf
    go_enter Try.func40, Try.ntmps40
    go_wp2_with fail
    go_loopw [6, 14] (fun nn i wr => ∃ j : Nat, j ≤ l.length ∧ i = .int .i64 j ∧ (∃ q : Int, nn = .int .i64 q ∧ Hid (1 + (j : Int) ≤ q ∧ q ≤ 500)) ∧ Hid (∀ (i : Nat) t, i < j → l[i]? = some t → Small n t) ∧ Hid (Below w.heap.size w wr)) (fun _ i _ => l.length - (intOf i).toNat)
    case atStart => exact ⟨0, Nat.zero_le _, rfl, ⟨1, rfl, by show _ ∧ _; decide⟩, (fun i t h => absurd h (Nat.not_lt_zero _)), (Below.refl _ w).alloc (Nat.le_refl _) _⟩
    case round =>
      obtain ⟨j, hj, rfl, ⟨q, rfl, HQ⟩, HS, HB⟩ := hrel
      by_cases hlt : j < l.length
      · obtain ⟨B, o, c0, c1, c2, c3, c4, rfl, h5, hi⟩ := HR.out j _ (List.getElem?_eq_getElem hlt)
        obtain ⟨k', x', b', s', a', m', c', rfl, rfl, rfl, rfl, rfl⟩ := hi.shape
        obtain ⟨e0, e1, e2, e3, e4⟩ := h5.below HB.out
        have HI := hi.below HB.out
        have C0 := fun W (hB : Below wr.heap.size wr W) => ih _ _ (wrap64 (d - 1)) W (HI.below hB)
        clear hi h5 HI
        go_wp2_with fail
        refine Calls.mono (C0 _ ?_) ?_
        · exact bel1 _ _
        rintro e w1 ⟨⟨q1, r1, rfl, hs1⟩, hb1⟩
        have HB1 : Hid (Below w.heap.size w w1) := bel2 HB.out (bel2 (bel1 _ _) hb1)
        have HS1 : Hid (r1 = true → _) := hs1
        clear hb1 C0 HB e0 e1 e2 e3 e4 hs1
        have HW : Hid (wrap64 ((j : Int) + 1) = ((j + 1 : Nat) : Int)) := wr1 hlt (Nat.le_trans HF.out.n1 HF.out.c1)
        have HQ2 : Hid (r1 = true → wrap64 (q + q1) = q + q1) := fun h => wr2 HQ.out.2 (by have := HQ.out.1; omega) ⟨(HS1.out h).1, (HS1.out h).2.1⟩
        obtain ⟨q2, hq2⟩ : ∃ q2, wrap64 (q + q1) = q2 := ⟨_, rfl⟩
        have HQ3 : Hid (q2 = wrap64 (q + q1)) := hq2.symm
        have HG : Hid (r1 = true → decide (500 < q2) = false → (1 + ((j + 1 : Nat) : Int) ≤ q2 ∧ q2 ≤ 500) ∧ ∀ (i : Nat) t, i < j + 1 → l[i]? = some t → Small n t) := by
          intro h hd
          have hq := HQ2.out h
          rw [HQ3.out]
          rw [HQ3.out] at hd
          rw [hq] at hd ⊢
          have h1 := HS1.out h
          have h2 := HQ.out.1
          have h3 : ¬ (500 : Int) < q + q1 := of_decide_eq_false hd
          refine ⟨by omega, fun i t hi ht => ?_⟩
          by_cases hij : i < j
          · exact HS.out i t hij ht
          · obtain rfl : i = j := by omega
            rw [List.getElem?_eq_getElem hlt] at ht
            cases ht
            exact h1.2.2
        clear HQ2 HQ3 HS1
        by_cases hd0 : (d == 0) = true
        · go_wp2_with fail
          go_ret2
          exact ⟨⟨_, _, rfl, fun h => by cases h⟩, HB1.out⟩
        have hd1 : (d == 0) = false := by simpa using hd0
        clear hd0
        cases r1 with
        | false =>
          go_wp2_with fail
          go_ret2
          exact ⟨⟨_, _, rfl, fun h => by cases h⟩, HB1.out⟩
        | true =>
          cases hd2 : decide (500 < q2) with
          | true =>
            go_wp2_with fail
            go_ret2
            exact ⟨⟨_, _, rfl, fun h => by cases h⟩, HB1.out⟩
          | false =>
            have hG := HG.out rfl hd2
            have HG1 : Hid (1 + ((j + 1 : Nat) : Int) ≤ q2 ∧ q2 ≤ 500) := hG.1
            have HG2 : Hid (∀ (i : Nat) t, i < j + 1 → l[i]? = some t → Small n t) := hG.2
            clear hG HG
            go_wp2_with fail
            exact ⟨⟨j + 1, hlt, by rw [HW.out], ⟨_, rfl, by rw [hq2]; exact HG1⟩, HG2, HB1⟩, meas hlt HW.out⟩
      · obtain rfl : j = l.length := by omega
        go_wp2_with fail
        go_ret2
        refine ⟨⟨q, true, rfl, fun _ => ⟨?_, HQ.out.2, ?_, ?_⟩⟩, HB.out⟩
        · have := HQ.out.1; omega
        · have := HQ.out; omega
        · exact fun i t ht => HS.out i t (List.getElem?_eq_some_iff.1 ht).1 ht
theorem fine2_calls (n : Nat) (v : Value) (t : Tv) (w : World) (h : Is w n v t) :
    Calls Try.prog 9 #[v] w fun e w' => (∃ r : Bool, e = .returned (.bool r) ∧ (r = true → Small n t)) ∧ Below w.heap.size w w' := by
  have C := fun W (hB : Below w.heap.size w W) => shallow2_calls n v t 12 W (h.below hB)
  obtain ⟨k', x', b', s', a', m', c', rfl⟩ : ∃ k x b s a m c, v = .agg #[.int .i64 k, .int .i64 x, .int .u64 b, .string s, .slice a m c] := by
    cases n with
    | zero => exact h.elim
    | succ n => obtain ⟨k, x, b, s, l⟩ := t; obtain ⟨a, c, rfl, _⟩ := h; exact ⟨_, _, _, _, _, _, _, rfl⟩
  clear h
  go_enter Try.func9, Try.ntmps9
  go_wp2_with fail
  refine Calls.mono (C _ (bel1 _ _)) ?_
  rintro e w1 ⟨⟨q1, r1, rfl, hs1⟩, hb1⟩
  have HB1 : Hid (Below w.heap.size w w1) := bel2 (bel1 _ _) hb1
  have HS1 : Hid (r1 = true → _) := hs1
  clear hb1 C hs1
  go_wp2_with fail
  go_ret
  exact ⟨⟨_, rfl, fun h => (HS1.out h).2.2⟩, HB1.out⟩
end Go.Proofs.Ytobblioplfpndaa
