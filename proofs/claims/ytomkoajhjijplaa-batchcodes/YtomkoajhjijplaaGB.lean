/- The contracts of few and awake. -/
import Derived.Test.YtomkoajhjijplaaBK
namespace Go.Proofs.Ytomkoajhjijplaa
open Go.ChangeShapes Go.WideShapes Go.ChangeAt Go.RowKit
set_option maxHeartbeats 2000000 in
theorem few_calls (v : Value) (b : Bt) (w : World) (h : BIs w v b) : Calls Try.prog 6 #[v] w fun e w' => (∃ r : Bool, e = .returned (.bool r)) ∧ Below w.heap.size w w' := by
  obtain ⟨rp, rn, rc, wa, wd, rfl, hr, hn, hw⟩ := h
  have HW : Hid (WR w wa b.ws) := hw
  have HN : Hid (b.ws.length ≤ 9223372036854775807) := hn
  clear hr hw hn
  go_enter Try.func6, Try.ntmps6
  go_wp2_with fail
  go_loopw [3, 14] (fun nn i wr => ∃ j : Nat, j ≤ b.ws.length ∧ i = .int .i64 (j : Int) ∧ (∃ q : Int, nn = .int .i64 q) ∧ Hid (Below w.heap.size w wr)) (fun _ i _ => b.ws.length - (intOf i).toNat)
  case atStart => exact ⟨0, Nat.zero_le _, rfl, ⟨_, rfl⟩, bel1 _ _⟩
  case round =>
    obtain ⟨j, hj, rfl, ⟨q, rfl⟩, HB⟩ := hrel
    by_cases hlt : j < b.ws.length
    · obtain ⟨B, o, ev, rfl, h5, hl⟩ := HW.out j _ (List.getElem?_eq_getElem hlt)
      obtain ⟨e0, e1, e2, e3, e4⟩ := h5.below HB.out
      obtain ⟨ea, ec, hea, hel, hrow⟩ := hl
      subst hea
      have HR : Hid (∀ (i : Nat) p, b.ws[j].ev[i]? = some p → ∃ B o x, ea = some ⟨B, o, none⟩ ∧ w.cell? ⟨B, o + i, none⟩ = some x ∧ Lib.HoldsBytes w x p) := hrow
      have HEL : Hid (b.ws[j].ev.length ≤ 9223372036854775807) := hel
      have HW1 : Hid (wrap64 ((j : Int) + 1) = ((j + 1 : Nat) : Int)) := wr1 hlt HN.out
      have hjl : (j : Int) < (b.ws.length : Int) := by omega
      obtain ⟨M, hM⟩ : ∃ M, M = b.ws[j].ev.length := ⟨_, rfl⟩
      rw [← hM] at e4
      have HM : Hid (M = b.ws[j].ev.length) := hM
      clear h5 hrow hel hM
      go_wp2_with fail
      generalize wrap64 (q + 10) = q0
      go_loopw [3, 23] (fun nn i wr2 => ∃ m : Nat, m ≤ M ∧ i = .int .i64 (m : Int) ∧ (∃ q : Int, nn = .int .i64 q) ∧ Hid (Below w.heap.size w wr2)) (fun _ i _ => M - (intOf i).toNat)
      case atStart => exact ⟨0, Nat.zero_le _, rfl, ⟨_, rfl⟩, bel2 HB.out (bel1 _ _)⟩
      case round =>
        obtain ⟨m, hm, rfl, ⟨q2, rfl⟩, HB2⟩ := hrel
        by_cases hlt2 : m < M
        · have HT : Hid (m < b.ws[j].ev.length) := by have := HM.out; show _ < _; omega
          obtain ⟨B', o', x, rfl, hx, hh⟩ := HR.out m _ (List.getElem?_eq_getElem HT.out)
          obtain ⟨xp, xn, xc, rfl⟩ : ∃ p n c, x = .slice p n c := by obtain ⟨p, c, rfl, _⟩ := hh; exact ⟨_, _, _, rfl⟩
          have hx2 := cell_below hx HB2.out
          have HW2 : Hid (wrap64 ((m : Int) + 1) = ((m + 1 : Nat) : Int)) := wr1 hlt2 (by have := HM.out; have := HEL.out; omega)
          have hml : (m : Int) < (M : Int) := by omega
          clear hx hh
          go_wp2_with fail
          exact ⟨⟨m + 1, hlt2, by rw [HW2.out], ⟨_, rfl⟩, HB2⟩, meas hlt2 HW2.out⟩
        · obtain rfl : m = M := by omega
          go_wp2_with fail
          exact ⟨⟨j + 1, hlt, by rw [HW1.out], ⟨_, rfl⟩, HB2⟩, meas hlt HW1.out⟩
    · obtain rfl : j = b.ws.length := by omega
      go_wp2_with fail
      go_ret
      exact ⟨⟨_, rfl⟩, HB.out⟩
/-- The batch of awake. -/
def kB : Bt := ⟨⟨#[107]⟩, 0, [], []⟩
theorem kB_is (w : World) : BIs w (.agg #[.string ⟨#[107]⟩, .int .i64 0, .slice none 0 0, .slice none 0 0]) kB :=
  ⟨none, 0, 0, none, 0, rfl, holds_nil w, by decide, fun i t h => by simp [kB] at h⟩
theorem kB_may : mayB kB = true := by decide +kernel
theorem kB_enc : encB kB = [1, 107, 0, 0, 0] := by decide +kernel
set_option maxHeartbeats 2000000 in
theorem awake_calls (w : World) : Calls Try.prog 7 #[] w fun e w' => e = .returned (.bool true) ∧ Below w.heap.size w w' := by
  have EC : Hid (Calls Try.prog 8 #[.agg #[.string ⟨#[107]⟩, .int .i64 0, .slice none 0 0, .slice none 0 0]] w fun x w' => ∃ p n c, x = .returned (.tuple #[.slice p n c, .int .i64 0]) ∧ Lib.HoldsBytes w' (.slice p n c) [1, 107, 0, 0, 0] ∧ Below w.heap.size w w') := (encode_calls _ kB w (kB_is w)).mono fun x w' ⟨p, n, c, h1, h2, h3⟩ => by
    refine ⟨p, n, c, ?_, ?_, h3⟩
    · rw [h1]
      have : ckE kB = 0 := by unfold ckE; rw [if_pos kB_may]
      rw [this]
    · rw [if_pos kB_may, kB_enc] at h2
      exact h2
  have HL : Hid (∀ W : World, Lib.HoldsBytes (W.alloc (.cells #[.int .u8 1, .int .u8 107, .int .u8 0, .int .u8 0, .int .u8 0] 5)) (.slice (some ⟨W.heap.size, 0, none⟩) 5 5) [1, 107, 0, 0, 0]) := fun W => holds_bval W [1, 107, 0, 0, 0]
  go_enter Try.func7, Try.ntmps7
  go_wp2_with fail
  refine EC.out.mono ?_
  rintro x w1 ⟨p, n, c, rfl, hh, hb⟩
  have H1 : Hid (Lib.HoldsBytes (w1.alloc (.cells #[.int .u8 1, .int .u8 107, .int .u8 0, .int .u8 0, .int .u8 0] 5)) (.slice p n c) [1, 107, 0, 0, 0]) := holds_below hh (bel1 _ _)
  have HB : Hid (Below w.heap.size w (w1.alloc (.cells #[.int .u8 1, .int .u8 107, .int .u8 0, .int .u8 0, .int .u8 0] 5))) := bel2 hb (bel1 _ _)
  clear hh hb
  go_wp2_with fail
  refine (equal_calls _ _ _ _ _ H1.out (HL.out w1)).mono ?_
  rintro x w2 ⟨rfl, hw2⟩
  have HB2 : Hid (Below w.heap.size w w2) := by rw [hw2]; exact HB.out
  clear hw2
  go_wp2_with fail
  go_ret
  exact ⟨rfl, HB2.out⟩
end Go.Proofs.Ytomkoajhjijplaa
