/- The contract of the reference's base. -/
import Derived.Test.YthakbkkopneilaaDoorCC
namespace Go.Proofs.YthakbkkopneilaaDoor
open Go.ChangeShapes Go.WideShapes Go.ChangeAt Go.RowKit
def rb : Option Nat → Int | none => -1 | some a => (a : Int)
theorem rb_none : rb none = -1 := rfl
theorem rb_some (a : Nat) : rb (some a) = (a : Int) := rfl
set_option maxHeartbeats 1000000 in
set_option maxRecDepth 100000 in
theorem rbase_calls (v : Value) (l : List Sg) (w : World) (hv : Sr w v l) (hl : l.length ≤ 1000000000) :
    Calls Tryd.prog 40 #[v] w fun e w' => e = .returned (.int .i64 (rb (bs l l.length))) ∧ Below w.heap.size w w' := by
  obtain ⟨a, c, rfl, h⟩ := hv
  have HV : Hid (∀ (i : Nat) s, l[i]? = some s → ∃ B o, a = some ⟨B, o, none⟩ ∧ SgAt w B (o + i * 7) s) := h
  have HL : Hid (l.length ≤ 1000000000) := hl
  clear h hl
  go_enter Tryd.func40, Tryd.ntmps40
  go_wp2_with fail
  go_loopw [3, 4] (fun p i wr => ∃ j : Nat, j ≤ l.length ∧ i = .int .i64 j ∧ p = .int .i64 (rb (bs l j)) ∧ Hid (Below w.heap.size w wr)) (fun _ i _ => l.length - (intOf i).toNat)
  case atStart => exact ⟨0, Nat.zero_le _, rfl, rfl, Below.refl _ _⟩
  case round =>
    obtain ⟨j, hj, rfl, rfl, HB⟩ := hrel
    by_cases hlt : j < l.length
    · have hjl : (j : Int) < (l.length : Int) := by omega
      have hj9 : (j : Int) < 1000000000 := by have := HL.out; omega
      obtain ⟨s, hs⟩ : ∃ s, l[j]? = some s := ⟨_, List.getElem?_eq_getElem hlt⟩
      obtain ⟨B, o, rfl, hat⟩ := HV.out j s hs
      obtain ⟨c0, c1, c2, _, c6⟩ := hat.below HB.out
      obtain ⟨sn, sf, sh, sr, st⟩ := s
      simp only at c0 c1 c2 c6
      have HS : Hid (l[j]? = some ⟨sn, sf, sh, sr, st⟩) := hs
      clear hs hat hj
      cases sh with
      | false =>
        have HN : Hid (bs l (j + 1) = bs l j) := bs_skip HS.out rfl
        go_wp2_with fail
        go_quiet (fail)
        go_wp2_with fail
        refine ⟨⟨j + 1, hlt, by rw [Int.natCast_add]; rfl, (by rw [HN.out]; first | done | rfl), HB.out.trans ((belN wr _).mono HB.out.size)⟩, ?_⟩
        simp only [intOf]
        omega
      | true =>
        cases hb : bs l j with
        | none =>
          have HN : Hid (bs l (j + 1) = some j) := bs_first HS.out rfl hb
          rw [rb_none]
          clear hb
          go_wp2_with fail
          go_quiet (fail)
          go_wp2_with fail
          refine ⟨⟨j + 1, hlt, by rw [Int.natCast_add]; rfl, (by rw [HN.out]; first | done | rfl), HB.out.trans ((belN wr _).mono HB.out.size)⟩, ?_⟩
          simp only [intOf]
          omega
        | some m =>
          have hm := bs_lt l j m hb
          obtain ⟨t, ht⟩ : ∃ t, l[m]? = some t := ⟨_, List.getElem?_eq_getElem hm.2⟩
          obtain ⟨B', o', e', hat'⟩ := HV.out m t ht
          injection e' with e'
          injection e' with e1 e2 _
          subst e1 e2
          obtain ⟨g0, _⟩ := hat'.below HB.out
          have HN := bs_next HS.out rfl hb ht
          simp only at HN
          obtain ⟨tn, htn⟩ : ∃ tn, tn = t.n := ⟨_, rfl⟩
          rw [← htn] at g0 HN
          have hml : (m : Int) < (l.length : Int) := by omega
          have hm9 : (m : Int) < 1000000000 := by omega
          rw [rb_some]
          have dm : decide ((m : Int) < 0) = false := decide_eq_false (by omega)
          clear hb ht hat' htn hm
          by_cases hd : tn < sn
          · have d : decide (tn < sn) = true := decide_eq_true hd
            rw [if_pos hd] at HN
            have HN : Hid (bs l (j + 1) = some j) := HN
            clear hd
            go_wp2_with fail
            go_quiet (fail)
            go_wp2_with fail
            refine ⟨⟨j + 1, hlt, by rw [Int.natCast_add]; rfl, (by rw [HN.out]; first | done | rfl), HB.out.trans ((belN wr _).mono HB.out.size)⟩, ?_⟩
            simp only [intOf]
            omega
          · have d : decide (tn < sn) = false := decide_eq_false hd
            rw [if_neg hd] at HN
            have HN : Hid (bs l (j + 1) = some m) := HN
            clear hd
            go_wp2_with fail
            go_quiet (fail)
            go_wp2_with fail
            refine ⟨⟨j + 1, hlt, by rw [Int.natCast_add]; rfl, (by rw [HN.out]; first | done | rfl), HB.out.trans ((belN wr _).mono HB.out.size)⟩, ?_⟩
            simp only [intOf]
            omega
    · obtain rfl : j = l.length := by omega
      go_wp2_with fail
      go_ret
      exact ⟨rfl, HB.out⟩
end Go.Proofs.YthakbkkopneilaaDoor
