/- A list of segments, and the contract of base. -/
import Derived.Test.YthakbkkopneilaaDoorCB
namespace Go.Proofs.YthakbkkopneilaaDoor
open Go.ChangeShapes Go.WideShapes Go.ChangeAt Go.RowKit
/-- What the chain looks at in a segment. -/
structure Sg where
  n : Int
  f : Int
  hs : Bool
  rn : Nat
  tn : Bool
def SgAt (w : World) (B o : Nat) (s : Sg) : Prop :=
  w.cell? ⟨B, o, none⟩ = some (.int .i64 s.n) ∧ w.cell? ⟨B, o + 1, none⟩ = some (.int .i64 s.f) ∧ w.cell? ⟨B, o + 2, none⟩ = some (.bool s.hs) ∧ (∃ ra rc, w.cell? ⟨B, o + 4, none⟩ = some (.slice ra s.rn rc)) ∧ w.cell? ⟨B, o + 6, none⟩ = some (.bool s.tn)
theorem SgAt.below {w w' : World} {B o : Nat} {s : Sg} (h : SgAt w B o s) (hb : Below w.heap.size w w') : SgAt w' B o s := by
  obtain ⟨a, b, c, ⟨ra, rc, d⟩, e⟩ := h
  exact ⟨cell_below a hb, cell_below b hb, cell_below c hb, ⟨ra, rc, cell_below d hb⟩, cell_below e hb⟩
/-- v is the list of segments l. -/
def Sr (w : World) (v : Value) (l : List Sg) : Prop :=
  ∃ a c, v = .slice a l.length c ∧ ∀ (i : Nat) s, l[i]? = some s → ∃ B o, a = some ⟨B, o, none⟩ ∧ SgAt w B (o + i * 7) s
theorem Sr.below {w w' : World} {v : Value} {l : List Sg} (h : Sr w v l) (hb : Below w.heap.size w w') : Sr w' v l := by
  obtain ⟨a, c, e, h⟩ := h
  exact ⟨a, c, e, fun i s hs => by obtain ⟨B, o, ha, h⟩ := h i s hs; exact ⟨B, o, ha, h.below hb⟩⟩
/-- The base of the first j segments. -/
def bs (l : List Sg) : Nat → Option Nat
  | 0 => none
  | j + 1 => match l[j]? with
    | none => bs l j
    | some s => match bs l j with
      | none => if s.hs then some j else none
      | some a => if s.hs && ((l[a]?).map fun t => decide (t.n < s.n)).getD false then some j else some a
theorem bs_lt (l : List Sg) : ∀ j a, bs l j = some a → a < j ∧ a < l.length := by
  intro j
  induction j with
  | zero => intro a h; cases h
  | succ j ih =>
    intro a h
    simp only [bs] at h
    cases hl : l[j]? with
    | none => rw [hl] at h; have := ih a h; omega
    | some s =>
      rw [hl] at h
      have hj := (List.getElem?_eq_some_iff.1 hl).1
      cases hb : bs l j with
      | none => rw [hb] at h; simp only at h; split at h <;> simp_all
      | some b =>
        rw [hb] at h
        have := ih b hb
        simp only at h
        split at h
        · injection h with h; omega
        · injection h with h; omega
theorem bs_skip {l : List Sg} {j : Nat} {s : Sg} (h : l[j]? = some s) (hs : s.hs = false) : bs l (j + 1) = bs l j := by
  simp only [bs, h, hs]
  cases bs l j <;> simp
theorem bs_first {l : List Sg} {j : Nat} {s : Sg} (h : l[j]? = some s) (hs : s.hs = true) (hb : bs l j = none) : bs l (j + 1) = some j := by
  simp only [bs, h, hs, hb, if_true]
theorem bs_next {l : List Sg} {j a : Nat} {s t : Sg} (h : l[j]? = some s) (hs : s.hs = true) (hb : bs l j = some a) (ha : l[a]? = some t) : bs l (j + 1) = if t.n < s.n then some j else some a := by
  simp only [bs, h, hs, hb, ha, Bool.true_and, Option.map_some, Option.getD_some, decide_eq_true_eq]
set_option maxHeartbeats 1000000 in
set_option maxRecDepth 100000 in
theorem base_calls (v : Value) (l : List Sg) (w : World) (hv : Sr w v l) (hl : l.length ≤ 1000000000) :
    Calls Tryd.prog 38 #[v] w fun e w' => e = .returned (.tuple #[.int .i64 (((bs l l.length).getD 0 : Nat) : Int), .bool (bs l l.length).isSome]) ∧ Below w.heap.size w w' := by
  obtain ⟨a, c, rfl, h⟩ := hv
  have HV : Hid (∀ (i : Nat) s, l[i]? = some s → ∃ B o, a = some ⟨B, o, none⟩ ∧ SgAt w B (o + i * 7) s) := h
  have HL : Hid (l.length ≤ 1000000000) := hl
  clear h hl
  go_enter Tryd.func38, Tryd.ntmps38
  go_wp2_with fail
  go_loopw [4, 5, 9] (fun p q i wr => ∃ j : Nat, j ≤ l.length ∧ i = .int .i64 j ∧ p = .int .i64 (((bs l j).getD 0 : Nat) : Int) ∧ q = .bool (bs l j).isSome ∧ Hid (Below w.heap.size w wr)) (fun _ _ i _ => l.length - (intOf i).toNat)
  case atStart => exact ⟨0, Nat.zero_le _, rfl, rfl, rfl, Below.refl _ _⟩
  case round =>
    obtain ⟨j, hj, rfl, rfl, rfl, HB⟩ := hrel
    by_cases hlt : j < l.length
    · have hjl : (j : Int) < (l.length : Int) := by omega
      have hj9 : (j : Int) < 1000000000 := by have := HL.out; omega
      obtain ⟨s, hs⟩ : ∃ s, l[j]? = some s := ⟨_, List.getElem?_eq_getElem hlt⟩
      obtain ⟨B, o, rfl, hat⟩ := HV.out j s hs
      obtain ⟨c0, c1, c2, _, c6⟩ := hat.below HB.out
      obtain ⟨sn, sf, sh, sr, st⟩ := s
      simp only at c0 c1 c2 c6
      have HS : Hid (l[j]? = some ⟨sn, sf, sh, sr, st⟩) := hs
      clear hs hat hj
      cases sh with
      | false =>
        have HN : Hid (bs l (j + 1) = bs l j) := bs_skip HS.out rfl
        go_wp2_with fail
        go_quiet (fail)
        go_wp2_with fail
        refine ⟨⟨j + 1, hlt, by rw [Int.natCast_add]; rfl, (by rw [HN.out]; first | done | rfl), (by rw [HN.out]; first | done | rfl), HB.out.trans ((belN wr _).mono HB.out.size)⟩, ?_⟩
        simp only [intOf]
        omega
      | true =>
        cases hb : bs l j with
        | none =>
          have HN : Hid (bs l (j + 1) = some j) := bs_first HS.out rfl hb
          simp only [Option.getD_none, Option.isSome_none]
          clear hb
          go_wp2_with fail
          go_quiet (fail)
          go_wp2_with fail
          refine ⟨⟨j + 1, hlt, by rw [Int.natCast_add]; rfl, (by rw [HN.out]; first | done | rfl), (by rw [HN.out]; first | done | rfl), HB.out.trans ((belN wr _).mono HB.out.size)⟩, ?_⟩
          simp only [intOf]
          omega
        | some m =>
          have hm := bs_lt l j m hb
          obtain ⟨t, ht⟩ : ∃ t, l[m]? = some t := ⟨_, List.getElem?_eq_getElem hm.2⟩
          obtain ⟨B', o', e', hat'⟩ := HV.out m t ht
          injection e' with e'
          injection e' with e1 e2 _
          subst e1 e2
          obtain ⟨g0, _⟩ := hat'.below HB.out
          have HN := bs_next HS.out rfl hb ht
          simp only at HN
          obtain ⟨tn, htn⟩ : ∃ tn, tn = t.n := ⟨_, rfl⟩
          rw [← htn] at g0 HN
          have hml : (m : Int) < (l.length : Int) := by omega
          have hm9 : (m : Int) < 1000000000 := by omega
          simp only [Option.getD_some, Option.isSome_some]
          clear hb ht hat' htn hm
          by_cases hd : tn < sn
          · have d : decide (tn < sn) = true := decide_eq_true hd
            rw [if_pos hd] at HN
            have HN : Hid (bs l (j + 1) = some j) := HN
            clear hd
            go_wp2_with fail
            go_quiet (fail)
            go_wp2_with fail
            refine ⟨⟨j + 1, hlt, by rw [Int.natCast_add]; rfl, (by rw [HN.out]; first | done | rfl), (by rw [HN.out]; first | done | rfl), HB.out.trans ((belN wr _).mono HB.out.size)⟩, ?_⟩
            simp only [intOf]
            omega
          · have d : decide (tn < sn) = false := decide_eq_false hd
            rw [if_neg hd] at HN
            have HN : Hid (bs l (j + 1) = some m) := HN
            clear hd
            go_wp2_with fail
            go_quiet (fail)
            go_wp2_with fail
            refine ⟨⟨j + 1, hlt, by rw [Int.natCast_add]; rfl, (by rw [HN.out]; first | done | rfl), (by rw [HN.out]; first | done | rfl), HB.out.trans ((belN wr _).mono HB.out.size)⟩, ?_⟩
            simp only [intOf]
            omega
    · obtain rfl : j = l.length := by omega
      go_wp2_with fail
      go_ret2
      exact ⟨rfl, HB.out⟩
end Go.Proofs.YthakbkkopneilaaDoor
