/- What Parse reads of a segment's bytes and of any beginning of them that has its head: plain facts. -/
import Derived.Test.YthakbkkopneilaaDoorBG
namespace Go.Proofs.YthakbkkopneilaaDoor
open Go.ChangeShapes Go.WideShapes Go.ChangeAt Go.RowKit
/-- The payloads behind the head: perhaps a snapshot, then records. -/
def itemsL (sn : Option (List UInt8)) (rs : List (List UInt8)) : List (List UInt8) := match sn with
  | none => rs
  | some s => s :: rs
/-- Their frames. -/
def bodyL (sn : Option (List UInt8)) (rs : List (List UInt8)) : List UInt8 := match sn with
  | none => flat3 rs
  | some s => sealL 2 s ++ flat3 rs
theorem bodyL_length (sn : Option (List UInt8)) (rs : List (List UInt8)) : (bodyL sn rs).length = rwide (itemsL sn rs) := by
  cases sn with
  | none => exact flat3_length rs
  | some s => simp only [bodyL, itemsL, rwide, List.length_append, sealL_length, flat3_length]
/-- Where the head and each frame behind it end. -/
def marksL : Nat → List (List UInt8) → List Int
  | n, [] => [(n : Int)]
  | n, p :: ps => (n : Int) :: marksL (n + (9 + p.length)) ps
theorem marksL_length : ∀ (n : Nat) (ps : List (List UInt8)), (marksL n ps).length = ps.length + 1
  | _, [] => rfl
  | n, p :: ps => by simp only [marksL, List.length_cons, marksL_length _ ps]
theorem marksL_at : ∀ (n : Nat) (ps : List (List UInt8)) (i : Nat), i ≤ ps.length → (marksL n ps)[i]? = some ((n + rwide (ps.take i) : Nat) : Int)
  | n, [], 0, _ => rfl
  | n, p :: ps, 0, _ => by simp [marksL, rwide]
  | n, p :: ps, i + 1, h => by
    have := marksL_at (n + (9 + p.length)) ps i (by simpa using h)
    have e : n + (9 + p.length) + rwide (ps.take i) = n + (9 + p.length + rwide (ps.take i)) := by omega
    rw [e] at this
    simp only [marksL, List.getElem?_cons_succ, this, List.take_succ_cons, rwide]
theorem marksL_snoc : ∀ (n : Nat) (ps : List (List UInt8)) (p : List UInt8), marksL n (ps ++ [p]) = marksL n ps ++ [((n + rwide (ps ++ [p]) : Nat) : Int)]
  | n, [], p => by simp [marksL, rwide]
  | n, q :: ps, p => by
    have := marksL_snoc (n + (9 + q.length)) ps p
    have e : n + (9 + q.length) + rwide (ps ++ [p]) = n + (9 + q.length + rwide (ps ++ [p])) := by omega
    rw [e] at this
    simp only [List.cons_append, marksL, this, rwide]
theorem rwide_take_lt (ps : List (List UInt8)) (i j : Nat) (h : i < j) (hj : j ≤ ps.length) : rwide (ps.take i) < rwide (ps.take j) := by
  have e : ps.take j = ps.take i ++ (ps.drop i).take (j - i) := by
    have := List.take_add (l := ps) (i := i) (j := j - i)
    rw [show i + (j - i) = j by omega] at this
    exact this
  rw [e, rwide_append]
  have := rwide_ge ((ps.drop i).take (j - i))
  have hl : ((ps.drop i).take (j - i)).length = j - i := by simp; omega
  omega
theorem rwide_take_le (ps : List (List UInt8)) (i : Nat) : rwide (ps.take i) ≤ rwide ps := by
  have e : rwide ps = rwide (ps.take i) + rwide (ps.drop i) := by rw [← rwide_append, List.take_append_drop]
  omega
theorem take_head (a b : List UInt8) (c : Nat) : (a ++ b).take (a.length + c) = a ++ b.take c := by
  rw [List.take_append, List.take_of_length_le (by omega), Nat.add_sub_cancel_left]
section
variable {n f : Int} (h1 : 1 ≤ n) (hn : n < 9223372036854775808) (h0 : 0 ≤ f) (hf : f < 9223372036854775808)
include h1 hn h0 hf
theorem back_all (sn : Option (List UInt8)) (rs : List (List UInt8)) (hs : ∀ s, sn = some s → s.length ≤ 1048576) (h : ∀ p ∈ rs, p.length ≤ 1048576) : parseL (headL n f ++ bodyL sn rs) = some (n, f, sn, rs, (headL n f).length + rwide (itemsL sn rs)) := by
  cases sn with
  | none => exact parse_all0 h1 hn h0 hf rs h
  | some s =>
    have := parse_all2 h1 hn h0 hf s (hs s rfl) rs h
    simp only [bodyL, itemsL, rwide]
    rw [this, Nat.add_assoc]
theorem back_cut0 (rs : List (List UInt8)) (h : ∀ p ∈ rs, p.length ≤ 1048576) (c : Nat) (hc : c ≤ rwide rs) : ∃ m, m ≤ rs.length ∧ rwide (rs.take m) ≤ c ∧ (m < rs.length → c < rwide (rs.take (m + 1))) ∧
    parseL (headL n f ++ (flat3 rs).take c) = some (n, f, none, rs.take m, (headL n f).length + rwide (rs.take m)) ∧
    ∀ s : List UInt8, s.length ≤ 1048576 → parseL (headL n f ++ (sealL 2 s ++ (flat3 rs).take c)) = some (n, f, some s, rs.take m, (headL n f).length + (9 + s.length) + rwide (rs.take m)) := by
  by_cases hlt : c < rwide rs
  · obtain ⟨m, q, t, r, hm, hq, hr, hw, he⟩ := flat3_take rs c hlt
    have hq1 : q.length ≤ 1048576 := h q (List.mem_of_getElem? hq)
    have ht : ∀ p ∈ rs.take m, p.length ≤ 1048576 := fun p hp => h p (List.mem_of_mem_take hp)
    refine ⟨m, by omega, by omega, fun _ => ?_, ?_, fun s hs => ?_⟩
    · have e : rs.take (m + 1) = rs.take m ++ [q] := by rw [List.take_add_one, hq]; rfl
      rw [e, rwide_append]
      simp only [rwide]
      omega
    · rw [he]
      exact parse_cut0 h1 hn h0 hf _ ht q t r hq1 hr
    · rw [he]
      exact parse_cut2 h1 hn h0 hf s hs _ ht q t r hq1 hr
  · have hcw : c = rwide rs := by omega
    refine ⟨rs.length, Nat.le_refl _, by rw [List.take_length]; omega, fun hx => by omega, ?_, fun s hs => ?_⟩
    · rw [List.take_length, List.take_of_length_le (by rw [flat3_length]; omega)]
      exact parse_all0 h1 hn h0 hf rs h
    · rw [List.take_length, List.take_of_length_le (by rw [flat3_length]; omega)]
      exact parse_all2 h1 hn h0 hf s hs rs h
/-- Of any beginning that has the head, what is whole is read. -/
theorem back_cut (sn : Option (List UInt8)) (rs : List (List UInt8)) (hs : ∀ s, sn = some s → s.length ≤ 1048576) (h : ∀ p ∈ rs, p.length ≤ 1048576) (c : Nat) (hc : c ≤ rwide (itemsL sn rs)) :
    ∃ (m : Nat) (sn' : Option (List UInt8)), m ≤ (itemsL sn rs).length ∧ rwide ((itemsL sn rs).take m) ≤ c ∧ (m < (itemsL sn rs).length → c < rwide ((itemsL sn rs).take (m + 1))) ∧
    sn'.isSome = (sn.isSome && decide (0 < m)) ∧
    parseL (headL n f ++ (bodyL sn rs).take c) = some (n, f, sn', rs.take (if sn'.isSome then m - 1 else m), (headL n f).length + rwide ((itemsL sn rs).take m)) := by
  cases sn with
  | none =>
    obtain ⟨m, a, b, d, e, _⟩ := back_cut0 h1 hn h0 hf rs h c hc
    exact ⟨m, none, a, b, d, rfl, e⟩
  | some s =>
    have hs1 := hs s rfl
    simp only [itemsL, rwide] at hc ⊢
    by_cases hlt : c < 9 + s.length
    · refine ⟨0, none, by simp, by simp [rwide], fun _ => by simp [rwide]; omega, rfl, ?_⟩
      simp only [bodyL, Option.isSome_none, Bool.false_eq_true, if_false, List.take_zero, rwide, Nat.add_zero]
      exact parse_torn2 h1 hn h0 hf s (flat3 rs) c hs1 hlt
    · obtain ⟨m, a, b, d, _, e⟩ := back_cut0 h1 hn h0 hf rs h (c - (9 + s.length)) (by omega)
      refine ⟨m + 1, some s, by simpa using a, by simp only [List.take_succ_cons, rwide]; omega, fun hx => ?_, rfl, ?_⟩
      · simp only [List.take_succ_cons, rwide]
        have := d (by simpa using hx)
        omega
      · have e2 : (bodyL (some s) rs).take c = sealL 2 s ++ (flat3 rs).take (c - (9 + s.length)) := by
          simp only [bodyL]
          rw [List.take_append, sealL_length, List.take_of_length_le (by rw [sealL_length]; omega)]
        rw [e2, e s hs1]
        simp only [Option.isSome_some, if_true, Nat.add_sub_cancel, List.take_succ_cons, rwide, Nat.add_assoc]
end
end Go.Proofs.YthakbkkopneilaaDoor
