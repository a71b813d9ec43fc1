/- What Parse reads of a head, a snapshot and records, whole and of a beginning of them. -/
import Derived.Test.YthakbkkopneilaaDoorBF
namespace Go.Proofs.YthakbkkopneilaaDoor
open Go.ChangeShapes Go.WideShapes Go.ChangeAt Go.RowKit
theorem takeL2_recs (rs : List (List UInt8)) (h : ∀ p ∈ rs, p.length ≤ 1048576) (a q t : List UInt8) (r : Nat) (hq : q.length ≤ 1048576) (hr : r < 9 + q.length) : takeL (a ++ (flat3 rs ++ (sealL 3 q ++ t).take r)) a.length 2 = none := by
  cases rs with
  | nil => exact takeL_torn a q t 3 2 r hq hr
  | cons p ps =>
    have e : flat3 (p :: ps) ++ (sealL 3 q ++ t).take r = sealL 3 p ++ (flat3 ps ++ (sealL 3 q ++ t).take r) := by simp [flat3]
    rw [e]
    exact takeL_other a p _ 3 2 (by decide) (h p (by simp))
theorem takeL2_all (rs : List (List UInt8)) (h : ∀ p ∈ rs, p.length ≤ 1048576) (a : List UInt8) : takeL (a ++ flat3 rs) a.length 2 = none := by
  cases rs with
  | nil => simpa [flat3] using takeL_end a 2
  | cons p ps => exact takeL_other a p _ 3 2 (by decide) (h p (by simp))
theorem parse_at {n f : Int} {t : List UInt8} (h : headOf (headL n f ++ t) = some (n, f, (headL n f).length)) (hn : takeL (headL n f ++ t) (headL n f).length 2 = none) : parseL (headL n f ++ t) = some (n, f, none, recsL (headL n f ++ t) (headL n f).length, (headL n f).length + rwide (recsL (headL n f ++ t) (headL n f).length)) := by
  unfold parseL
  rw [h]
  simp only
  rw [hn]
theorem parse_at2 {n f : Int} {t s : List UInt8} (h : headOf (headL n f ++ t) = some (n, f, (headL n f).length)) (hn : takeL (headL n f ++ t) (headL n f).length 2 = some s) : parseL (headL n f ++ t) = some (n, f, some s, recsL (headL n f ++ t) ((headL n f).length + (9 + s.length)), (headL n f).length + (9 + s.length) + rwide (recsL (headL n f ++ t) ((headL n f).length + (9 + s.length)))) := by
  unfold parseL
  rw [h]
  simp only
  rw [hn]
section
variable {n f : Int} (h1 : 1 ≤ n) (hn : n < 9223372036854775808) (h0 : 0 ≤ f) (hf : f < 9223372036854775808)
include h1 hn h0 hf
/-- A torn snapshot is none. -/
theorem parse_torn2 (s t : List UInt8) (r : Nat) (hs : s.length ≤ 1048576) (hr : r < 9 + s.length) : parseL (headL n f ++ (sealL 2 s ++ t).take r) = some (n, f, none, [], (headL n f).length) := by
  rw [parse_at (headOf_headL n f _ h1 hn h0 hf) (takeL_torn _ s t 2 2 r hs hr), recsL_none (takeL_torn _ s t 2 3 r hs hr)]
  simp [rwide]
/-- Records with no snapshot, the last one torn. -/
theorem parse_cut0 (rs : List (List UInt8)) (h : ∀ p ∈ rs, p.length ≤ 1048576) (q t : List UInt8) (r : Nat) (hq : q.length ≤ 1048576) (hr : r < 9 + q.length) : parseL (headL n f ++ (flat3 rs ++ (sealL 3 q ++ t).take r)) = some (n, f, none, rs, (headL n f).length + rwide rs) := by
  rw [parse_at (headOf_headL n f _ h1 hn h0 hf) (takeL2_recs rs h _ q t r hq hr), recsL_cut rs h _ q t r hq hr]
/-- Records with no snapshot, whole. -/
theorem parse_all0 (rs : List (List UInt8)) (h : ∀ p ∈ rs, p.length ≤ 1048576) : parseL (headL n f ++ flat3 rs) = some (n, f, none, rs, (headL n f).length + rwide rs) := by
  rw [parse_at (headOf_headL n f _ h1 hn h0 hf) (takeL2_all rs h _), recsL_all rs h _]
/-- A snapshot and records, the last one torn. -/
theorem parse_cut2 (s : List UInt8) (hs : s.length ≤ 1048576) (rs : List (List UInt8)) (h : ∀ p ∈ rs, p.length ≤ 1048576) (q t : List UInt8) (r : Nat) (hq : q.length ≤ 1048576) (hr : r < 9 + q.length) : parseL (headL n f ++ (sealL 2 s ++ (flat3 rs ++ (sealL 3 q ++ t).take r))) = some (n, f, some s, rs, (headL n f).length + (9 + s.length) + rwide rs) := by
  have e : (headL n f).length + (9 + s.length) = (headL n f ++ sealL 2 s).length := by rw [List.length_append, sealL_length]
  rw [parse_at2 (headOf_headL n f _ h1 hn h0 hf) (takeL_seal _ s _ 2 hs), e, ← List.append_assoc, recsL_cut rs h _ q t r hq hr]
/-- A snapshot and records, whole. -/
theorem parse_all2 (s : List UInt8) (hs : s.length ≤ 1048576) (rs : List (List UInt8)) (h : ∀ p ∈ rs, p.length ≤ 1048576) : parseL (headL n f ++ (sealL 2 s ++ flat3 rs)) = some (n, f, some s, rs, (headL n f).length + (9 + s.length) + rwide rs) := by
  have e : (headL n f).length + (9 + s.length) = (headL n f ++ sealL 2 s).length := by rw [List.length_append, sealL_length]
  rw [parse_at2 (headOf_headL n f _ h1 hn h0 hf) (takeL_seal _ s _ 2 hs), e, ← List.append_assoc, recsL_all rs h _]
end
/-- A beginning of records: so many whole ones, and less than one more. -/
theorem flat3_take (rs : List (List UInt8)) : ∀ c, c < rwide rs → ∃ m q t r, m < rs.length ∧ rs[m]? = some q ∧ r < 9 + q.length ∧ rwide (rs.take m) + r = c ∧ (flat3 rs).take c = flat3 (rs.take m) ++ (sealL 3 q ++ t).take r := by
  induction rs with
  | nil => intro c hc; simp [rwide] at hc
  | cons p ps ih =>
    intro c hc
    simp only [rwide] at hc
    by_cases hlt : c < 9 + p.length
    · exact ⟨0, p, flat3 ps, c, by simp, rfl, hlt, by simp [rwide], by simp [flat3]⟩
    · obtain ⟨m, q, t, r, hm, hq, hr, hw, he⟩ := ih (c - (9 + p.length)) (by omega)
      refine ⟨m + 1, q, t, r, by simp; omega, by simpa using hq, hr, by simp only [List.take_succ_cons, rwide]; omega, ?_⟩
      simp only [flat3, List.take_succ_cons]
      rw [List.take_append, sealL_length, he, List.take_of_length_le (by rw [sealL_length]; omega), List.append_assoc]
end Go.Proofs.YthakbkkopneilaaDoor
