/- Keys as rows of bytes: which key is whose. -/
import Derived.Test.YtglnklghhjdjbaaDoorH
namespace Go.Proofs.YtglnklghhjdjbaaDoor
/-- A text's bytes. -/
def tl (s : ByteArray) : List UInt8 := s.data.toList
def sb (l : List UInt8) : ByteArray := ⟨l.toArray⟩
theorem tl_sb (l : List UInt8) : tl (sb l) = l := rfl
theorem sb_tl (s : ByteArray) : sb (tl s) = s := rfl
theorem tl_inj {a b : ByteArray} (h : tl a = tl b) : a = b := by rw [← sb_tl a, h, sb_tl]
theorem tl_len (s : ByteArray) : (tl s).length = s.size := rfl
theorem tl_append (a b : ByteArray) : tl (a ++ b) = tl a ++ tl b := by simp [tl]
theorem tl_dg (n : Nat) : tl (dg n) = Lib.decDigits n := rfl
theorem tl_extract (s : ByteArray) (i j : Nat) : tl (s.extract i j) = ((tl s).take j).drop i := by
  simp [tl, ByteArray.data_extract, List.extract_eq_take_drop, List.drop_take]
theorem tl_br (f : ByteArray) (r : Nat) : tl (br f r) = 104 :: 47 :: (tl f ++ 47 :: Lib.decDigits r) := by
  unfold br
  rw [tl_append, tl_append, tl_append, tl_dg]
  simp [tl]
theorem idx_split (l : List UInt8) (c : UInt8) : (Lib.indexByte l c = -1 ∧ c ∉ l) ∨ ∃ a b, l = a ++ c :: b ∧ c ∉ a ∧ Lib.indexByte l c = (a.length : Int) := by
  induction l with
  | nil => exact .inl ⟨rfl, by simp⟩
  | cons x r ih =>
    by_cases hx : x = c
    · subst hx
      exact .inr ⟨[], r, rfl, by simp, by simp [Lib.indexByte]⟩
    · have hb : (x == c) = false := by simpa using hx
      rcases ih with ⟨h1, h2⟩ | ⟨a, b, rfl, h2, h3⟩
      · refine .inl ⟨by simp [Lib.indexByte, hb, h1], ?_⟩
        simp only [List.mem_cons, not_or]
        exact ⟨fun e => hx e.symm, h2⟩
      · refine .inr ⟨x :: a, b, rfl, ?_, ?_⟩
        · simp only [List.mem_cons, not_or]
          exact ⟨fun e => hx e.symm, h2⟩
        · have hne : (Lib.indexByte (a ++ c :: b) c == -1) = false := by rw [h3]; simp
          show (if x == c then 0 else if Lib.indexByte (a ++ c :: b) c == -1 then -1 else Lib.indexByte (a ++ c :: b) c + 1) = _
          rw [hb, hne, h3]
          simp
theorem split_inj {a a' b b' : List UInt8} {c : UInt8} (h : a ++ c :: b = a' ++ c :: b') (h1 : c ∉ a) (h2 : c ∉ a') : a = a' ∧ b = b' := by
  induction a generalizing a' with
  | nil =>
    cases a' with
    | nil => simpa using h
    | cons y r =>
      simp only [List.nil_append, List.cons_append, List.cons.injEq] at h
      exact absurd h.1 (by simp only [List.mem_cons, not_or] at h2; exact h2.1)
  | cons x r ih =>
    cases a' with
    | nil =>
      simp only [List.nil_append, List.cons_append, List.cons.injEq] at h
      exact absurd h.1.symm (by simp only [List.mem_cons, not_or] at h1; exact h1.1)
    | cons y t =>
      simp only [List.cons_append, List.cons.injEq] at h
      simp only [List.mem_cons, not_or] at h1 h2
      obtain ⟨rfl, h3⟩ := h
      obtain ⟨rfl, rfl⟩ := ih h3 h1.2 h2.2
      exact ⟨rfl, rfl⟩
theorem nm_parts {s : ByteArray} (h : nmB s = true) : 1 ≤ s.size ∧ s.size ≤ 24 ∧ allGd s := by
  unfold nmB at h
  simp only [Bool.and_eq_true, decide_eq_true_eq, allG_iff] at h
  exact ⟨h.1.1, h.1.2, h.2⟩
theorem nm_slash {s : ByteArray} (h : nmB s = true) : (47 : UInt8) ∉ tl s := by
  intro hm
  obtain ⟨i, hi, e⟩ := List.mem_iff_getElem.1 hm
  have h2 := (nm_parts h).2.2 i hi
  have e2 : s[i] = 47 := by rw [← e]; rfl
  rw [e2] at h2
  have : gd i 47 = false := gd_bad i 47 (by decide)
  rw [this] at h2
  cases h2
/-- The key is that of the run r of the workflow f. -/
def Is (k f : ByteArray) (r : Nat) : Prop := k = br f r ∧ nmB f = true ∧ 1 ≤ r ∧ r ≤ 10
theorem dg_inj : ∀ r, r ≤ 10 → ∀ q, q ≤ 10 → Lib.decDigits r = Lib.decDigits q → r = q := by decide +kernel
theorem Is.unique {k f g : ByteArray} {r q : Nat} (h : Is k f r) (h2 : Is k g q) : f = g ∧ r = q := by
  have e : tl (br f r) = tl (br g q) := by rw [← h.1, ← h2.1]
  rw [tl_br, tl_br] at e
  simp only [List.cons.injEq, true_and] at e
  obtain ⟨e1, e2⟩ := split_inj e (nm_slash h.2.1) (nm_slash h2.2.1)
  exact ⟨tl_inj e1, dg_inj r h.2.2.2 q h2.2.2.2 e2⟩
/-- What is told of a key of a history. -/
def Says (k : ByteArray) (v : Value) : Prop :=
  (∃ f r, Is k f r ∧ v = .tuple #[.string f, .int .i64 (r : Int), .bool true]) ∨ ((∀ f r, ¬ Is k f r) ∧ v = .tuple #[.string ⟨#[]⟩, .int .i64 0, .bool false])
theorem Says.same {k : ByteArray} {v u : Value} (h : Says k v) (h2 : Says k u) : v = u := by
  rcases h with ⟨f, r, hi, rfl⟩ | ⟨hn, rfl⟩ <;> rcases h2 with ⟨g, q, hj, rfl⟩ | ⟨hm, rfl⟩
  · obtain ⟨rfl, rfl⟩ := hi.unique hj; rfl
  · exact absurd hi (hm f r)
  · exact absurd hj (hn g q)
  · rfl
/-- What is told of a key of a row. -/
def isRow (k : ByteArray) : Bool := decide (2 ≤ k.size) && decide ((tl k).take 2 = [119, 47]) && nmB (k.extract 2 k.size)
def rowV (k : ByteArray) : Value := if isRow k then .tuple #[.string (k.extract 2 k.size), .bool true] else .tuple #[.string ⟨#[]⟩, .bool false]
theorem pre_two (l : List UInt8) (a b : UInt8) : Lib.hasPrefix l [a, b] = true ↔ 2 ≤ l.length ∧ l.take 2 = [a, b] := by
  unfold Lib.hasPrefix
  match l with
  | [] => simp [List.isPrefixOf]
  | [x] => simp [List.isPrefixOf]
  | x :: y :: r => simp [List.isPrefixOf]; constructor <;> (rintro ⟨rfl, rfl⟩; exact ⟨rfl, rfl⟩)
theorem trim_two (l : List UInt8) (a b : UInt8) (h : Lib.hasPrefix l [a, b] = true) : Lib.trimPrefix l [a, b] = l.drop 2 := by
  unfold Lib.trimPrefix
  rw [if_pos h]
  rfl
theorem extract_two (k : ByteArray) : tl (k.extract 2 k.size) = (tl k).drop 2 := by
  rw [tl_extract, ← tl_len, List.take_length]
end Go.Proofs.YtglnklghhjdjbaaDoor
