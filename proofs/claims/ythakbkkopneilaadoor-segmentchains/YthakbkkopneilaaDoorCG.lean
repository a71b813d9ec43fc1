/- Which segments make a log: the chain from a base on, as a list; plain facts. -/
import Derived.Test.YthakbkkopneilaaDoorCF
namespace Go.Proofs.YthakbkkopneilaaDoor
open Go.ChangeShapes Go.WideShapes Go.ChangeAt Go.RowKit
/-- How many segments have a number above z. -/
def cnt : List Sg → Int → Nat
  | [], _ => 0
  | t :: l, z => (if z < t.n then 1 else 0) + cnt l z
theorem cnt_le : ∀ (l : List Sg) (z : Int), cnt l z ≤ l.length
  | [], _ => Nat.le_refl _
  | t :: l, z => by have := cnt_le l z; simp only [cnt, List.length_cons]; split <;> omega
theorem cnt_mono : ∀ (l : List Sg) {z y : Int}, z ≤ y → cnt l y ≤ cnt l z
  | [], _, _, _ => Nat.le_refl _
  | t :: l, z, y, h => by
    have := cnt_mono l h
    simp only [cnt]
    by_cases h1 : y < t.n
    · rw [if_pos h1, if_pos (by omega)]; omega
    · rw [if_neg h1]; omega
theorem cnt_lt : ∀ (l : List Sg) {i : Nat} {t : Sg} {z : Int}, l[i]? = some t → z < t.n → cnt l t.n < cnt l z
  | [], i, _, _, h, _ => by simp at h
  | u :: l, 0, t, z, h, hz => by
    simp at h
    subst h
    have := cnt_mono l (Int.le_of_lt hz)
    simp only [cnt]
    rw [if_neg (by omega), if_pos hz]
    omega
  | u :: l, i + 1, t, z, h, hz => by
    have := cnt_lt l (i := i) (by simpa using h) hz
    simp only [cnt]
    by_cases h1 : t.n < u.n
    · rw [if_pos h1, if_pos (by omega)]; omega
    · rw [if_neg h1]; omega
/-- Itself is not above its number. -/
theorem cnt_at : ∀ (l : List Sg) {i : Nat} {t : Sg}, l[i]? = some t → cnt l t.n + 1 ≤ l.length
  | [], i, _, h => by simp at h
  | u :: l, 0, t, h => by
    simp at h
    subst h
    have := cnt_le l u.n
    simp only [cnt, List.length_cons]
    rw [if_neg (by omega)]
    omega
  | u :: l, i + 1, t, h => by
    have := cnt_at l (i := i) (by simpa using h)
    simp only [cnt, List.length_cons]
    split <;> omega
theorem nxF_some (P : Sg → Bool) : ∀ (l : List Sg) (k b : Nat), nxF P l k = some b → k ≤ b ∧ ∃ t, l[b - k]? = some t ∧ P t = true
  | [], k, b, h => by cases h
  | t :: ts, k, b, h => by
    simp only [nxF] at h
    by_cases hp : P t = true
    · rw [if_pos hp] at h
      injection h with h
      subst h
      exact ⟨Nat.le_refl _, t, by simp, hp⟩
    · rw [if_neg hp] at h
      obtain ⟨h1, u, h2, h3⟩ := nxF_some P ts (k + 1) b h
      refine ⟨by omega, u, ?_, h3⟩
      rw [show b - k = (b - (k + 1)) + 1 by omega, List.getElem?_cons_succ]
      exact h2
theorem nxF_here {P : Sg → Bool} {l : List Sg} {b : Nat} (h : nxF P l 0 = some b) : ∃ t, l[b]? = some t ∧ P t = true := by
  obtain ⟨_, t, h1, h2⟩ := nxF_some P l 0 b h
  exact ⟨t, by simpa using h1, h2⟩
theorem go_next {s t : Sg} (h : go s t = true) : t.n = s.n + 1 := by
  simp only [go, fo, Bool.and_eq_true, beq_iff_eq] at h
  exact h.2.1.2
def chF (l : List Sg) : Nat → Nat → List Int
  | 0, _ => []
  | k + 1, a => (a : Int) :: (match l[a]? with
    | none => []
    | some s => match nxF (go s) l 0 with
      | none => []
      | some b => chF l k b)
theorem chF_eq (l : List Sg) : ∀ (k m a : Nat) (s : Sg), l[a]? = some s → cnt l s.n < k → cnt l s.n < m → chF l k a = chF l m a := by
  intro k
  induction k with
  | zero => intro m a s _ h; omega
  | succ k ih =>
    intro m a s hs h1 h2
    cases m with
    | zero => omega
    | succ m =>
      simp only [chF, hs]
      cases hn : nxF (go s) l 0 with
      | none => rfl
      | some b =>
        obtain ⟨t, ht, hg⟩ := nxF_here hn
        have := cnt_lt l (z := s.n) ht (by rw [go_next hg]; omega)
        simp only
        rw [ih m b t ht (by omega) (by omega)]
/-- The chain from a place on. -/
def chL (l : List Sg) (a : Nat) : List Int := chF l (l.length + 1) a
theorem chL_none {l : List Sg} {a : Nat} {s : Sg} (hs : l[a]? = some s) (hn : nxF (go s) l 0 = none) : chL l a = [(a : Int)] := by
  unfold chL
  simp only [chF, hs, hn]
theorem chL_some {l : List Sg} {a b : Nat} {s : Sg} (hs : l[a]? = some s) (hn : nxF (go s) l 0 = some b) : chL l a = (a : Int) :: chL l b := by
  obtain ⟨t, ht, hg⟩ := nxF_here hn
  have h1 := cnt_at l ht
  unfold chL
  have : chF l (l.length + 1) a = (a : Int) :: chF l l.length b := by
    rw [show l.length + 1 = l.length.succ from rfl]
    simp only [chF, hs, hn]
  rw [this, chF_eq l l.length (l.length + 1) b t ht (by omega) (by omega)]
/-- The chain of a list of segments. -/
def chain (l : List Sg) : List Int := match bs l l.length with
  | none => []
  | some a => chL l a
/-- The number of the segment at a place. -/
def numA (l : List Sg) (a : Nat) : Int := match l[a]? with
  | some s => s.n
  | none => 0
/-- A segment in memory, with the shapes of what the chain does not look at. -/
def SgAll (w : World) (B o : Nat) (s : Sg) : Prop := SgAt w B o s ∧ (∃ xa xn xc, w.cell? ⟨B, o + 3, none⟩ = some (.slice xa xn xc)) ∧ (∃ z, w.cell? ⟨B, o + 5, none⟩ = some (.int .i64 z))
def SrA (w : World) (v : Value) (l : List Sg) : Prop :=
  ∃ a c, v = .slice a l.length c ∧ ∀ (i : Nat) s, l[i]? = some s → ∃ B o, a = some ⟨B, o, none⟩ ∧ SgAll w B (o + i * 7) s
theorem SrA.sr {w : World} {v : Value} {l : List Sg} (h : SrA w v l) : Sr w v l := by
  obtain ⟨a, c, e, h⟩ := h
  exact ⟨a, c, e, fun i s hs => by obtain ⟨B, o, ha, h⟩ := h i s hs; exact ⟨B, o, ha, h.1⟩⟩
theorem SgAll.below {w w' : World} {B o : Nat} {s : Sg} (h : SgAll w B o s) (hb : Below w.heap.size w w') : SgAll w' B o s := by
  obtain ⟨a, ⟨xa, xn, xc, b⟩, ⟨z, c⟩⟩ := h
  exact ⟨a.below hb, ⟨xa, xn, xc, cell_below b hb⟩, ⟨z, cell_below c hb⟩⟩
theorem SrA.below {w w' : World} {v : Value} {l : List Sg} (h : SrA w v l) (hb : Below w.heap.size w w') : SrA w' v l := by
  obtain ⟨a, c, e, h⟩ := h
  exact ⟨a, c, e, fun i s hs => by obtain ⟨B, o, ha, h⟩ := h i s hs; exact ⟨B, o, ha, h.below hb⟩⟩
/-- A segment's numbers fit. -/
def SgF (s : Sg) : Prop := SgFit s ∧ -9223372036854775808 ≤ s.n ∧ s.n ≤ 9223372036854775807
/-- How the reference reckons the records behind a segment. -/
theorem lsn_eq (f : Int) (n : Nat) (hf : -9223372036854775808 ≤ f) (hf2 : f ≤ 9223372036854775807) (hn : n ≤ 9223372036854775807) : f + min (n : Int) (9223372036854775807 - max f 0) = (bh f n).1 := by
  unfold bh
  split <;> simp only <;> omega
end Go.Proofs.YthakbkkopneilaaDoor
