/- The order of values is one: the other way about, and through. Plain facts. -/
import Derived.Test.YtobblioplfpndaaVO
namespace Go.Proofs.Ytobblioplfpndaa
/-- An order that answers -1, 0, 1. -/
structure Ord3 {α : Type} (f : α → α → Int) : Prop where
  three : ∀ a b, f a b = -1 ∨ f a b = 0 ∨ f a b = 1
  turn : ∀ a b, f b a = -(f a b)
  trans : ∀ a b c, f a b ≤ 0 → f b c ≤ 0 → f a c ≤ 0 ∧ (f a b < 0 → f a c < 0) ∧ (f b c < 0 → f a c < 0) ∧ (f a b = 0 → f b c = 0 → f a c = 0)
theorem ord3_cmp3 : Ord3 cmp3 := by
  refine ⟨fun a b => ?_, fun a b => ?_, fun a b c => ?_⟩ <;> unfold cmp3 <;> (repeat' split) <;> omega
theorem Ord3.comap {α β : Type} {f : α → α → Int} (h : Ord3 f) (g : β → α) : Ord3 (fun a b => f (g a) (g b)) := ⟨fun _ _ => h.three _ _, fun _ _ => h.turn _ _, fun _ _ _ => h.trans _ _ _⟩
theorem Ord3.comb {α : Type} {f g : α → α → Int} (hf : Ord3 f) (hg : Ord3 g) : Ord3 (fun a b => if f a b != 0 then f a b else g a b) := by
  refine ⟨fun a b => ?_, fun a b => ?_, fun a b c => ?_⟩
  · have h1 := hf.three a b
    have h2 := hg.three a b
    by_cases h : f a b = 0 <;> simp [h] <;> omega
  · have h1 := hf.turn a b
    have h2 := hg.turn a b
    by_cases h : f a b = 0
    · have h3 : f b a = 0 := by omega
      simp [h, h3, h2]
    · simp [h, h1]
  · have h1 := hf.trans a b c
    have h2 := hg.trans a b c
    have h3 := hf.three a b
    have h4 := hf.three b c
    by_cases e1 : f a b = 0 <;> by_cases e2 : f b c = 0 <;> by_cases e3 : f a c = 0 <;> simp [e1, e2, e3] <;> simp [e1, e2, e3] at h1 <;> omega
theorem ord3_od : Ord3 od := ⟨od_three, od_turn, fun a b c h1 h2 => od_trans a b c h1 h2⟩
def lexA {α : Type} (f : α → α → Int) : List α → List α → Int
  | [], [] => 0
  | [], _ :: _ => -1
  | _ :: _, [] => 1
  | a :: l, b :: m => if f a b != 0 then f a b else lexA f l m
theorem ord3_lex {α : Type} {f : α → α → Int} (h : Ord3 f) : Ord3 (lexA f) := by
  refine ⟨fun a => ?_, fun a => ?_, fun a => ?_⟩
  · induction a with
    | nil => intro b; cases b <;> simp [lexA]
    | cons x l ih =>
      intro b
      cases b with
      | nil => simp [lexA]
      | cons y m =>
        have h1 := h.three x y
        have h2 := ih m
        by_cases e : f x y = 0 <;> simp [lexA, e] <;> omega
  · induction a with
    | nil => intro b; cases b <;> simp [lexA]
    | cons x l ih =>
      intro b
      cases b with
      | nil => simp [lexA]
      | cons y m =>
        have h1 := h.turn x y
        have h2 := ih m
        by_cases e : f x y = 0
        · have e2 : f y x = 0 := by omega
          simp [lexA, e, e2, h2]
        · simp [lexA, e, h1]
  · induction a with
    | nil => intro b c; cases b <;> cases c <;> simp [lexA]
    | cons x l ih =>
      intro b c
      cases b with
      | nil => cases c <;> simp [lexA]
      | cons y m =>
        cases c with
        | nil => simp [lexA]
        | cons z k =>
          have h1 := h.trans x y z
          have h2 := ih m k
          have h3 := h.three x y
          have h4 := h.three y z
          by_cases e1 : f x y = 0 <;> by_cases e2 : f y z = 0 <;> by_cases e3 : f x z = 0 <;> simp [lexA, e1, e2, e3] <;> simp [e1, e2, e3] at h1 <;> omega
def cu (a b : UInt8) : Int := if a < b then -1 else if b < a then 1 else 0
theorem ord3_cu : Ord3 cu := by
  refine ⟨fun a b => ?_, fun a b => ?_, fun a b c => ?_⟩ <;> unfold cu <;> simp only [UInt8.lt_iff_toNat_lt] <;> (repeat' split) <;> omega
theorem compareBytes_lex : ∀ (a b : List UInt8), Lib.compareBytes a b = lexA cu a b
  | [], [] => rfl
  | [], _ :: _ => rfl
  | _ :: _, [] => rfl
  | x :: a, y :: b => by
    simp only [Lib.compareBytes, lexA, compareBytes_lex a b]
    unfold cu
    split <;> simp
    split <;> simp
theorem lexA_zero {α : Type} {f : α → α → Int} : ∀ {a b : List α}, (∀ x ∈ a, ∀ y ∈ b, f x y = 0 ↔ x = y) → (lexA f a b = 0 ↔ a = b)
  | [], [], _ => by simp [lexA]
  | [], _ :: _, _ => by simp [lexA]
  | _ :: _, [], _ => by simp [lexA]
  | x :: a, y :: b, h => by
    have h1 := h x (by simp) y (by simp)
    have h2 := lexA_zero (a := a) (b := b) (f := f) (fun x hx y hy => h x (by simp [hx]) y (by simp [hy]))
    by_cases e : f x y = 0
    · have hx := h1.mp e
      subst hx
      simp [lexA, e, h2]
    · have : x ≠ y := fun hh => e (h1.mpr hh)
      simp [lexA, e, this]
theorem cu_zero (x y : UInt8) : cu x y = 0 ↔ x = y := by
  unfold cu
  simp only [UInt8.lt_iff_toNat_lt, ← UInt8.toNat_inj]
  (repeat' split) <;> omega
theorem compareBytes_zero (a b : List UInt8) : Lib.compareBytes a b = 0 ↔ a = b := by
  rw [compareBytes_lex]
  exact lexA_zero (fun x _ y _ => cu_zero x y)
theorem ord3_bytes : Ord3 Lib.compareBytes := by
  have h := ord3_lex ord3_cu
  have e : Lib.compareBytes = lexA cu := by funext a b; exact compareBytes_lex a b
  rw [e]
  exact h
theorem lex_eq (f : Tv → Tv → Int) : ∀ (a b : List Tv), lex f a b = lexA f a b
  | [], [] => rfl
  | [], _ :: _ => rfl
  | _ :: _, [] => rfl
  | x :: a, y :: b => by simp only [lex, lexA, lex_eq f a b]
def Tv.kk : Tv → Int | .mk k _ _ _ _ => k
def Tv.xx : Tv → Int | .mk _ x _ _ _ => x
def Tv.bb : Tv → Nat | .mk _ _ b _ _ => b.toNat
def Tv.ss : Tv → List UInt8 | .mk _ _ _ s _ => s.data.toList
def Tv.ll : Tv → List Tv | .mk _ _ _ _ l => l
theorem ord3_ordT : ∀ n, Ord3 (ordT n)
  | 0 => ⟨fun _ _ => .inr (.inl rfl), fun _ _ => rfl, fun _ _ _ _ _ => ⟨Int.le_refl _, fun h => h, fun h => h, fun _ h => h⟩⟩
  | n + 1 => by
    have ih := ord3_ordT n
    have h := (ord3_cmp3.comap Tv.kk).comb ((ord3_cmp3.comap Tv.xx).comb ((ord3_od.comap Tv.bb).comb (ord3_bytes.comap Tv.ss)))
    have h2 := h.comb ((ord3_lex ih).comap Tv.ll)
    refine cast (congrArg Ord3 ?_) h2
    funext ⟨k, x, b, s, l⟩ ⟨k2, x2, b2, s2, l2⟩
    simp only [ordT, or4, lex_eq, Tv.kk, Tv.xx, Tv.bb, Tv.ss, Tv.ll]
    rfl
theorem cmp3_zero (a b : Int) : cmp3 a b = 0 ↔ a = b := by
  unfold cmp3
  (repeat' split) <;> omega
theorem or4_zero (a b c d : Int) : or4 a b c d = 0 ↔ a = 0 ∧ b = 0 ∧ c = 0 ∧ d = 0 := by
  unfold or4
  simp only [bne_iff_ne, ne_eq, ite_not]
  (repeat' split) <;> simp_all
theorem ba_eq {s s2 : ByteArray} (h : s.data.toList = s2.data.toList) : s = s2 := by
  cases s; cases s2; simp at h; simp [h]
theorem ordT_zero {w : World} : ∀ (n : Nat) (v : Value) (t : Tv) (v2 : Value) (t2 : Tv) (d d2 : Int), Is w n v t → Is w n v2 t2 → ShapeT n d t → ShapeT n d2 t2 → (ordT n t t2 = 0 ↔ t = t2) := by
  intro n
  induction n with
  | zero => intro v t v2 t2 d d2 h; exact h.elim
  | succ n ih =>
    rintro v ⟨k, x, b, s, l⟩ v2 ⟨k2, x2, b2, s2, l2⟩ d d2 ⟨a, c, rfl, hf, hr⟩ ⟨a2, c2, rfl, hf2, hr2⟩ ⟨hS, _, hl⟩ ⟨hS2, _, hl2⟩
    have hb : od b.toNat b2.toNat = 0 ↔ b = b2 := by
      have e1 : cn b.toNat = b.toNat := hS.2.2.2.2.1
      have e2 : cn b2.toNat = b2.toNat := hS2.2.2.2.2.1
      have := hf.b0; have := hf.b1; have := hf2.b0; have := hf2.b1
      unfold od
      rw [cmp3_zero, ← cn_eq b.toNat b2.toNat (by omega) (by omega), e1, e2]
      omega
    have hl0 : lexA (ordT n) l l2 = 0 ↔ l = l2 := by
      refine lexA_zero fun p hp q hq => ?_
      obtain ⟨i, hi, rfl⟩ := List.getElem_of_mem hp
      obtain ⟨j, hj, rfl⟩ := List.getElem_of_mem hq
      obtain ⟨_, _, _, _, _, _, _, _, _, i1⟩ := hr i _ (List.getElem?_eq_getElem hi)
      obtain ⟨_, _, _, _, _, _, _, _, _, i2⟩ := hr2 j _ (List.getElem?_eq_getElem hj)
      exact ih _ _ _ _ _ _ i1 i2 (hl i _ (List.getElem?_eq_getElem hi)) (hl2 j _ (List.getElem?_eq_getElem hj))
    have key := or4_zero (cmp3 k k2) (cmp3 x x2) (od b.toNat b2.toNat) (Lib.compareBytes s.data.toList s2.data.toList)
    rw [cmp3_zero, cmp3_zero, hb, compareBytes_zero] at key
    simp only [ordT, lex_eq, bne_iff_ne, ne_eq, ite_not, Tv.mk.injEq]
    split
    · rename_i h0
      obtain ⟨r1, r2, r3, r4⟩ := key.mp h0
      rw [hl0]
      simp [r1, r2, r3, ba_eq r4]
    · rename_i h0
      constructor
      · intro h; exact absurd h h0
      · rintro ⟨r1, r2, r3, r4, _⟩
        exact absurd (key.mpr ⟨r1, r2, r3, by rw [r4]⟩) h0
end Go.Proofs.Ytobblioplfpndaa
