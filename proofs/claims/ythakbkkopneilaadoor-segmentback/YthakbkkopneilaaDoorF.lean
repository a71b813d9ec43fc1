/- A slice of bytes and its parts; a number's four bytes and the number of four bytes (putWord, word, four, number); Size; bytes.Equal. -/
import Derived.Test.YthakbkkopneilaaDoorE
namespace Go.Proofs.YthakbkkopneilaaDoor
open Go.ChangeShapes Go.WideShapes Go.ChangeAt Go.RowKit
theorem z5 (w : World) : (Go.sizeOf 5).run Tryd.prog w = .ok 1 w := by kernel_rfl
theorem elem22 : Tryd.prog.elem 22 = 5 := by kernel_rfl
theorem und22 : Tryd.prog.underlying 22 = some (.slice (Tryd.prog.elem 22)) := by kernel_rfl
/-- v holds the bytes l, and has no less room than these. -/
def Hb (w : World) (v : Value) (l : List UInt8) : Prop :=
  ∃ p c, v = .slice p l.length c ∧ l.length ≤ c ∧ Lib.HoldsBytes w (.slice p l.length c) l
theorem Hb.holds {w : World} {v : Value} {l : List UInt8} (h : Hb w v l) : Lib.HoldsBytes w v l := by
  obtain ⟨p, c, rfl, _, h⟩ := h; exact h
theorem Hb.below {w w' : World} {v : Value} {l : List UInt8} (h : Hb w v l) (hb : Below w.heap.size w w') : Hb w' v l := by
  obtain ⟨p, c, rfl, h1, h⟩ := h
  exact ⟨p, c, rfl, h1, holds_below h hb⟩
theorem Own.hb {B : Nat} {w : World} {v : Value} {l : List UInt8} (h : Own B w v l) : Hb w v l := by
  have hh := h.holds
  obtain ⟨_, ⟨rfl, h2⟩ | ⟨g, cap, cur, rfl, _, hg, hle, _, hc, ht⟩⟩ := h
  · exact ⟨none, 0, by rw [h2], by omega, by rw [h2]; exact hh⟩
  · exact ⟨_, _, rfl, hle, hh⟩
theorem Hb.nil (w : World) : Hb w (.slice none 0 0) [] := ⟨none, 0, rfl, by simp, holds_nil w⟩
theorem plain_addr {w : World} {a : Addr} {v : Value} (h : w.cell? a = some v) : a.spot = none := by
  obtain ⟨b, o, s⟩ := a
  unfold World.cell? at h
  cases s with
  | none => rfl
  | some k => split at h <;> simp at h
theorem add_add (a : Addr) (i k : Nat) : (a.add i).add k = a.add (i + k) := by
  obtain ⟨b, o, s⟩ := a
  unfold Addr.add
  by_cases h1 : i = 0 <;> by_cases h2 : k = 0 <;> simp [h1, h2, Nat.add_assoc]
/-- Where bytes lie that are some. -/
theorem Hb.place {w : World} {v : Value} {l : List UInt8} (h : Hb w v l) (hl : 0 < l.length) : ∃ B o c, v = .slice (some ⟨B, o, none⟩) l.length c ∧ l.length ≤ c ∧ ∀ (i : Nat) x, l[i]? = some x → w.cell? ⟨B, o + i, none⟩ = some (.int .u8 (x.toNat : Int)) := by
  obtain ⟨p, c, rfl, h1, p', c', e, q1, q2⟩ := h
  cases e
  cases p with
  | none => have := q1 rfl; subst this; simp at hl
  | some a =>
    have h0 := q2 a rfl 0 l[0] (List.getElem?_eq_getElem hl)
    have hs : a.spot = none := by
      have := plain_addr h0
      obtain ⟨b, o, s⟩ := a
      simpa [Addr.add] using this
    obtain ⟨b, o, s⟩ := a
    subst hs
    exact ⟨b, o, c, rfl, h1, fun i x hx => by have := q2 _ rfl i x hx; rwa [add_plain] at this⟩
theorem Hb.of {w : World} {B o n c : Nat} {l : List UInt8} (hn : n = l.length) (hc : n ≤ c) (h : ∀ (i : Nat) x, l[i]? = some x → w.cell? ⟨B, o + i, none⟩ = some (.int .u8 (x.toNat : Int))) : Hb w (.slice (some ⟨B, o, none⟩) n c) l := by
  subst hn
  exact ⟨_, _, rfl, hc, _, _, rfl, (fun h => by cases h), fun a ha i x hx => by cases ha; rw [add_plain]; exact h i x hx⟩
/-- b[i:j]. -/
theorem cut_lh {w : World} {v : Value} {l : List UInt8} (i j : Nat) (h : Hb w v l) (hij : i ≤ j) (hj : j ≤ l.length) :
    ∃ v', (∀ W, (Instr.slice 22 v (some (.int .i64 (i : Int))) (some (.int .i64 (j : Int))) none).run Tryd.prog W = .ok v' W) ∧ (∀ W, Hb W v l → Hb W v' ((l.take j).drop i)) := by
  obtain ⟨p, c, rfl, h1, _⟩ := h
  refine ⟨_, fun W => by rw [run_slice_lh W 22 p l.length c und22 .i64 .i64 i j (by omega) (by omega) (by omega), elem22, z5]; rfl, ?_⟩
  rintro W ⟨p', c', e, _, q⟩
  simp only [Value.slice.injEq] at e
  obtain ⟨rfl, _, rfl⟩ := e
  obtain ⟨p', c', e, q1, q2⟩ := q
  cases e
  unfold sliced
  have hlen : ((l.take j).drop i).length = j - i := by simp; omega
  refine ⟨if c = i then p else p.map (·.add (i * 1)), c - i, ?_, by rw [hlen]; omega, ?_⟩
  · rw [hlen]; simp
  · refine ⟨_, _, rfl, ?_, ?_⟩
    · intro hp
      have : p = none ∨ c = i := by
        by_cases hc : c = i
        · exact .inr hc
        · rw [if_neg hc] at hp; cases p <;> simp_all
      rcases this with rfl | rfl
      · rw [q1 rfl]; simp
      · apply List.eq_nil_of_length_eq_zero; rw [hlen]; omega
    · intro a ha k x hx
      have hk : k < j - i := by have := (List.getElem?_eq_some_iff.1 hx).1; omega
      rw [if_neg (by omega)] at ha
      cases p with
      | none => cases ha
      | some b =>
        simp only [Option.map_some, Option.some.injEq] at ha
        subst ha
        have hx2 : l[i + k]? = some x := by
          rw [List.getElem?_drop, List.getElem?_take_of_lt (by omega)] at hx; exact hx
        have h0 := q2 b rfl (i + k) x hx2
        rw [add_add, Nat.mul_one]
        exact h0
/-- b[i:]. -/
theorem cut_l {w : World} {v : Value} {l : List UInt8} (i : Nat) (h : Hb w v l) (hi : i ≤ l.length) :
    ∃ v', (∀ W, (Instr.slice 22 v (some (.int .i64 (i : Int))) none none).run Tryd.prog W = .ok v' W) ∧ (∀ W, Hb W v l → Hb W v' (l.drop i)) := by
  obtain ⟨v', e, q⟩ := cut_lh i l.length h hi (Nat.le_refl _)
  obtain ⟨p, c, rfl, h1, _⟩ := h
  refine ⟨v', fun W => ?_, fun W hW => by have := q W hW; rwa [List.take_length] at this⟩
  rw [← e W, run_slice_l W 22 p l.length c und22 .i64 i (by omega) (by omega), run_slice_lh W 22 p l.length c und22 .i64 .i64 i l.length (by omega) (by omega) (by omega)]
  simp
end Go.Proofs.YthakbkkopneilaaDoor
