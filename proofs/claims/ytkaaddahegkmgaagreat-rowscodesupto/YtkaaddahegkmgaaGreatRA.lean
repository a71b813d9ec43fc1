/- Lists of structs in memory, whatever the structs are: lists that are read, lists that grow. -/
import Derived.Test.YtkaaddahegkmgaaGreatBA
import Derived.Lib.AppendZerosOnto
import Derived.Laws.CopyRow
namespace Go.Proofs.YtkaaddahegkmgaaGreat
open Go.ChangeShapes Go.WideShapes Go.ChangeAt Go.RowKit
/-- A kind of items: K cells of the type ty each; when cells are the item x, what lies elsewhere being in blocks of which P holds. -/
structure El (α : Type) where
  K : Nat
  ty : TypeId
  I : (Nat → Prop) → World → List Value → α → Prop
  len : ∀ {P : Nat → Prop} {w : World} {cs : List Value} {x : α}, I P w cs x → cs.length = K
  one : ∀ {P : Nat → Prop} {w : World} {cs : List Value} {x : α}, I P w cs x → ∀ z ∈ cs, z.oneCell' = true
  keep : ∀ {P P' : Nat → Prop} {w w' : World} {cs : List Value} {x : α}, I P w cs x → (∀ B, P B → B < w.heap.size → w'.heap[B]? = w.heap[B]? ∧ P' B) → I P' w' cs x
variable {α : Type} {E : El α}
/-- Items that lie one behind the other, in blocks of which P holds. -/
def Ls (E : El α) (P : Nat → Prop) (w : World) (a : Option Addr) (xs : List α) : Prop :=
  ∀ (i : Nat) x, xs[i]? = some x → ∃ B o cs, a = some ⟨B, o, none⟩ ∧ (0 < E.K → P B) ∧ (∀ r z, cs[r]? = some z → w.cell? ⟨B, o + i * E.K + r, none⟩ = some z) ∧ E.I P w cs x
theorem Ls.keep {P P' : Nat → Prop} {w w' : World} {a : Option Addr} {xs : List α} (h : Ls E P w a xs) (hk : ∀ B, P B → B < w.heap.size → w'.heap[B]? = w.heap[B]? ∧ P' B) : Ls E P' w' a xs := fun i x hx => by
  obtain ⟨B, o, cs, ha, hB, h5, hi⟩ := h i x hx
  have hl := E.len hi
  refine ⟨B, o, cs, ha, fun h0 => ?_, fun r z hz => ?_, E.keep hi hk⟩
  · have hz : cs[0]? = some cs[0] := List.getElem?_eq_getElem (by omega)
    exact (hk B (hB h0) (World.block_lt_of_cell? w _ (h5 0 _ hz))).2
  · have h0 : 0 < E.K := by have := (List.getElem?_eq_some_iff.1 hz).1; omega
    have hc := h5 r z hz
    exact (World.cell?_of_block (hk B (hB h0) (World.block_lt_of_cell? w _ hc)).1).trans hc
theorem Ls.below {P : Nat → Prop} {w w' : World} {a : Option Addr} {xs : List α} (h : Ls E P w a xs) (hb : Below w.heap.size w w') : Ls E P w' a xs := h.keep fun B hB hl => ⟨hb.block B hl, hB⟩
theorem Ls.nil (P : Nat → Prop) (w : World) (a : Option Addr) : Ls E P w a [] := fun i x h => by simp at h
/-- A slice of items. -/
def Sl (E : El α) (P : Nat → Prop) (w : World) (v : Value) (xs : List α) : Prop := ∃ a c, v = .slice a xs.length c ∧ xs.length ≤ c ∧ c ≤ 9223372036854775807 ∧ Ls E P w a xs
theorem Sl.keep {P P' : Nat → Prop} {w w' : World} {v : Value} {xs : List α} (h : Sl E P w v xs) (hk : ∀ B, P B → B < w.heap.size → w'.heap[B]? = w.heap[B]? ∧ P' B) : Sl E P' w' v xs := by
  obtain ⟨a, c, hv, h1, h2, h3⟩ := h
  exact ⟨a, c, hv, h1, h2, h3.keep hk⟩
theorem Sl.below {P : Nat → Prop} {w w' : World} {v : Value} {xs : List α} (h : Sl E P w v xs) (hb : Below w.heap.size w w') : Sl E P w' v xs := h.keep fun B hB hl => ⟨hb.block B hl, hB⟩
theorem Sl.nil (P : Nat → Prop) (w : World) : Sl E P w (.slice none 0 0) [] := ⟨none, 0, rfl, Nat.le_refl _, by omega, Ls.nil _ _ _⟩
theorem Sl.one {P : Nat → Prop} {w : World} {v : Value} {xs : List α} (h : Sl E P w v xs) : v.oneCell' = true := by
  obtain ⟨a, c, rfl, _⟩ := h
  rfl
theorem row_kept {lo k : Nat} {w w' : World} {u : Value} {cells : List Value} {e : TypeId} {size : Nat} (h : w.ownsRow lo e size u k cells) (hk : ∀ B, u.ownBlock = some B → w'.heap[B]? = w.heap[B]?) : w'.ownsRow lo e size u k cells := by
  obtain ⟨h1, h2 | ⟨g, cap, cur, rfl, hB, hg, r⟩⟩ := h
  · exact ⟨h1, .inl h2⟩
  · exact ⟨h1, .inr ⟨g, cap, cur, rfl, hB, by rw [hk g rfl]; exact hg, r⟩⟩
theorem idx_lt {i n r K : Nat} (hi : i < n) (hr : r < K) : i * K + r < n * K := by
  have := Nat.mul_le_mul_right K (show i + 1 ≤ n from hi)
  rw [Nat.succ_mul] at this
  omega
/-- A list of the call's own, in a block from lo on; what its items have lies in blocks of which Q holds, and not in the list's. -/
def Gr (E : El α) (lo : Nat) (Q : Nat → Prop) (w : World) (u : Value) (xs : List α) : Prop :=
  ∃ cells, w.ownsRow lo E.ty E.K u xs.length cells ∧ ∀ (i : Nat) x, xs[i]? = some x → ∃ cs, (∀ r z, cs[r]? = some z → cells[i * E.K + r]? = some z) ∧ E.I (fun B => Q B ∧ u.ownBlock ≠ some B) w cs x
theorem Gr.nil (lo : Nat) (Q : Nat → Prop) (w : World) : Gr E lo Q w (.slice none 0 0) [] := ⟨[], World.ownsRow_nil _ _ _ _, fun i t h => by simp at h⟩
theorem Gr.keep {lo : Nat} {Q Q' : Nat → Prop} {w w' : World} {u : Value} {xs : List α} (h : Gr E lo Q w u xs) (hu : ∀ B, u.ownBlock = some B → w'.heap[B]? = w.heap[B]?) (hk : ∀ B, Q B → B < w.heap.size → w'.heap[B]? = w.heap[B]? ∧ Q' B) : Gr E lo Q' w' u xs := by
  obtain ⟨cells, ho, hc⟩ := h
  refine ⟨cells, row_kept ho hu, fun i t ht => ?_⟩
  obtain ⟨cs, e0, hi⟩ := hc i t ht
  exact ⟨cs, e0, E.keep hi (fun B hB hl => ⟨(hk B hB.1 hl).1, (hk B hB.1 hl).2, hB.2⟩)⟩
theorem Gr.lt {lo : Nat} {Q : Nat → Prop} {w : World} {u : Value} {xs : List α} (h : Gr E lo Q w u xs) : ∀ B, u.ownBlock = some B → lo ≤ B ∧ B < w.heap.size := fun B hB => by
  obtain ⟨cells, ho, _⟩ := h
  exact World.ownsRow.lt ho B hB
theorem Gr.below {lo : Nat} {Q : Nat → Prop} {w w' : World} {u : Value} {xs : List α} (h : Gr E lo Q w u xs) (hb : Below w.heap.size w w') : Gr E lo Q w' u xs := h.keep (fun B hB => hb.block B (h.lt B hB).2) (fun B hB hl => ⟨hb.block B hl, hB⟩)
theorem Gr.shape {lo : Nat} {Q : Nat → Prop} {w : World} {u : Value} {xs : List α} (h : Gr E lo Q w u xs) : ∃ a c, u = .slice a xs.length c ∧ xs.length ≤ c ∧ c ≤ 9223372036854775807 := by
  obtain ⟨_, ⟨_, ⟨rfl, h2⟩ | ⟨g, cap, cur, rfl, _, _, hle, hm, _⟩⟩, _⟩ := h
  · exact ⟨none, 0, by rw [h2], by omega, by omega⟩
  · unfold maxLen at hm
    exact ⟨_, _, rfl, hle, by omega⟩
theorem Gr.ls {lo : Nat} {Q P : Nat → Prop} {w : World} {a : Option Addr} {k c : Nat} {xs : List α} (h : Gr E lo Q w (.slice a k c) xs) (hP : ∀ B, (Q B ∨ lo ≤ B) → P B) : Ls E P w a xs := by
  obtain ⟨cells, ho, hc⟩ := h
  intro i x hx
  have hlt : i < xs.length := (List.getElem?_eq_some_iff.1 hx).1
  obtain ⟨cs, e0, hi⟩ := hc i x hx
  have ho2 := ho
  obtain ⟨_, ⟨hu, h2⟩ | ⟨g, cap, cur, hu, hB, _⟩⟩ := ho
  · omega
  · cases hu
    refine ⟨g, 0, cs, rfl, fun _ => hP g (.inr hB), fun r z hz => ?_, E.keep hi (fun B hB _ => ⟨rfl, hP B (.inl hB.1)⟩)⟩
    have hr : r < E.K := by have h1 := (List.getElem?_eq_some_iff.1 hz).1; have h2 := E.len hi; omega
    rw [Nat.zero_add, World.ownsRow.cellAt ho2 (i * E.K + r) (idx_lt hlt hr), e0 r z hz]
theorem Gr.sl {lo : Nat} {Q P : Nat → Prop} {w : World} {u : Value} {xs : List α} (h : Gr E lo Q w u xs) (hP : ∀ B, (Q B ∨ lo ≤ B) → P B) : Sl E P w u xs := by
  obtain ⟨a, c, rfl, h1, h2⟩ := h.shape
  exact ⟨a, c, rfl, h1, h2, h.ls hP⟩
/-- The cells of a row with others put in. -/
theorem rows_ins {K : Nat} {xs : List α} {x : α} {cells news : List Value} {i : Nat} {Q Q' : List Value → α → Prop} (hi : i ≤ xs.length) (hcl : cells.length = xs.length * K) (hnl : news.length = K)
    (hc : ∀ (j : Nat) y, xs[j]? = some y → ∃ cs : List Value, cs.length = K ∧ (∀ k c, cs[k]? = some c → cells[j * K + k]? = some c) ∧ Q cs y) (hQ : ∀ cs y, Q cs y → Q' cs y) (hx : Q' news x) :
    ∀ (j : Nat) y, (xs.take i ++ x :: xs.drop i)[j]? = some y → ∃ cs : List Value, cs.length = K ∧ (∀ k c, cs[k]? = some c → (cells.take (i * K) ++ (news ++ cells.drop (i * K)))[j * K + k]? = some c) ∧ Q' cs y := by
  intro j y hy
  have hm := Nat.mul_le_mul_right K hi
  have l1 : (xs.take i).length = i := by rw [List.length_take]; omega
  have l2 : (cells.take (i * K)).length = i * K := by rw [List.length_take]; omega
  by_cases h1 : j < i
  · rw [List.getElem?_append_left (by omega), List.getElem?_take_of_lt h1] at hy
    obtain ⟨cs, h0, h2, hq⟩ := hc j y hy
    refine ⟨cs, h0, fun k c hk => ?_, hQ _ _ hq⟩
    have hk4 : k < K := by have := (List.getElem?_eq_some_iff.1 hk).1; omega
    have hj := idx_lt h1 hk4
    rw [List.getElem?_append_left (by omega), List.getElem?_take_of_lt (by omega)]
    exact h2 k c hk
  · rw [List.getElem?_append_right (by omega), l1] at hy
    by_cases h3 : j = i
    · subst h3
      rw [Nat.sub_self] at hy
      simp only [List.getElem?_cons_zero, Option.some.injEq] at hy
      subst hy
      refine ⟨news, hnl, fun k c hk => ?_, hx⟩
      have hk4 : k < K := by have := (List.getElem?_eq_some_iff.1 hk).1; omega
      rw [List.getElem?_append_right (by omega), l2, Nat.add_sub_cancel_left, List.getElem?_append_left (by omega)]
      exact hk
    · obtain ⟨q, hq⟩ : ∃ q, j - i = q + 1 := ⟨j - i - 1, by omega⟩
      obtain rfl : j = i + q + 1 := by omega
      rw [hq, List.getElem?_cons_succ, List.getElem?_drop] at hy
      obtain ⟨cs, h0, h2, hqq⟩ := hc (i + q) y hy
      refine ⟨cs, h0, fun k c hk => ?_, hQ _ _ hqq⟩
      have hk4 : k < K := by have := (List.getElem?_eq_some_iff.1 hk).1; omega
      have e1 : (i + q + 1) * K = i * K + q * K + K := by rw [Nat.add_mul, Nat.add_mul, Nat.one_mul]
      have e2 : (i + q) * K = i * K + q * K := Nat.add_mul _ _ _
      rw [List.getElem?_append_right (by omega), l2, List.getElem?_append_right (by omega), List.getElem?_drop, hnl, ← h2 k c hk]
      congr 1
      omega
/-- A list with one item put in at i: what Insert of one gives. -/
theorem Gr.ins {lo i : Nat} {Q : Nat → Prop} {w w' : World} {u v : Value} {xs : List α} {x : α} {cells news : List Value} (ho : w.ownsRow lo E.ty E.K u xs.length cells)
    (hc : ∀ (i : Nat) x, xs[i]? = some x → ∃ cs, (∀ r z, cs[r]? = some z → cells[i * E.K + r]? = some z) ∧ E.I (fun B => Q B ∧ u.ownBlock ≠ some B) w cs x) (hi : i ≤ xs.length)
    (hx : E.I (fun B => Q B ∧ u.ownBlock ≠ some B) w news x) (hown : w'.ownsRow lo E.ty E.K v (xs.length + 1) (cells.take (i * E.K) ++ (news ++ cells.drop (i * E.K))))
    (hk : ∀ B, B < w.heap.size → u.ownBlock ≠ some B → w'.heap[B]? = w.heap[B]?) (hv : v.ownBlock = u.ownBlock ∨ v.ownBlock = some w.heap.size) : Gr E lo Q w' v (xs.take i ++ x :: xs.drop i) := by
  have hold : ∀ {cs : List Value} {y : α}, E.I (fun B => Q B ∧ u.ownBlock ≠ some B) w cs y → E.I (fun B => Q B ∧ v.ownBlock ≠ some B) w' cs y := fun h => E.keep h (fun B hB hl => ⟨hk B hl hB.2, hB.1, by
    rcases hv with e | e
    · rw [e]; exact hB.2
    · rw [e]; intro e2; injection e2 with e2; omega⟩)
  have key := rows_ins (K := E.K) (x := x) (news := news) (Q := fun cs y => E.I (fun B => Q B ∧ u.ownBlock ≠ some B) w cs y) (Q' := fun cs y => E.I (fun B => Q B ∧ v.ownBlock ≠ some B) w' cs y) hi ho.1 (E.len hx) (fun j y hy => by
    obtain ⟨cs, e0, h⟩ := hc j y hy
    exact ⟨cs, E.len h, e0, h⟩) (fun _ _ h => hold h) (hold hx)
  have hl : (xs.take i ++ x :: xs.drop i).length = xs.length + 1 := by simp; omega
  refine ⟨_, by rw [hl]; exact hown, fun j y hy => ?_⟩
  obtain ⟨cs, _, h1, h2⟩ := key j y hy
  exact ⟨cs, h1, h2⟩
end Go.Proofs.YtkaaddahegkmgaaGreat
