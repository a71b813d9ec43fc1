/- Steps in memory: a step, a list of steps that is read, a list of steps that grows. -/
import Derived.Test.YtimiklekajelfaaSA5
namespace Go.Proofs.Ytimiklekajelfaa
open Go.ChangeShapes Go.WideShapes Go.ChangeAt Go.RowKit
/-- A step: its kind, its session, its number, its bytes, its keeps. -/
structure Sp where
  k : Int
  s : Int
  n : Int
  b : List UInt8
  ks : List Int
theorem Sp.ext' {x y : Sp} (h1 : x.k = y.k) (h2 : x.s = y.s) (h3 : x.n = y.n) (h4 : x.b = y.b) (h5 : x.ks = y.ks) : x = y := by
  cases x; cases y; simp_all
def eb (x : UInt8) : Value := .int .u8 (x.toNat : Int)
def ei (z : Int) : Value := .int .i64 z
/-- A slice whose items, in blocks of which P holds, are l. -/
def HL {α : Type} (enc : α → Value) (P : Nat → Prop) (w : World) (v : Value) (l : List α) : Prop :=
  ∃ p c, v = .slice p l.length c ∧ l.length ≤ c ∧ c ≤ 9223372036854775807 ∧ ∀ (i : Nat) x, l[i]? = some x → ∃ B o, p = some ⟨B, o, none⟩ ∧ P B ∧ w.cell? ⟨B, o + i, none⟩ = some (enc x)
theorem HL.keep {α : Type} {enc : α → Value} {P P' : Nat → Prop} {w w' : World} {v : Value} {l : List α} (h : HL enc P w v l) (hk : ∀ B, P B → B < w.heap.size → w'.heap[B]? = w.heap[B]? ∧ P' B) : HL enc P' w' v l := by
  obtain ⟨p, c, hv, h1, h2, h3⟩ := h
  refine ⟨p, c, hv, h1, h2, fun i x hx => ?_⟩
  obtain ⟨B, o, hp, hB, hc⟩ := h3 i x hx
  have hb := hk B hB (World.block_lt_of_cell? w ⟨B, o + i, none⟩ hc)
  exact ⟨B, o, hp, hb.2, (World.cell?_of_block hb.1).trans hc⟩
theorem HL.below {α : Type} {enc : α → Value} {P : Nat → Prop} {w w' : World} {v : Value} {l : List α} (h : HL enc P w v l) (hb : Below w.heap.size w w') : HL enc P w' v l := h.keep fun B hB hl => ⟨hb.block B hl, hB⟩
theorem HL.all {α : Type} {enc : α → Value} {P P' : Nat → Prop} {w : World} {v : Value} {l : List α} (h : HL enc P w v l) (hk : ∀ B, P B → B < w.heap.size → P' B) : HL enc P' w v l := h.keep fun B hB hl => ⟨rfl, hk B hB hl⟩
theorem HL.nil {α : Type} (enc : α → Value) (P : Nat → Prop) (w : World) : HL enc P w (.slice none 0 0) [] := ⟨none, 0, rfl, Nat.le_refl _, by omega, fun i x h => by simp at h⟩
theorem HL.shape {α : Type} {enc : α → Value} {P : Nat → Prop} {w : World} {v : Value} {l : List α} (h : HL enc P w v l) : ∃ a c, v = .slice a l.length c ∧ l.length ≤ c ∧ c ≤ 9223372036854775807 := by
  obtain ⟨p, c, hv, h1, h2, _⟩ := h
  exact ⟨p, c, hv, h1, h2⟩
theorem HL.one {α : Type} {enc : α → Value} {P : Nat → Prop} {w : World} {v : Value} {l : List α} (h : HL enc P w v l) : v.oneCell' = true := by
  obtain ⟨p, c, rfl, _⟩ := h
  rfl
theorem HL.bytes {P : Nat → Prop} {w : World} {v : Value} {l : List UInt8} (h : HL eb P w v l) : Lib.HoldsBytes w v l := by
  obtain ⟨p, c, rfl, h1, h2, h3⟩ := h
  refine ⟨p, c, rfl, fun e => ?_, fun a ha i x hx => ?_⟩
  · match l, h3 with
    | [], _ => rfl
    | x :: l, h3 => obtain ⟨B, o, hp, _⟩ := h3 0 x rfl; rw [hp] at e; cases e
  · obtain ⟨B, o, hp, _, hc⟩ := h3 i x hx
    rw [hp] at ha
    cases ha
    rw [add_plain]
    exact hc
def In (z : Int) : Prop := -9223372036854775808 ≤ z ∧ z ≤ 9223372036854775807
/-- The numbers of a step are numbers. -/
def WfS (x : Sp) : Prop := In x.k ∧ In x.s ∧ In x.n ∧ ∀ z ∈ x.ks, In z
/-- Two slices hold a step's bytes and keeps. -/
def IsV (P : Nat → Prop) (w : World) (vb vk : Value) (x : Sp) : Prop := HL eb P w vb x.b ∧ HL ei P w vk x.ks
theorem IsV.keep {P P' : Nat → Prop} {w w' : World} {vb vk : Value} {x : Sp} (h : IsV P w vb vk x) (hk : ∀ B, P B → B < w.heap.size → w'.heap[B]? = w.heap[B]? ∧ P' B) : IsV P' w' vb vk x := ⟨h.1.keep hk, h.2.keep hk⟩
theorem IsV.below {P : Nat → Prop} {w w' : World} {vb vk : Value} {x : Sp} (h : IsV P w vb vk x) (hb : Below w.heap.size w w') : IsV P w' vb vk x := ⟨h.1.below hb, h.2.below hb⟩
/-- The five cells of a step lie at p of block B. -/
def AtS (w : World) (B p : Nat) (vb vk : Value) (x : Sp) : Prop := At5 w B p (.int .i64 x.k) (.int .i64 x.s) (.int .i64 x.n) vb vk
def rowS (vb vk : Value) (x : Sp) : Array Value := #[.int .i64 x.k, .int .i64 x.s, .int .i64 x.n, vb, vk]
/-- Steps that lie one behind the other, in blocks of which P holds, as do those of their lists. -/
def LsS (P : Nat → Prop) (w : World) (a : Option Addr) (xs : List Sp) : Prop :=
  ∀ (i : Nat) x, xs[i]? = some x → ∃ B o vb vk, a = some ⟨B, o, none⟩ ∧ P B ∧ AtS w B (o + i * 5) vb vk x ∧ IsV P w vb vk x
theorem LsS.keep {P P' : Nat → Prop} {w w' : World} {a : Option Addr} {xs : List Sp} (h : LsS P w a xs) (hk : ∀ B, P B → B < w.heap.size → w'.heap[B]? = w.heap[B]? ∧ P' B) : LsS P' w' a xs := fun i x hx => by
  obtain ⟨B, o, vb, vk, ha, hB, h5, hi⟩ := h i x hx
  have hb := hk B hB (World.block_lt_of_cell? w ⟨B, o + i * 5, none⟩ h5.1)
  exact ⟨B, o, vb, vk, ha, hb.2, h5.keepB hb.1, hi.keep hk⟩
theorem LsS.below {P : Nat → Prop} {w w' : World} {a : Option Addr} {xs : List Sp} (h : LsS P w a xs) (hb : Below w.heap.size w w') : LsS P w' a xs := h.keep fun B hB hl => ⟨hb.block B hl, hB⟩
theorem row_kept {lo k : Nat} {w w' : World} {u : Value} {cells : List Value} {e : TypeId} {size : Nat} (h : w.ownsRow lo e size u k cells) (hk : ∀ B, u.ownBlock = some B → w'.heap[B]? = w.heap[B]?) : w'.ownsRow lo e size u k cells := by
  obtain ⟨h1, h2 | ⟨g, cap, cur, rfl, hB, hg, r⟩⟩ := h
  · exact ⟨h1, .inl h2⟩
  · exact ⟨h1, .inr ⟨g, cap, cur, rfl, hB, by rw [hk g rfl]; exact hg, r⟩⟩
/-- A list of steps of the call's own, in blocks from lo on; what the steps have lies in blocks of which Q holds, and not in the list's. -/
def GrS (lo : Nat) (Q : Nat → Prop) (w : World) (u : Value) (xs : List Sp) : Prop :=
  ∃ cells, w.ownsRow lo 28 5 u xs.length cells ∧ ∀ (i : Nat) x, xs[i]? = some x → ∃ vb vk, (∀ r z, (rowS vb vk x)[r]? = some z → cells[i * 5 + r]? = some z) ∧ IsV (fun B => Q B ∧ u.ownBlock ≠ some B) w vb vk x
theorem GrS.nil (lo : Nat) (Q : Nat → Prop) (w : World) : GrS lo Q w (.slice none 0 0) [] := ⟨[], World.ownsRow_nil _ _ _ _, fun i t h => by simp at h⟩
theorem GrS.keep {lo : Nat} {Q Q' : Nat → Prop} {w w' : World} {u : Value} {xs : List Sp} (h : GrS lo Q w u xs) (hk : ∀ B, (Q B ∨ lo ≤ B) → B < w.heap.size → w'.heap[B]? = w.heap[B]?) (hQ : ∀ B, Q B → Q' B) : GrS lo Q' w' u xs := by
  obtain ⟨cells, ho, hc⟩ := h
  refine ⟨cells, row_kept ho (fun B hB => by have := World.ownsRow.lt ho B hB; exact hk B (.inr this.1) this.2), fun i t ht => ?_⟩
  obtain ⟨vb, vk, e0, hi⟩ := hc i t ht
  exact ⟨vb, vk, e0, hi.keep (fun B hB hl => ⟨hk B (.inl hB.1) hl, hQ B hB.1, hB.2⟩)⟩
theorem GrS.below {lo : Nat} {Q : Nat → Prop} {w w' : World} {u : Value} {xs : List Sp} (h : GrS lo Q w u xs) (hb : Below w.heap.size w w') : GrS lo Q w' u xs := h.keep (fun B _ hl => hb.block B hl) (fun _ h => h)
theorem GrS.shape {lo : Nat} {Q : Nat → Prop} {w : World} {u : Value} {xs : List Sp} (h : GrS lo Q w u xs) : ∃ a c, u = .slice a xs.length c ∧ xs.length ≤ c ∧ c ≤ 9223372036854775807 := by
  obtain ⟨_, ⟨_, ⟨rfl, h2⟩ | ⟨g, cap, cur, rfl, _, _, hle, hm, _⟩⟩, _⟩ := h
  · exact ⟨none, 0, by rw [h2], by omega, by omega⟩
  · unfold maxLen at hm
    exact ⟨_, _, rfl, hle, by omega⟩
theorem GrS.lt {lo : Nat} {Q : Nat → Prop} {w : World} {u : Value} {xs : List Sp} (h : GrS lo Q w u xs) : ∀ B, u.ownBlock = some B → lo ≤ B ∧ B < w.heap.size := fun B hB => by
  obtain ⟨cells, ho, _⟩ := h
  exact World.ownsRow.lt ho B hB
theorem GrS.ls {lo : Nat} {Q P : Nat → Prop} {w : World} {a : Option Addr} {k c : Nat} {xs : List Sp} (h : GrS lo Q w (.slice a k c) xs) (hP : ∀ B, (Q B ∨ lo ≤ B) → P B) : LsS P w a xs := by
  obtain ⟨cells, ho, hc⟩ := h
  intro i x hx
  have hlt : i < xs.length := (List.getElem?_eq_some_iff.1 hx).1
  obtain ⟨vb, vk, e0, hi⟩ := hc i x hx
  have ho2 := ho
  obtain ⟨_, ⟨hu, h2⟩ | ⟨g, cap, cur, hu, hB, _⟩⟩ := ho
  · omega
  · cases hu
    have f : ∀ r z, (rowS vb vk x)[r]? = some z → w.cell? ⟨g, i * 5 + r, none⟩ = some z := fun r z hz => by
      have hr : r < 5 := (Array.getElem?_eq_some_iff.1 hz).1
      rw [World.ownsRow.cellAt ho2 (i * 5 + r) (by omega), e0 r z hz]
    exact ⟨g, 0, vb, vk, rfl, hP g (.inr hB), by
      rw [Nat.zero_add]
      exact ⟨f 0 _ rfl, f 1 _ rfl, f 2 _ rfl, f 3 _ rfl, f 4 _ rfl⟩, hi.keep (fun B hB _ => ⟨rfl, hP B (.inl hB.1)⟩)⟩
theorem GrS.cells {lo : Nat} {Q : Nat → Prop} {w : World} {u : Value} {xs : List Sp} {B : Nat} (h : GrS lo Q w u xs) (hB : u.ownBlock = some B) : ∃ cur, w.heap[B]? = some (.cells cur 28 (0, 0)) := by
  obtain ⟨_, ⟨_, ⟨rfl, h2⟩ | ⟨g, cap, cur, rfl, _, hg, _⟩⟩, _⟩ := h
  · simp [Value.ownBlock] at hB
  · obtain rfl : g = B := by simpa [Value.ownBlock] using hB
    exact ⟨cur, hg⟩
theorem u22 : Try.prog.underlying 22 = some (.slice 28) := by kernel_rfl
/-- append of one step that lies in a box. -/
theorem GrS.app {lo src : Nat} {Q : Nat → Prop} {W : World} {u vb vk : Value} {xs : List Sp} {x : Sp} (h : GrS lo Q W u xs) (h5 : AtS W src 0 vb vk x) (hv : IsV (fun B => Q B ∧ u.ownBlock ≠ some B) W vb vk x) (hB : lo ≤ W.heap.size) (hk : (xs.length + 1) * 72 ≤ 140737488355328) :
    ∃ u' w', (∀ ty, (Builtin.append_ #[22, 22] ty #[u, .slice (some ⟨src, 0, none⟩) 1 1]).run Try.prog W = .ok u' w') ∧ GrS lo Q w' u' (xs ++ [x]) ∧ Below lo W w' ∧ (∀ B, B < W.heap.size → u.ownBlock ≠ some B → w'.heap[B]? = W.heap[B]?) ∧ (u'.ownBlock = u.ownBlock ∨ u'.ownBlock = some W.heap.size) := by
  obtain ⟨cells, hown, hc⟩ := h
  obtain ⟨i0, hi, hz0, hz1, hz2⟩ := info_parts info28
  have b1 := hv.1.one
  have b2 := hv.2.one
  have hs1 : ∀ z ∈ [Value.int .i64 x.k, .int .i64 x.s, .int .i64 x.n, vb, vk], z.oneCell' = true := by
    intro z hz
    simp only [List.mem_cons, List.not_mem_nil, or_false] at hz
    rcases hz with rfl | rfl | rfl | rfl | rfl
    · rfl
    · rfl
    · rfl
    · exact b1
    · exact b2
  have hnews : ∀ j z, [Value.int .i64 x.k, .int .i64 x.s, .int .i64 x.n, vb, vk][j]? = some z → W.cell? ((⟨src, 0, none⟩ : Addr).add j) = some z := fun j z hj => by
    rw [add_plain]
    obtain ⟨q0, q1, q2, q3, q4⟩ := h5
    match j, hj with
    | 0, hj => cases hj; exact q0
    | 1, hj => cases hj; exact q1
    | 2, hj => cases hj; exact q2
    | 3, hj => cases hj; exact q3
    | 4, hj => cases hj; exact q4
    | j + 5, hj => simp at hj
  have key : ∀ ty, ∃ v' w', (Builtin.append_ #[22, 22] ty #[u, .slice (some ⟨src, 0, none⟩) 1 1]).run Try.prog W = .ok v' w' ∧ w'.ownsRow lo 28 5 v' (xs.length + 1) (cells ++ [Value.int .i64 x.k, .int .i64 x.s, .int .i64 x.n, vb, vk]) ∧ W.grownBy w' u.ownBlock ∧ _ := fun ty =>
    run_append_own (P := Try.prog) (w := W) lo 22 ty 28 i0 _ 5 72 u22 hi hz0 hz1 hz2 rfl (by decide) u xs.length cells hown ⟨src, 0, none⟩ 1 1 [Value.int .i64 x.k, .int .i64 x.s, .int .i64 x.n, vb, vk] rfl hnews hs1 (by unfold maxLen; omega) (by omega) hB
  obtain ⟨u', w', hr, hown', hgrow, _⟩ := key 22
  have hblk : u'.ownBlock = u.ownBlock ∨ u'.ownBlock = some W.heap.size := by
    have hown2 := hown
    obtain ⟨hcl, ⟨rfl, hn0⟩ | ⟨g, cap, cur, rfl, _, hg, hle, _, hcs, _⟩⟩ := hown2
    · have h2 := run_append_nil (P := Try.prog) W 22 22 28 i0 _ u22 hi hz0 ⟨src, 0, none⟩ 1 1 [Value.int .i64 x.k, .int .i64 x.s, .int .i64 x.n, vb, vk] (by rw [hz1]; rfl) hnews (by omega) (by omega) (by rw [hz2]; omega)
      have e := hr.symm.trans h2
      cases e
      exact .inr rfl
    · by_cases hroom : xs.length + 1 ≤ cap
      · have h2 := run_append_room (P := Try.prog) W 22 22 28 i0 u22 hi g xs.length cap cur hg ⟨src, 0, none⟩ 1 1 [Value.int .i64 x.k, .int .i64 x.s, .int .i64 x.n, vb, vk] (by rw [hz1]; rfl) hnews hs1 hroom (by rw [hz1, hcs]; simp; omega)
        have e := hr.symm.trans h2
        cases e
        exact .inl rfl
      · have holds : ∀ j z, cells[j]? = some z → W.cell? ((⟨g, 0, none⟩ : Addr).add j) = some z := hown.cells (g := g) rfl
        have h2 := run_append_grow (P := Try.prog) W 22 22 28 i0 _ u22 hi hz0 ⟨g, 0, none⟩ xs.length cap cells (by rw [hz1]; exact hcl) holds ⟨src, 0, none⟩ 1 1 [Value.int .i64 x.k, .int .i64 x.s, .int .i64 x.n, vb, vk] (by rw [hz1]; rfl) hnews (by omega) (by omega) (growslice_fits (by omega) (by rw [hz2]; omega))
        have e := hr.symm.trans h2
        cases e
        exact .inr rfl
  have hkeep : ∀ B, B < W.heap.size → u.ownBlock ≠ some B → w'.heap[B]? = W.heap[B]? := fun B hB2 hne => hgrow.block B hB2 (fun e => hne e.symm)
  have hold : ∀ {vb vk : Value} {x : Sp}, IsV (fun B => Q B ∧ u.ownBlock ≠ some B) W vb vk x → IsV (fun B => Q B ∧ u'.ownBlock ≠ some B) w' vb vk x := fun h => h.keep (fun B hB2 hl => ⟨hkeep B hl hB2.2, hB2.1, by
    rcases hblk with e | e
    · rw [e]; exact hB2.2
    · rw [e]; intro e2; injection e2 with e2; omega⟩)
  have hcl : cells.length = xs.length * 5 := hown.1
  refine ⟨u', w', fun ty => hr, ⟨cells ++ [Value.int .i64 x.k, .int .i64 x.s, .int .i64 x.n, vb, vk], by rw [List.length_append]; exact hown', fun i y hy => ?_⟩, (Below.refl _ W).grown hgrow hB (fun k hk2 => (World.ownsRow.lt hown k hk2).1), hkeep, hblk⟩
  by_cases hlt : i < xs.length
  · rw [List.getElem?_append_left hlt] at hy
    obtain ⟨yb, yk, e0, hq⟩ := hc i y hy
    refine ⟨yb, yk, fun r z hz => ?_, hold hq⟩
    have hr : r < 5 := (Array.getElem?_eq_some_iff.1 hz).1
    rw [List.getElem?_append_left (by omega)]
    exact e0 r z hz
  · have hi2 : i = xs.length := by
      have := (List.getElem?_eq_some_iff.1 hy).1
      simp at this
      omega
    subst hi2
    rw [List.getElem?_append_right (Nat.le_refl _)] at hy
    simp at hy
    subst hy
    refine ⟨vb, vk, fun r z hz => ?_, hold hv⟩
    have hr : r < 5 := (Array.getElem?_eq_some_iff.1 hz).1
    rw [List.getElem?_append_right (by omega), hcl, Nat.add_sub_cancel_left]
    match r, hz with
    | 0, hz => exact hz
    | 1, hz => exact hz
    | 2, hz => exact hz
    | 3, hz => exact hz
    | 4, hz => exact hz
end Go.Proofs.Ytimiklekajelfaa
