/- The contract of slices.EqualFunc with the document's Same; rows that may be written; the walk of BranchForks. -/
import Derived.Test.YtdlllehoeodekaaL
namespace Go.Proofs.Ytdlllehoeodekaa
open Go.ChangeAt Go.ChangeShapes Go.Deep Go.RowKit Go.WideShapes
/-- A whole number stands there. -/
def IntAt (W : World) (A : Addr) : Prop := ∃ z, W.cell? A = some (.int .i64 z)
theorem IntAt.set {W : World} {A : Addr} (h : IntAt W A) (A' : Addr) (z : Int) : IntAt (W.setCell A' (.int .i64 z)) A := by
  obtain ⟨y, hy⟩ := h
  by_cases e : A' = A
  · subst e
    exact ⟨z, World.cell?_setCell_same' _ _ _ (by rw [hy]; rfl)⟩
  · exact ⟨y, (World.cell?_setCell_other W A' A _ e).trans hy⟩
/-- The list's times, and the numbers in the lists of its values, may be written. -/
structure Wr (lo g o n : Nat) (la : Nat → Option Addr) (ll lc : Nat → Nat) (W : World) : Prop where
  tm : ∀ i, i < n → IntAt W ⟨g, o + i * 13 + 1, none⟩
  sl : ∀ i, i < n → W.cell? ⟨g, o + i * 13 + 9, none⟩ = some (.slice (la i) (ll i) (lc i))
  el : ∀ i k, i < n → k < ll i → ∃ B p, la i = some ⟨B, p, none⟩ ∧ lo ≤ B ∧ B ≠ g ∧ W.frozen? ⟨B, p + k * 5 + 1, none⟩ = false ∧ IntAt W ⟨B, p + k * 5 + 1, none⟩
  fr : ∀ p, W.frozen? ⟨g, p, none⟩ = false
  lg : lo ≤ g
theorem Wr.set {lo g o n : Nat} {la : Nat → Option Addr} {ll lc : Nat → Nat} {W : World} (h : Wr lo g o n la ll lc W) (A : Addr) (z : Int) (hA : ∀ i, i < n → A ≠ ⟨g, o + i * 13 + 9, none⟩) : Wr lo g o n la ll lc (W.setCell A (.int .i64 z)) :=
  ⟨fun i hi => (h.tm i hi).set A z, fun i hi => (World.cell?_setCell_other W A _ _ (hA i hi)).trans (h.sl i hi), fun i k hi hk => by
    obtain ⟨B, p, e, h1, h2, h3, h4⟩ := h.el i k hi hk
    exact ⟨B, p, e, h1, h2, (World.frozen?_setCell _ _ _ _).trans h3, h4.set A z⟩, fun p => (World.frozen?_setCell _ _ _ _).trans (h.fr p), h.lg⟩
theorem Wr.below {lo g o n : Nat} {la : Nat → Option Addr} {ll lc : Nat → Nat} {W W' : World} (h : Wr lo g o n la ll lc W) (hn : 0 < n) (hb : Below W.heap.size W W') : Wr lo g o n la ll lc W' :=
  ⟨fun i hi => by obtain ⟨z, hz⟩ := h.tm i hi; exact ⟨z, cellB hz hb⟩, fun i hi => cellB (h.sl i hi) hb, fun i k hi hk => by
    obtain ⟨B, p, e, h1, h2, h3, z, h4⟩ := h.el i k hi hk
    exact ⟨B, p, e, h1, h2, (hb.frozen (p := ⟨B, p + k * 5 + 1, none⟩) (World.block_lt_of_cell? W _ h4)).trans h3, z, cellB h4 hb⟩, fun p => (hb.frozen (p := ⟨g, p, none⟩) (World.block_lt_of_cell? W ⟨g, o + 0 * 13 + 9, none⟩ (h.sl 0 hn))).trans (h.fr p), h.lg⟩
theorem isQ_list {P : Nat → Prop} {w : World} {n : Nat} {r : Rw} {tv : Tv} (h : IsQ P w (n + 1) r.vv tv) : r.ll ≤ 9223372036854775807 ∧ ∀ k, k < r.ll → ∃ B p, r.la = some ⟨B, p, none⟩ ∧ P B ∧ w.frozen? ⟨B, p + k * 5 + 1, none⟩ = false ∧ IntAt w ⟨B, p + k * 5 + 1, none⟩ := by
  obtain ⟨tk, tx, tb, ts, tl⟩ := tv
  obtain ⟨a, c, hv, hf, hr⟩ := h
  simp only [Rw.vv, Value.agg.injEq, Array.mk.injEq, List.cons.injEq, Value.slice.injEq, and_true] at hv
  obtain ⟨_, _, _, _, e1, e2, _⟩ := hv
  refine ⟨by rw [e2]; have := hf.n1; have := hf.c1; omega, fun k hk => ?_⟩
  rw [e2] at hk
  obtain ⟨B, o, c0, c1, c2, c3, c4, ha, hB, h5, hi⟩ := hr k _ (List.getElem?_eq_getElem hk)
  refine ⟨B, o, by rw [e1]; exact ha, hB.1, hB.2 _, ?_⟩
  match n, hi with
  | 0, hi => exact hi.elim
  | n + 1, hi =>
    obtain ⟨_, _, _, _, _, _, _, _, hx, _⟩ := hi.is.shape
    exact ⟨_, by rw [h5.2.1, hx]⟩
theorem Es.wr {Bo N : Nat} {w : World} {u : Value} {ys : List Ev} (h : Es Bo N w u ys) : ∃ fa fc g o la ll lc, u = .slice fa ys.length fc ∧ (0 < ys.length → fa = some ⟨g, o, none⟩) ∧ (0 < ys.length → Wr Bo g o ys.length la ll lc w) ∧ ∀ i, ll i ≤ 9223372036854775807 := by
  obtain ⟨cells, ho, hc⟩ := h
  have h2 := ho
  obtain ⟨_, ⟨rfl, h0⟩ | ⟨g, cap, cur, rfl, hB, hg, hle, _⟩⟩ := ho
  · exact ⟨none, 0, 0, 0, fun _ => none, fun _ => 0, fun _ => 0, by rw [h0], fun h => by omega, fun h => by omega, fun _ => Nat.zero_le _⟩
  · obtain ⟨rs, hl, hq⟩ := choose_rows (Q := fun i r => (∀ k c, r.cells[k]? = some c → cells[i * 13 + k]? = some c) ∧ ∃ tv, IsQ (fun B => Bo < B ∧ (Value.slice (some ⟨g, 0, none⟩) ys.length cap).ownBlock ≠ some B) w (N + 1) r.vv tv) ys.length (fun i hi => by
      obtain ⟨r, h1, tv, _, hiq⟩ := hc i _ (List.getElem?_eq_getElem hi)
      exact ⟨r, h1, tv, hiq⟩)
    have hx : ∀ i, i < ys.length → (∀ k c, (rx rs i).cells[k]? = some c → cells[i * 13 + k]? = some c) ∧ ∃ tv, IsQ (fun B => Bo < B ∧ (Value.slice (some ⟨g, 0, none⟩) ys.length cap).ownBlock ≠ some B) w (N + 1) (rx rs i).vv tv := fun i hi => by
      have hr := List.getElem?_eq_getElem (show i < rs.length by omega)
      rw [rx_some hr]
      exact hq i _ hr
    have f : ∀ i k z, i < ys.length → k < 13 → (rx rs i).cells[k]? = some z → w.cell? ⟨g, 0 + i * 13 + k, none⟩ = some z := fun i k z hi hk hz => by rw [Nat.zero_add, World.ownsRow.cellAt h2 (i * 13 + k) (by omega)]; exact (hx i hi).1 k z hz
    refine ⟨_, cap, g, 0, fun i => (rx rs i).la, fun i => (rx rs i).ll, fun i => (rx rs i).lc, rfl, fun _ => rfl, fun hn => ⟨fun i hi => ⟨_, f i 1 _ hi (by omega) rfl⟩, fun i hi => f i 9 _ hi (by omega) rfl, fun i k hi hk => ?_, fun p => ?_, hB⟩, fun i => ?_⟩
    · obtain ⟨tv, hiq⟩ := (hx i hi).2
      obtain ⟨B, p, e, hP, h3, h4⟩ := (isQ_list hiq).2 k hk
      exact ⟨B, p, e, Nat.le_of_lt hP.1, fun e => hP.2 (by rw [e]; rfl), h3, h4⟩
    · simp [World.frozen?, hg]
    · by_cases hi : i < ys.length
      · obtain ⟨tv, hiq⟩ := (hx i hi).2
        exact (isQ_list hiq).1
      · show (rx rs i).ll ≤ _
        rw [rx_none (by omega)]
        decide
theorem fork_ex (ys : List Ev) (m i : Nat) (hi : i < m) : ex ((List.range m).map (ex ys)) i = ex ys i := ex_some (by rw [List.getElem?_map, List.getElem?_range hi]; rfl)
theorem fork_isC (ys : List Ev) (m : Nat) (h : m ≤ ys.length) : IsC ((List.range m).map (ex ys)) ys m := ⟨by simp, h, fun i hi => fork_ex ys m i hi, fun h1 => by simp at h1⟩
theorem nk_le (keep : Int) (N : Nat) : nk keep N ≤ N := by unfold nk; omega
theorem nk_int (keep : Int) (N : Nat) : min (max keep 0) (N : Int) = ((nk keep N : Nat) : Int) := by unfold nk; omega
end Go.Proofs.Ytdlllehoeodekaa
