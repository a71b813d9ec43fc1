/- What comes in place of a history's end; the contracts of Points of both, and of the program's Again. -/
import Derived.Test.YtdlllehoeodekaaR
namespace Go.Proofs.Ytdlllehoeodekaa
open Go.ChangeAt Go.ChangeShapes Go.Deep Go.RowKit Go.WideShapes
def zT : Tv := .mk 0 0 0 ⟨#[]⟩ []
def evF (run t : Int) : Ev := ⟨5, t, run, 0, ⟨#[114, 101, 115, 101, 116]⟩, zT, 0, 0, 0⟩
def evS (t : Int) (y : Ev) : Ev := ⟨7, t, 0, 0, y.s, y.v, 0, 0, 0⟩
def evN (t : Int) : Ev := ⟨2, t, 1, t, ⟨#[]⟩, zT, 0, 0, 0⟩
/-- What comes in place of a history's end, fz being the signals behind. -/
def agn (fz : List Ev) (run t : Int) : List Ev := evF run t :: fz.map (evS t) ++ [evN t]
theorem agn_len (fz : List Ev) (run t : Int) : (agn fz run t).length = fz.length + 2 := by simp [agn]
def rwF (run t : Int) : Rw := ⟨5, t, run, 0, ⟨#[114, 101, 115, 101, 116]⟩, 0, 0, 0, ⟨#[]⟩, none, 0, 0, 0, 0, 0⟩
def rwS (t : Int) (r : Rw) : Rw := ⟨7, t, 0, 0, r.s, r.vk, r.vx, r.vb, r.vs, r.la, r.ll, r.lc, 0, 0, 0⟩
def rwN (t : Int) : Rw := ⟨2, t, 1, t, ⟨#[]⟩, 0, 0, 0, ⟨#[]⟩, none, 0, 0, 0, 0, 0⟩
theorem zT_is (w : World) (N : Nat) : Is w (N + 1) (.agg #[.int .i64 0, .int .i64 0, .int .u64 0, .string ⟨#[]⟩, .slice none 0 0]) zT := ⟨none, 0, rfl, ⟨by decide, by decide, by decide, by decide, by decide, by decide, by decide, by decide, by decide⟩, fun i t h => by simp at h⟩
theorem rwF_is (w : World) (N : Nat) (run t : Int) : IsE w N (rwF run t) (evF run t) := ⟨zT, rfl, zT_is w N⟩
theorem rwN_is (w : World) (N : Nat) (t : Int) : IsE w N (rwN t) (evN t) := ⟨zT, rfl, zT_is w N⟩
theorem rwS_is {w : World} {N : Nat} {r : Rw} {y : Ev} (t : Int) (h : IsE w N r y) : IsE w N (rwS t r) (evS t y) := by
  obtain ⟨tv, rfl, hi⟩ := h
  exact ⟨tv, rfl, hi⟩
/-- A list of the call's own, of events whose values lie as in the world w0. -/
def Ga (lo N : Nat) (w0 w : World) (u : Value) (xs : List Ev) : Prop :=
  ∃ cells, w.ownsRow lo 38 13 u xs.length cells ∧ ∀ (i : Nat) x, xs[i]? = some x → ∃ r : Rw, (∀ k c, r.cells[k]? = some c → cells[i * 13 + k]? = some c) ∧ IsE w0 N r x
theorem Ga.below {lo N : Nat} {w0 w w' : World} {u : Value} {xs : List Ev} (h : Ga lo N w0 w u xs) (hb : Below w.heap.size w w') : Ga lo N w0 w' u xs := by
  obtain ⟨cells, ho, hc⟩ := h
  exact ⟨cells, row_kept ho (fun B _ _ hg => hb.block B (Array.getElem?_eq_some_iff.1 hg).1), hc⟩
theorem Ga.shape {lo N : Nat} {w0 w : World} {u : Value} {xs : List Ev} (h : Ga lo N w0 w u xs) : ∃ a c, u = .slice a xs.length c := by
  obtain ⟨_, ⟨_, ⟨rfl, h2⟩ | ⟨g, cap, cur, rfl, _⟩⟩, _⟩ := h
  · exact ⟨none, 0, by rw [h2]⟩
  · exact ⟨_, _, rfl⟩
theorem Ga.rows {lo N : Nat} {w0 w : World} {u : Value} {ys : List Ev} (h : Ga lo N w0 w u ys) (hb : Below w0.heap.size w0 w) : ∃ a c rs, u = .slice a ys.length c ∧ rs.length = ys.length ∧ RowE w a rs ∧ ∀ i, IsE w N (rx rs i) (ex ys i) := by
  obtain ⟨cells, ho, hc⟩ := h
  have h2 := ho
  obtain ⟨_, ⟨rfl, h0⟩ | ⟨g, cap, cur, rfl, _, _, hle, _⟩⟩ := ho
  · have e : ys = [] := List.eq_nil_of_length_eq_zero h0
    subst e
    exact ⟨none, 0, [], rfl, rfl, fun i r hr => by simp at hr, fun i => by rw [rx_none (by simp), ex_none (by simp)]; exact zr_is w N⟩
  · obtain ⟨rs, hl, hq⟩ := choose_rows (Q := fun i r => AtR w g (0 + i * 13) r ∧ IsE w N r (ex ys i)) ys.length (fun i hi => by
      obtain ⟨r, h1, hiq⟩ := hc i _ (List.getElem?_eq_getElem hi)
      have f : ∀ k z, k < 13 → r.cells[k]? = some z → w.cell? ⟨g, 0 + i * 13 + k, none⟩ = some z := fun k z hk hz => by rw [Nat.zero_add, World.ownsRow.cellAt h2 (i * 13 + k) (by omega)]; exact h1 k z hz
      exact ⟨r, ⟨f 0 _ (by omega) rfl, f 1 _ (by omega) rfl, f 2 _ (by omega) rfl, f 3 _ (by omega) rfl, f 4 _ (by omega) rfl, f 5 _ (by omega) rfl, f 6 _ (by omega) rfl, f 7 _ (by omega) rfl, f 8 _ (by omega) rfl, f 9 _ (by omega) rfl, f 10 _ (by omega) rfl, f 11 _ (by omega) rfl, f 12 _ (by omega) rfl⟩, by rw [ex_some (List.getElem?_eq_getElem hi)]; exact hiq.below hb⟩)
    refine ⟨_, cap, rs, rfl, hl, fun i r hr => ⟨g, 0, rfl, (hq i r hr).1⟩, fun i => ?_⟩
    by_cases hi : i < rs.length
    · have hr := List.getElem?_eq_getElem hi
      rw [rx_some hr]
      exact (hq i _ hr).2
    · rw [rx_none (by omega), ex_none (by omega)]
      exact zr_is w N
theorem Ga.app {lo N src : Nat} {w0 W : World} {u : Value} {xs : List Ev} {x : Ev} {r : Rw} (h : Ga lo N w0 W u xs) (hnews : ∀ j z, r.cells[j]? = some z → W.cell? ((⟨src, 0, none⟩ : Addr).add j) = some z) (hE : IsE w0 N r x) (hB : lo ≤ W.heap.size) (hk : xs.length ≤ 1000) :
    ∃ (a : Option Addr) (c : Nat) (w' : World), (∀ ty, (Builtin.append_ #[22, 22] ty #[u, .slice (some ⟨src, 0, none⟩) 1 1]).run Try.prog W = .ok (.slice a (xs.length + 1) c) w') ∧ Ga lo N w0 w' (.slice a (xs.length + 1) c) (xs ++ [x]) ∧ Below lo W w' := by
  obtain ⟨cells, ho, hc⟩ := h
  obtain ⟨i0, hi0, hz0, hz1, hz2⟩ := info_parts info40
  obtain ⟨u', w2, hr, hown', hbl, hkeep, hblk⟩ := app2 (lo := lo) (src := src) (k := xs.length) (t := 22) (news := r.cells) Try.underlying22 hi0 hz0 hz1 hz2 rfl (by decide) ho rfl hnews (rw_one r) (by omega) (by omega) hB
  obtain ⟨g', cap', rfl⟩ := ownsRow_succ hown'
  have hcl : cells.length = xs.length * 13 := ho.1
  refine ⟨_, _, w2, hr, ⟨cells ++ r.cells, by rw [List.length_append]; exact hown', fun i z hz => ?_⟩, hbl⟩
  by_cases hlt : i < xs.length
  · rw [List.getElem?_append_left hlt] at hz
    obtain ⟨r1, h1, hq⟩ := hc i z hz
    refine ⟨r1, fun k c hkc => ?_, hq⟩
    have hk13 : k < 13 := (List.getElem?_eq_some_iff.1 hkc).1
    rw [List.getElem?_append_left (by omega)]
    exact h1 k c hkc
  · have hi2 : i = xs.length := by
      have := (List.getElem?_eq_some_iff.1 hz).1
      simp at this
      omega
    subst hi2
    rw [List.getElem?_append_right (Nat.le_refl _)] at hz
    simp at hz
    subst hz
    refine ⟨r, fun k c hkc => ?_, hE⟩
    rw [List.getElem?_append_right (by omega), hcl, Nat.add_sub_cancel_left]
    exact hkc
/-- A list of one event that was just made. -/
theorem Ga.one {lo N : Nat} {w0 W : World} (r : Rw) (x : Ev) (hE : IsE w0 N r x) (hB : lo ≤ W.heap.size) : Ga lo N w0 (W.alloc (.cells #[.int .i64 r.k, .int .i64 r.t, .int .i64 r.n, .int .i64 r.d, .string r.s, .int .i64 r.vk, .int .i64 r.vx, .int .u64 r.vb, .string r.vs, .slice r.la r.ll r.lc, .int .i64 r.f, .int .u64 (r.c : Int), .int .i64 r.m] 38)) (.slice (some ⟨W.heap.size, 0, none⟩) 1 1) [x] := by
  refine ⟨r.cells, ⟨rfl, .inr ⟨W.heap.size, 1, _, rfl, hB, World.alloc_heap_new W _, Nat.le_refl _, by decide, rfl, ?_⟩⟩, fun i z hz => ?_⟩
  · rfl
  · match i, hz with
    | 0, hz =>
      cases hz
      exact ⟨r, fun k c hk => by rw [Nat.zero_mul, Nat.zero_add]; exact hk, hE⟩
    | i + 1, hz => simp at hz
end Go.Proofs.Ytdlllehoeodekaa
