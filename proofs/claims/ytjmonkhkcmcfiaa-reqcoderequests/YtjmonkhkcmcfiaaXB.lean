/- A list of values that is appended to; the contract of readList. -/
import Derived.Test.YtjmonkhkcmcfiaaXC
namespace Go.Proofs.Ytjmonkhkcmcfiaa
open Go.ChangeShapes Go.WideShapes Go.ChangeAt Go.RowKit
/-- As Is, all lists in blocks of which P holds. -/
def IsQ (P : Nat → Prop) (w : World) : Nat → Value → Tv → Prop
  | 0, _, _ => False
  | n + 1, v, .mk k x b s l => ∃ a c, v = .agg #[.int .i64 k, .int .i64 x, .int .u64 b, .string s, .slice a l.length c] ∧ Fit k x b s l.length c ∧
      ∀ i t, l[i]? = some t → ∃ B o c0 c1 c2 c3 c4, a = some ⟨B, o, none⟩ ∧ P B ∧ At5 w B (o + i * 5) c0 c1 c2 c3 c4 ∧ IsQ P w n (.agg #[c0, c1, c2, c3, c4]) t
theorem IsN.isQ {lo : Nat} {w : World} {P : Nat → Prop} (hP : ∀ B, lo ≤ B → B < w.heap.size → P B) : ∀ {n : Nat} {v : Value} {t : Tv}, IsN lo w n v t → IsQ P w n v t
  | 0, _, _, h => h
  | n + 1, v, .mk k x b s l, ⟨a, c, hv, hf, hr⟩ => ⟨a, c, hv, hf, fun i t ht => by
      obtain ⟨B, o, c0, c1, c2, c3, c4, ha, hB, h5, hi⟩ := hr i t ht
      exact ⟨B, o, c0, c1, c2, c3, c4, ha, hP B hB (World.block_lt_of_cell? w ⟨B, o + i * 5, none⟩ h5.1), h5, hi.isQ hP⟩⟩
theorem IsQ.isN {lo : Nat} {w : World} {P : Nat → Prop} (hP : ∀ B, P B → lo ≤ B) : ∀ {n : Nat} {v : Value} {t : Tv}, IsQ P w n v t → IsN lo w n v t
  | 0, _, _, h => h
  | n + 1, v, .mk k x b s l, ⟨a, c, hv, hf, hr⟩ => ⟨a, c, hv, hf, fun i t ht => by
      obtain ⟨B, o, c0, c1, c2, c3, c4, ha, hB, h5, hi⟩ := hr i t ht
      exact ⟨B, o, c0, c1, c2, c3, c4, ha, hP B hB, h5, hi.isN hP⟩⟩
theorem At5.keepB {w w' : World} {B p : Nat} {c0 c1 c2 c3 c4 : Value} (h : At5 w B p c0 c1 c2 c3 c4) (hk : w'.heap[B]? = w.heap[B]?) : At5 w' B p c0 c1 c2 c3 c4 := by
  have f : ∀ q, w'.cell? ⟨B, q, none⟩ = w.cell? ⟨B, q, none⟩ := fun q => World.cell?_of_block hk
  exact ⟨(f _).trans h.1, (f _).trans h.2.1, (f _).trans h.2.2.1, (f _).trans h.2.2.2.1, (f _).trans h.2.2.2.2⟩
/-- A value stays, while its blocks do. -/
theorem IsQ.keep {P P' : Nat → Prop} {w w' : World} (hk : ∀ B, P B → B < w.heap.size → w'.heap[B]? = w.heap[B]? ∧ P' B) : ∀ {n : Nat} {v : Value} {t : Tv}, IsQ P w n v t → IsQ P' w' n v t
  | 0, _, _, h => h
  | n + 1, v, .mk k x b s l, ⟨a, c, hv, hf, hr⟩ => ⟨a, c, hv, hf, fun i t ht => by
      obtain ⟨B, o, c0, c1, c2, c3, c4, ha, hB, h5, hi⟩ := hr i t ht
      have hb := hk B hB (World.block_lt_of_cell? w ⟨B, o + i * 5, none⟩ h5.1)
      exact ⟨B, o, c0, c1, c2, c3, c4, ha, hb.2, h5.keepB hb.1, hi.keep hk⟩⟩
/-- The values ts, in a list of the call's own. -/
def Vs (lo n : Nat) (w : World) (u : Value) (ts : List Tv) : Prop :=
  ∃ cells, w.ownsRow lo 25 5 u ts.length cells ∧ ∀ (i : Nat) t, ts[i]? = some t → ∃ c0 c1 c2 c3 c4, cells[i * 5]? = some c0 ∧ cells[i * 5 + 1]? = some c1 ∧ cells[i * 5 + 2]? = some c2 ∧ cells[i * 5 + 3]? = some c3 ∧ cells[i * 5 + 4]? = some c4 ∧
    IsQ (fun B => lo ≤ B ∧ u.ownBlock ≠ some B) w n (.agg #[c0, c1, c2, c3, c4]) t
theorem Vs.nil (lo n : Nat) (w : World) : Vs lo n w (.slice none 0 0) [] := ⟨[], World.ownsRow_nil _ _ _ _, fun i t h => by simp at h⟩
theorem row_kept {lo k : Nat} {w w' : World} {u : Value} {cells : List Value} (h : w.ownsRow lo 25 5 u k cells) (hk : ∀ B, u.ownBlock = some B → w'.heap[B]? = w.heap[B]?) : w'.ownsRow lo 25 5 u k cells := by
  obtain ⟨h1, h2 | ⟨g, cap, cur, rfl, hB, hg, r⟩⟩ := h
  · exact ⟨h1, .inl h2⟩
  · exact ⟨h1, .inr ⟨g, cap, cur, rfl, hB, by rw [hk g rfl]; exact hg, r⟩⟩
/-- The list stays, while its blocks do. -/
theorem Vs.keep {lo n : Nat} {w w' : World} {u : Value} {ts : List Tv} (h : Vs lo n w u ts) (hk : ∀ B, lo ≤ B → B < w.heap.size → w'.heap[B]? = w.heap[B]?) : Vs lo n w' u ts := by
  obtain ⟨cells, ho, hc⟩ := h
  refine ⟨cells, row_kept ho (fun B hB => by have := World.ownsRow.lt ho B hB; exact hk B this.1 this.2), fun i t ht => ?_⟩
  obtain ⟨c0, c1, c2, c3, c4, e0, e1, e2, e3, e4, hi⟩ := hc i t ht
  exact ⟨c0, c1, c2, c3, c4, e0, e1, e2, e3, e4, hi.keep (fun B hB hl => ⟨hk B hB.1 hl, hB⟩)⟩
theorem Vs.shape {lo n : Nat} {w : World} {u : Value} {ts : List Tv} (h : Vs lo n w u ts) : ∃ a c, u = .slice a ts.length c ∧ ts.length ≤ c ∧ c ≤ 9223372036854775807 := by
  obtain ⟨_, ⟨_, ⟨rfl, h2⟩ | ⟨g, cap, cur, rfl, _, _, hle, hm, _⟩⟩, _⟩ := h
  · exact ⟨none, 0, by rw [h2], by omega, by omega⟩
  · unfold maxLen at hm
    exact ⟨_, _, rfl, hle, by omega⟩
theorem Vs.row {lo n : Nat} {w : World} {a : Option Addr} {k c : Nat} {ts : List Tv} (h : Vs lo n w (.slice a k c) ts) : RowN lo (IsN lo w n) w a ts := by
  obtain ⟨cells, ho, hc⟩ := h
  intro i t ht
  have hlt : i < ts.length := (List.getElem?_eq_some_iff.1 ht).1
  obtain ⟨c0, c1, c2, c3, c4, e0, e1, e2, e3, e4, hi⟩ := hc i t ht
  have ho2 := ho
  obtain ⟨_, ⟨hu, h2⟩ | ⟨g, cap, cur, hu, hB, _⟩⟩ := ho
  · omega
  · cases hu
    have f : ∀ r x, r < 5 → cells[i * 5 + r]? = some x → w.cell? ⟨g, i * 5 + r, none⟩ = some x := fun r x hr hx => by rw [World.ownsRow.cellAt ho2 (i * 5 + r) (by omega), hx]
    exact ⟨g, 0, c0, c1, c2, c3, c4, rfl, hB, by
      rw [Nat.zero_add]
      exact ⟨f 0 c0 (by omega) e0, f 1 c1 (by omega) e1, f 2 c2 (by omega) e2, f 3 c3 (by omega) e3, f 4 c4 (by omega) e4⟩, hi.isN (fun B hB => hB.1)⟩
/-- append of one value. -/
theorem vapp_run {lo n src : Nat} {W : World} {u : Value} {ts : List Tv} {t : Tv} {c0 c1 c2 c3 c4 : Value} (ho : Vs lo n W u ts) (h5 : At5 W src 0 c0 c1 c2 c3 c4) (hs1 : ∀ z ∈ [c0, c1, c2, c3, c4], z.oneCell' = true) (hv : IsQ (fun B => lo ≤ B ∧ u.ownBlock ≠ some B) W n (.agg #[c0, c1, c2, c3, c4]) t) (hB : lo ≤ W.heap.size) (hk : ts.length ≤ 1000) :
    ∃ u' w', (∀ ty, (Builtin.append_ #[23, 23] ty #[u, .slice (some ⟨src, 0, none⟩) 1 1]).run Try.prog W = .ok u' w') ∧ Vs lo n w' u' (ts ++ [t]) ∧ Below lo W w' ∧ (∀ B, B < W.heap.size → u.ownBlock ≠ some B → w'.heap[B]? = W.heap[B]?) := by
  obtain ⟨cells, hown, hc⟩ := ho
  obtain ⟨i0, hi, hz0, hz1, hz2⟩ := info_parts info25
  have hnews : ∀ j z, [c0, c1, c2, c3, c4][j]? = some z → W.cell? ((⟨src, 0, none⟩ : Addr).add j) = some z := fun j z hj => by
    rw [add_plain]
    obtain ⟨q0, q1, q2, q3, q4⟩ := h5
    match j, hj with
    | 0, hj => cases hj; exact q0
    | 1, hj => cases hj; exact q1
    | 2, hj => cases hj; exact q2
    | 3, hj => cases hj; exact q3
    | 4, hj => cases hj; exact q4
    | j + 5, hj => simp at hj
  have key : ∀ ty, ∃ v' w', (Builtin.append_ #[23, 23] ty #[u, .slice (some ⟨src, 0, none⟩) 1 1]).run Try.prog W = .ok v' w' ∧ w'.ownsRow lo 25 5 v' (ts.length + 1) (cells ++ [c0, c1, c2, c3, c4]) ∧ W.grownBy w' u.ownBlock ∧ _ := fun ty =>
    run_append_own (P := Try.prog) (w := W) lo 23 ty 25 i0 _ 5 64 Try.underlying23 hi hz0 hz1 hz2 rfl (by decide) u ts.length cells hown ⟨src, 0, none⟩ 1 1 [c0, c1, c2, c3, c4] rfl hnews hs1 (by unfold maxLen; omega) (by omega) hB
  obtain ⟨u', w', hr, hown', hgrow, _⟩ := key 23
  have hblk : u'.ownBlock = u.ownBlock ∨ u'.ownBlock = some W.heap.size := by
    have hown2 := hown
    obtain ⟨hcl, ⟨rfl, hn0⟩ | ⟨g, cap, cur, rfl, _, hg, hle, _, hcs, _⟩⟩ := hown2
    · have h2 := run_append_nil (P := Try.prog) W 23 23 25 i0 _ Try.underlying23 hi hz0 ⟨src, 0, none⟩ 1 1 [c0, c1, c2, c3, c4] (by rw [hz1]; rfl) hnews (by omega) (by omega) (by rw [hz2]; omega)
      have e := hr.symm.trans h2
      cases e
      exact .inr rfl
    · by_cases hroom : ts.length + 1 ≤ cap
      · have h2 := run_append_room (P := Try.prog) W 23 23 25 i0 Try.underlying23 hi g ts.length cap cur hg ⟨src, 0, none⟩ 1 1 [c0, c1, c2, c3, c4] (by rw [hz1]; rfl) hnews hs1 hroom (by rw [hz1, hcs]; simp; omega)
        have e := hr.symm.trans h2
        cases e
        exact .inl rfl
      · have holds : ∀ j z, cells[j]? = some z → W.cell? ((⟨g, 0, none⟩ : Addr).add j) = some z := hown.cells (g := g) rfl
        have h2 := run_append_grow (P := Try.prog) W 23 23 25 i0 _ Try.underlying23 hi hz0 ⟨g, 0, none⟩ ts.length cap cells (by rw [hz1]; exact hcl) holds ⟨src, 0, none⟩ 1 1 [c0, c1, c2, c3, c4] (by rw [hz1]; rfl) hnews (by omega) (by omega) (growslice_fits (by omega) (by rw [hz2]; omega))
        have e := hr.symm.trans h2
        cases e
        exact .inr rfl
  have hkeep : ∀ B, B < W.heap.size → u.ownBlock ≠ some B → w'.heap[B]? = W.heap[B]? := fun B hB2 hne => hgrow.block B hB2 (fun e => hne e.symm)
  have hold : ∀ {v : Value} {t : Tv}, IsQ (fun B => lo ≤ B ∧ u.ownBlock ≠ some B) W n v t → IsQ (fun B => lo ≤ B ∧ u'.ownBlock ≠ some B) w' n v t := fun h => h.keep (fun B hB2 hl => ⟨hkeep B hl hB2.2, hB2.1, by
    rcases hblk with e | e
    · rw [e]; exact hB2.2
    · rw [e]; intro e2; injection e2 with e2; omega⟩)
  have hcl : cells.length = ts.length * 5 := hown.1
  refine ⟨u', w', fun ty => hr, ⟨cells ++ [c0, c1, c2, c3, c4], by rw [List.length_append]; exact hown', fun i y hy => ?_⟩, (Below.refl _ W).grown hgrow hB (fun k hk2 => (World.ownsRow.lt hown k hk2).1), hkeep⟩
  by_cases hlt : i < ts.length
  · rw [List.getElem?_append_left hlt] at hy
    obtain ⟨d0, d1, d2, d3, d4, e0, e1, e2, e3, e4, hq⟩ := hc i y hy
    have g : ∀ r z, r < 5 → cells[i * 5 + r]? = some z → (cells ++ [c0, c1, c2, c3, c4])[i * 5 + r]? = some z := fun r z hr2 hz => by rw [List.getElem?_append_left (by omega)]; exact hz
    exact ⟨d0, d1, d2, d3, d4, g 0 d0 (by omega) e0, g 1 d1 (by omega) e1, g 2 d2 (by omega) e2, g 3 d3 (by omega) e3, g 4 d4 (by omega) e4, hold hq⟩
  · have hi2 : i = ts.length := by
      have := (List.getElem?_eq_some_iff.1 hy).1
      simp at this
      omega
    subst hi2
    rw [List.getElem?_append_right (Nat.le_refl _)] at hy
    simp at hy
    subst hy
    have g : ∀ r, r < 5 → (cells ++ [c0, c1, c2, c3, c4])[ts.length * 5 + r]? = [c0, c1, c2, c3, c4][r]? := fun r hr2 => by rw [List.getElem?_append_right (by omega), hcl, Nat.add_sub_cancel_left]
    exact ⟨c0, c1, c2, c3, c4, g 0 (by omega), g 1 (by omega), g 2 (by omega), g 3 (by omega), g 4 (by omega), hold hv⟩
end Go.Proofs.Ytjmonkhkcmcfiaa
