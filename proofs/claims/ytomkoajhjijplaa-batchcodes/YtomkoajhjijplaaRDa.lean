/- The reference's Decode: rows that grow, and what stays. -/
import Derived.Test.YtomkoajhjijplaaRC
import Derived.Test.YtomkoajhjijplaaFA
import Derived.Test.YtomkoajhjijplaaPF
namespace Go.Proofs.Ytomkoajhjijplaa
open Go.ChangeShapes Go.WideShapes Go.ChangeAt Go.RowKit
/-- The reference's reader stays, while its two blocks do. -/
theorem RT.keep {w w' : World} {g h : Nat} {l : List UInt8} {e : Int} (r : RT w g h l e) (h1 : w'.heap[g]? = w.heap[g]?) (h2 : w'.heap[h]? = w.heap[h]?) : RT w' g h l e := by
  have fg : ∀ o, w'.cell? ⟨g, o, none⟩ = w.cell? ⟨g, o, none⟩ := fun o => World.cell?_of_block h1
  have fh : ∀ o, w'.cell? ⟨h, o, none⟩ = w.cell? ⟨h, o, none⟩ := fun o => World.cell?_of_block h2
  have zg : ∀ o, w'.frozen? ⟨g, o, none⟩ = w.frozen? ⟨g, o, none⟩ := fun o => World.frozen?_of_block h1
  obtain ⟨p, c, a0, a1, f0, f1, hl, hg, hb, he⟩ := r
  refine ⟨p, c, (fg 0).trans a0, (fg 1).trans a1, (zg 0).trans f0, (zg 1).trans f1, hl, hg, fun hne => ?_, he⟩
  obtain ⟨o, hp, hcell⟩ := hb hne
  exact ⟨o, hp, fun i x hx => (fh _).trans (hcell i x hx)⟩
theorem RT.lt {w : World} {g h : Nat} {l : List UInt8} {e : Int} (r : RT w g h l e) : g < w.heap.size := by
  obtain ⟨p, c, a0, _⟩ := r
  exact World.block_lt_of_cell? w ⟨g, 0, none⟩ a0
/-- Open, its block of bytes told where there are none, too. -/
theorem ropen2_calls (v : Value) (l : List UInt8) (w : World) (hv : Lib.HoldsBytes w v l) (hl : l.length ≤ 140737488351232) (h0 : 0 < w.heap.size) :
    Calls Try.prog 36 #[v] w fun e w' => ∃ g h, e = .returned (.pointer (some ⟨g, 0, none⟩)) ∧ w.heap.size ≤ g ∧ h < w'.heap.size ∧ RT w' g h l 0 ∧ Below w.heap.size w w' := by
  refine (ropen_calls v l w hv hl).mono ?_
  rintro e w' ⟨g, h, rfl, hg, hh, ⟨p, c, a0, a1, f0, f1, hlc, hgh, hb, he⟩, hB⟩
  have hs := hB.size
  by_cases hn : l = []
  · subst hn
    exact ⟨g, 0, rfl, hg, by omega, ⟨p, c, a0, a1, f0, f1, hlc, by omega, HBk.nil _ _ _, he⟩, hB⟩
  · obtain ⟨o, hp, hc⟩ := hb hn
    obtain ⟨x, l2, rfl⟩ := List.exists_cons_of_ne_nil hn
    have := World.block_lt_of_cell? w' ⟨h, o + 0, none⟩ (hc 0 x rfl)
    exact ⟨g, h, rfl, hg, this, ⟨p, c, a0, a1, f0, f1, hlc, hgh, hb, he⟩, hB⟩
/-- append of one element to a row of the call's own. -/
theorem app1 {lo src k size bytes : Nat} {W : World} {u z : Value} {cells news : List Value} {t e : TypeId} {i0 : TypeInfo} (ht : Try.prog.underlying t = some (.slice e)) (hi : Try.prog.info? e = some i0) (hz0 : i0.zero = some z) (hz1 : i0.size = size) (hz2 : i0.bytes = bytes) (hzc : z.cells.size = size) (hsz : 0 < size) (hown : W.ownsRow lo e size u k cells) (hl : news.length = size) (hnews : ∀ j z, news[j]? = some z → W.cell? ((⟨src, 0, none⟩ : Addr).add j) = some z) (hs1 : ∀ z ∈ news, z.oneCell' = true) (hk : k ≤ 1000) (hby : bytes ≤ 100) (hB : lo ≤ W.heap.size) :
    ∃ u' w', (∀ ty, (Builtin.append_ #[t, t] ty #[u, .slice (some ⟨src, 0, none⟩) 1 1]).run Try.prog W = .ok u' w') ∧ w'.ownsRow lo e size u' (k + 1) (cells ++ news) ∧ Below lo W w' ∧ (∀ B, B < W.heap.size → u.ownBlock ≠ some B → w'.heap[B]? = W.heap[B]?) ∧ (u'.ownBlock = u.ownBlock ∨ u'.ownBlock = some W.heap.size) := by
  have hb1 : (k + 1) * bytes ≤ 1001 * 100 := Nat.mul_le_mul (by omega) hby
  have key : ∀ ty, ∃ v' w', (Builtin.append_ #[t, t] ty #[u, .slice (some ⟨src, 0, none⟩) 1 1]).run Try.prog W = .ok v' w' ∧ w'.ownsRow lo e size v' (k + 1) (cells ++ news) ∧ W.grownBy w' u.ownBlock ∧ _ := fun ty =>
    run_append_own (P := Try.prog) (w := W) lo t ty e i0 z size bytes ht hi hz0 hz1 hz2 hzc hsz u k cells hown ⟨src, 0, none⟩ 1 1 news (by rw [hl, Nat.one_mul]) hnews hs1 (by unfold maxLen; omega) (by omega) hB
  obtain ⟨u', w', hr, hown', hgrow, _⟩ := key t
  have hblk : u'.ownBlock = u.ownBlock ∨ u'.ownBlock = some W.heap.size := by
    have hown2 := hown
    obtain ⟨hcl, ⟨rfl, hn0⟩ | ⟨g, cap, cur, rfl, _, hg, hle, _, hcs, _⟩⟩ := hown2
    · have h2 := run_append_nil (P := Try.prog) W t t e i0 z ht hi hz0 ⟨src, 0, none⟩ 1 1 news (by rw [hz1, hl, Nat.one_mul]) hnews (by omega) (by omega) (by rw [hz2]; omega)
      have e := hr.symm.trans h2
      cases e
      exact .inr rfl
    · by_cases hroom : k + 1 ≤ cap
      · have hmul : (k + 1) * size ≤ cap * size := Nat.mul_le_mul_right _ hroom
        have h2 := run_append_room (P := Try.prog) W t t e i0 ht hi g k cap cur hg ⟨src, 0, none⟩ 1 1 news (by rw [hz1, hl, Nat.one_mul]) hnews hs1 hroom (by rw [hz1, hcs, hl]; rw [Nat.add_mul, Nat.one_mul] at hmul; exact hmul)
        have e := hr.symm.trans h2
        cases e
        exact .inl rfl
      · have holds : ∀ j z, cells[j]? = some z → W.cell? ((⟨g, 0, none⟩ : Addr).add j) = some z := hown.cells (g := g) rfl
        have h2 := run_append_grow (P := Try.prog) W t t e i0 z ht hi hz0 ⟨g, 0, none⟩ k cap cells (by rw [hz1]; exact hcl) holds ⟨src, 0, none⟩ 1 1 news (by rw [hz1, hl, Nat.one_mul]) hnews (by omega) (by omega) (growslice_fits (by omega) (by rw [hz2]; omega))
        have e := hr.symm.trans h2
        cases e
        exact .inr rfl
  exact ⟨u', w', fun ty => hr, hown', (Below.refl _ W).grown hgrow hB (fun k hk2 => (World.ownsRow.lt hown k hk2).1), fun B hB2 hne => hgrow.block B hB2 (fun e => hne e.symm), hblk⟩
/-- x is a slice of the bytes y, in a block of P. -/
def Hq (P : Nat → Prop) (W : World) (x : Value) (y : List UInt8) : Prop := ∃ nb n c, x = .slice (some ⟨nb, 0, none⟩) n c ∧ P nb ∧ nb < W.heap.size ∧ Lib.HoldsBytes W x y
theorem Hq.keep {P P' : Nat → Prop} {W W' : World} {x : Value} {y : List UInt8} (h : Hq P W x y) (hs : W.heap.size ≤ W'.heap.size) (hk : ∀ B, P B → B < W.heap.size → W'.heap[B]? = W.heap[B]? ∧ P' B) : Hq P' W' x y := by
  obtain ⟨nb, n, c, rfl, hP, hlt, p, c', he, q1, q2⟩ := h
  cases he
  have hb := hk nb hP hlt
  refine ⟨nb, _, _, rfl, hb.2, by omega, _, _, rfl, q1, fun a ha i x hx => ?_⟩
  cases ha
  have h0 := q2 _ rfl i x hx
  rw [add_plain] at h0 ⊢
  rw [World.cell?_of_block (w := W) hb.1]
  exact h0
theorem Hq.holds {P : Nat → Prop} {W : World} {x : Value} {y : List UInt8} (h : Hq P W x y) : Lib.HoldsBytes W x y := by
  obtain ⟨nb, n, c, rfl, _, _, h⟩ := h
  exact h
theorem kept {lo k size : Nat} {e : TypeId} {w w' : World} {u : Value} {cells : List Value} (h : w.ownsRow lo e size u k cells) (hk : ∀ B, u.ownBlock = some B → w'.heap[B]? = w.heap[B]?) : w'.ownsRow lo e size u k cells := by
  obtain ⟨h1, h2 | ⟨g, cap, cur, rfl, hB, hg, r⟩⟩ := h
  · exact ⟨h1, .inl h2⟩
  · exact ⟨h1, .inr ⟨g, cap, cur, rfl, hB, by rw [hk g rfl]; exact hg, r⟩⟩
theorem ownShape {lo k size : Nat} {e : TypeId} {w : World} {u : Value} {cells : List Value} (h : w.ownsRow lo e size u k cells) : ∃ a c, u = .slice a k c := by
  obtain ⟨_, ⟨rfl, h2⟩ | ⟨g, cap, cur, rfl, _⟩⟩ := h
  · exact ⟨none, 0, by rw [h2]⟩
  · exact ⟨_, _, rfl⟩
/-- The events, in a list of the call's own. -/
def EQ (lo : Nat) (W : World) (u : Value) (evs : List (List UInt8)) : Prop :=
  ∃ cells, W.ownsRow lo 22 1 u evs.length cells ∧ ∀ (i : Nat) y, evs[i]? = some y → ∃ x, cells[i]? = some x ∧ Hq (fun B => lo ≤ B ∧ u.ownBlock ≠ some B) W x y
theorem EQ.nil (lo : Nat) (W : World) : EQ lo W (.slice none 0 0) [] := ⟨[], World.ownsRow_nil _ _ _ _, fun i t h => by simp at h⟩
theorem EQ.keep {lo : Nat} {w w' : World} {u : Value} {ts : List (List UInt8)} (h : EQ lo w u ts) (hs : w.heap.size ≤ w'.heap.size) (hk : ∀ B, lo ≤ B → B < w.heap.size → w'.heap[B]? = w.heap[B]?) : EQ lo w' u ts := by
  obtain ⟨cells, ho, hc⟩ := h
  refine ⟨cells, kept ho (fun B hB => by have := World.ownsRow.lt ho B hB; exact hk B this.1 this.2), fun i t ht => ?_⟩
  obtain ⟨x, hx, hi⟩ := hc i t ht
  exact ⟨x, hx, hi.keep hs (fun B hB hl => ⟨hk B hB.1 hl, hB⟩)⟩
theorem EQ.app {lo src : Nat} {W : World} {u x : Value} {ts : List (List UInt8)} {y : List UInt8} (h : EQ lo W u ts) (hx : W.cell? ⟨src, 0, none⟩ = some x) (hq : Hq (fun B => lo ≤ B ∧ u.ownBlock ≠ some B) W x y) (hB : lo ≤ W.heap.size) (hl : ts.length ≤ 1000) :
    ∃ u' w', (∀ ty, (Builtin.append_ #[40, 40] ty #[u, .slice (some ⟨src, 0, none⟩) 1 1]).run Try.prog W = .ok u' w') ∧ EQ lo w' u' (ts ++ [y]) ∧ Below lo W w' := by
  obtain ⟨cells, ho, hc⟩ := h
  obtain ⟨i0, hi, hz0, hz1, hz2⟩ := info_parts info22
  have hone : x.oneCell' = true := by obtain ⟨nb, n, c, rfl, _⟩ := hq; rfl
  obtain ⟨u', w', hr, ho', hb, hkeep, hblk⟩ := app1 (src := src) (news := [x]) Try.underlying40 hi hz0 hz1 hz2 rfl (by decide) ho rfl (fun j z hj => by
    rw [add_plain]
    match j, hj with
    | 0, hj => cases hj; exact hx
    | j + 1, hj => simp at hj) (fun z hz => by simp at hz; subst hz; exact hone) hl (by decide) hB
  have hold : ∀ {v : Value} {t : List UInt8}, Hq (fun B => lo ≤ B ∧ u.ownBlock ≠ some B) W v t → Hq (fun B => lo ≤ B ∧ u'.ownBlock ≠ some B) w' v t := fun h => h.keep (hb.size) (fun B hB2 hl => ⟨hkeep B hl hB2.2, hB2.1, by
    rcases hblk with e | e
    · rw [e]; exact hB2.2
    · rw [e]; intro e2; injection e2 with e2; omega⟩)
  have hcl : cells.length = ts.length := by have := ho.1; omega
  refine ⟨u', w', hr, ⟨cells ++ [x], by rw [List.length_append]; exact ho', fun i z hz => ?_⟩, hb⟩
  by_cases hlt : i < ts.length
  · rw [List.getElem?_append_left hlt] at hz
    obtain ⟨d, e0, hd⟩ := hc i z hz
    exact ⟨d, by rw [List.getElem?_append_left (by omega)]; exact e0, hold hd⟩
  · have hi2 : i = ts.length := by
      have := (List.getElem?_eq_some_iff.1 hz).1
      simp at this
      omega
    subst hi2
    rw [List.getElem?_append_right (Nat.le_refl _)] at hz
    simp at hz
    subst hz
    exact ⟨x, by rw [List.getElem?_append_right (by omega), hcl, Nat.sub_self]; rfl, hold hq⟩
/-- v is the list of bytes evs, in blocks of P. -/
def LP (P : Nat → Prop) (W : World) (v : Value) (evs : List (List UInt8)) : Prop :=
  ∃ a c, v = .slice a evs.length c ∧ evs.length ≤ 1000 ∧ ∀ (i : Nat) y, evs[i]? = some y → ∃ B x, a = some ⟨B, 0, none⟩ ∧ P B ∧ W.cell? ⟨B, i, none⟩ = some x ∧ Hq P W x y
theorem LP.keep {P P' : Nat → Prop} {W W' : World} {v : Value} {evs : List (List UInt8)} (h : LP P W v evs) (hs : W.heap.size ≤ W'.heap.size) (hk : ∀ B, P B → B < W.heap.size → W'.heap[B]? = W.heap[B]? ∧ P' B) : LP P' W' v evs := by
  obtain ⟨a, c, hv, hl, hr⟩ := h
  refine ⟨a, c, hv, hl, fun i y hy => ?_⟩
  obtain ⟨B, x, ha, hP, hx, hq⟩ := hr i y hy
  have hb := hk B hP (World.block_lt_of_cell? W _ hx)
  exact ⟨B, x, ha, hb.2, (World.cell?_of_block hb.1).trans hx, hq.keep hs hk⟩
theorem LP.lr {P : Nat → Prop} {W : World} {v : Value} {evs : List (List UInt8)} (h : LP P W v evs) : LR W v evs := by
  obtain ⟨a, c, hv, hl, hr⟩ := h
  refine ⟨a, c, hv, by omega, fun i y hy => ?_⟩
  obtain ⟨B, x, ha, hP, hx, hq⟩ := hr i y hy
  exact ⟨B, 0, x, ha, by rw [Nat.zero_add]; exact hx, hq.holds⟩
theorem EQ.lp {lo : Nat} {W : World} {u : Value} {evs : List (List UInt8)} {P : Nat → Prop} (h : EQ lo W u evs) (hl : evs.length ≤ 1000) (hP : ∀ B, lo ≤ B → B < W.heap.size → P B) : LP P W u evs := by
  obtain ⟨cells, ho, hc⟩ := h
  obtain ⟨a, c, hu⟩ := ownShape ho
  refine ⟨a, c, hu, hl, fun i y hy => ?_⟩
  have hlt : i < evs.length := (List.getElem?_eq_some_iff.1 hy).1
  obtain ⟨x, hx, hq⟩ := hc i y hy
  have ho2 := ho
  obtain ⟨_, ⟨hu2, h2⟩ | ⟨g, cap, cur, hu2, hB, _⟩⟩ := ho
  · omega
  · subst hu2
    cases hu
    have hcell : W.cell? ⟨g, i, none⟩ = some x := by rw [World.ownsRow.cellAt ho2 i (by omega), hx]
    have hg := World.ownsRow.lt ho2 g rfl
    exact ⟨g, x, rfl, hP g hg.1 hg.2, hcell, hq.keep (Nat.le_refl _) (fun B hB hl => ⟨rfl, hP B hB.1 hl⟩)⟩
/-- The writes, in a list of the call's own. -/
def WQ (lo : Nat) (W : World) (u : Value) (ws : List Wt) : Prop :=
  ∃ cells, W.ownsRow lo 42 5 u ws.length cells ∧ ∀ (i : Nat) t, ws[i]? = some t → ∃ v, cells[i * 5]? = some (.string t.br) ∧ cells[i * 5 + 1]? = some (.string t.fk) ∧ cells[i * 5 + 2]? = some (.int .i64 t.kp) ∧ cells[i * 5 + 3]? = some (.int .i64 t.ta) ∧ cells[i * 5 + 4]? = some v ∧ LP (fun B => lo ≤ B ∧ u.ownBlock ≠ some B) W v t.ev
theorem WQ.keep {lo : Nat} {w w' : World} {u : Value} {ts : List Wt} (h : WQ lo w u ts) (hs : w.heap.size ≤ w'.heap.size) (hk : ∀ B, lo ≤ B → B < w.heap.size → w'.heap[B]? = w.heap[B]?) : WQ lo w' u ts := by
  obtain ⟨cells, ho, hc⟩ := h
  refine ⟨cells, kept ho (fun B hB => by have := World.ownsRow.lt ho B hB; exact hk B this.1 this.2), fun i t ht => ?_⟩
  obtain ⟨v, e0, e1, e2, e3, e4, hi⟩ := hc i t ht
  exact ⟨v, e0, e1, e2, e3, e4, hi.keep hs (fun B hB hl => ⟨hk B hB.1 hl, hB⟩)⟩
theorem WQ.wr {lo : Nat} {W : World} {a : Option Addr} {k c : Nat} {ts : List Wt} (h : WQ lo W (.slice a k c) ts) : WR W a ts ∧ k = ts.length := by
  obtain ⟨cells, ho, hc⟩ := h
  obtain ⟨a2, c2, he⟩ := ownShape ho
  cases he
  refine ⟨fun i t ht => ?_, rfl⟩
  have hlt : i < ts.length := (List.getElem?_eq_some_iff.1 ht).1
  obtain ⟨v, e0, e1, e2, e3, e4, hi⟩ := hc i t ht
  have ho2 := ho
  obtain ⟨_, ⟨hu, h2⟩ | ⟨g, cap, cur, hu, hB, _⟩⟩ := ho
  · omega
  · cases hu
    have f : ∀ r x, r < 5 → cells[i * 5 + r]? = some x → W.cell? ⟨g, i * 5 + r, none⟩ = some x := fun r x hr hx => by rw [World.ownsRow.cellAt ho2 (i * 5 + r) (by omega), hx]
    exact ⟨g, 0, v, rfl, by
      rw [Nat.zero_add]
      exact ⟨f 0 _ (by omega) e0, f 1 _ (by omega) e1, f 2 _ (by omega) e2, f 3 _ (by omega) e3, f 4 _ (by omega) e4⟩, hi.lr⟩
/-- The row and the writes of the batch that is read. -/
structure RowsI (lo : Nat) (W : World) (rv : Value) (row : List UInt8) (u : Value) (ws : List Wt) : Prop where
  rw : Hq (fun B => lo ≤ B ∧ u.ownBlock ≠ some B) W rv row
  ws : WQ lo W u ws
theorem RowsI.nil {lo : Nat} {W : World} {rv : Value} {row : List UInt8} (h : Hq (fun B => lo ≤ B) W rv row) : RowsI lo W rv row (.slice none 0 0) [] :=
  ⟨h.keep (Nat.le_refl _) (fun B hB _ => ⟨rfl, hB, fun e => by cases e⟩), [], World.ownsRow_nil _ _ _ _, fun i t h => by simp at h⟩
theorem RowsI.keep {lo : Nat} {W W' : World} {rv u : Value} {row : List UInt8} {ws : List Wt} (h : RowsI lo W rv row u ws) (hs : W.heap.size ≤ W'.heap.size) (hk : ∀ B, lo ≤ B → B < W.heap.size → W'.heap[B]? = W.heap[B]?) : RowsI lo W' rv row u ws :=
  ⟨h.rw.keep hs (fun B hB hl => ⟨hk B hB.1 hl, hB⟩), h.ws.keep hs hk⟩
theorem RowsI.app {lo src : Nat} {W : World} {rv u v : Value} {row : List UInt8} {ts : List Wt} {t : Wt} (h : RowsI lo W rv row u ts) (h5 : At5 W src 0 (.string t.br) (.string t.fk) (.int .i64 t.kp) (.int .i64 t.ta) v) (hv : LP (fun B => lo ≤ B ∧ u.ownBlock ≠ some B) W v t.ev) (hB : lo ≤ W.heap.size) (hl : ts.length ≤ 1000) :
    ∃ ua un uc w', (∀ ty, (Builtin.append_ #[23, 23] ty #[u, .slice (some ⟨src, 0, none⟩) 1 1]).run Try.prog W = .ok (.slice ua un uc) w') ∧ RowsI lo w' rv row (.slice ua un uc) (ts ++ [t]) ∧ Below lo W w' := by
  obtain ⟨hrw, cells, ho, hc⟩ := h
  obtain ⟨i0, hi, hz0, hz1, hz2⟩ := info_parts info42
  have hone : v.oneCell' = true := by obtain ⟨a, c, rfl, _⟩ := hv; rfl
  obtain ⟨u', w', hr, ho', hb, hkeep, hblk⟩ := app1 (src := src) (news := [.string t.br, .string t.fk, .int .i64 t.kp, .int .i64 t.ta, v]) Try.underlying23 hi hz0 hz1 hz2 rfl (by decide) ho rfl (fun j z hj => by
    rw [add_plain]
    obtain ⟨q0, q1, q2, q3, q4⟩ := h5
    match j, hj with
    | 0, hj => cases hj; exact q0
    | 1, hj => cases hj; exact q1
    | 2, hj => cases hj; exact q2
    | 3, hj => cases hj; exact q3
    | 4, hj => cases hj; exact q4
    | j + 5, hj => simp at hj) (fun z hz => by
      simp only [List.mem_cons, List.not_mem_nil, or_false] at hz
      rcases hz with rfl | rfl | rfl | rfl | rfl
      · rfl
      · rfl
      · rfl
      · rfl
      · exact hone) hl (by decide) hB
  have hP : ∀ B, (lo ≤ B ∧ u.ownBlock ≠ some B) → B < W.heap.size → w'.heap[B]? = W.heap[B]? ∧ (lo ≤ B ∧ u'.ownBlock ≠ some B) := fun B hB2 hl => ⟨hkeep B hl hB2.2, hB2.1, by
    rcases hblk with e | e
    · rw [e]; exact hB2.2
    · rw [e]; intro e2; injection e2 with e2; omega⟩
  obtain ⟨ua, uc, rfl⟩ := ownShape ho'
  have hcl : cells.length = ts.length * 5 := ho.1
  refine ⟨ua, _, uc, w', hr, ⟨hrw.keep hb.size hP, cells ++ [.string t.br, .string t.fk, .int .i64 t.kp, .int .i64 t.ta, v], by rw [List.length_append]; exact ho', fun i y hy => ?_⟩, hb⟩
  by_cases hlt : i < ts.length
  · rw [List.getElem?_append_left hlt] at hy
    obtain ⟨d, e0, e1, e2, e3, e4, hq⟩ := hc i y hy
    have g : ∀ r z, r < 5 → cells[i * 5 + r]? = some z → (cells ++ [.string t.br, .string t.fk, .int .i64 t.kp, .int .i64 t.ta, v])[i * 5 + r]? = some z := fun r z hr2 hz => by rw [List.getElem?_append_left (by omega)]; exact hz
    exact ⟨d, g 0 _ (by omega) e0, g 1 _ (by omega) e1, g 2 _ (by omega) e2, g 3 _ (by omega) e3, g 4 _ (by omega) e4, hq.keep hb.size hP⟩
  · have hi2 : i = ts.length := by
      have := (List.getElem?_eq_some_iff.1 hy).1
      simp at this
      omega
    subst hi2
    rw [List.getElem?_append_right (Nat.le_refl _)] at hy
    simp at hy
    subst hy
    have g : ∀ r, r < 5 → (cells ++ [.string t.br, .string t.fk, .int .i64 t.kp, .int .i64 t.ta, v])[ts.length * 5 + r]? = [.string t.br, .string t.fk, .int .i64 t.kp, .int .i64 t.ta, v][r]? := fun r hr2 => by rw [List.getElem?_append_right (by omega), hcl, Nat.add_sub_cancel_left]
    exact ⟨v, g 0 (by omega), g 1 (by omega), g 2 (by omega), g 3 (by omega), g 4 (by omega), hv.keep hb.size hP⟩
/-- Where a loop of reading stands. -/
structure Lp {α : Type} (f : Nat → List UInt8 → Int → List α × List UInt8 × Int) (N : Nat) (R : List α × List UInt8 × Int) (j : Nat) (acc : List α) (l : List UInt8) (e : Int) : Prop where
  tl : R.2 = (f (N - j) l e).2
  hd : e = 0 → R.1 = acc ++ (f (N - j) l e).1
theorem rdE_bad : ∀ (n : Nat) (l : List UInt8) (e : Int), e ≠ 0 → (rdE n l e).2 = (l, e)
  | 0, l, e, _ => rfl
  | n + 1, l, e, h => by
    show (rdE n (sText 4096 l e).2.1 (sText 4096 l e).2.2).2 = (l, e)
    rw [sText_bad h]
    exact rdE_bad n l e h
theorem sNum_bad {m : Int} {l : List UInt8} {e : Int} (h : e ≠ 0) : (sNum m l e).2 = (l, e) := by
  simp [sNum, h]
theorem rdW_bad (l : List UInt8) (e : Int) (h : e ≠ 0) : (rdW l e).2 = (l, e) := by
  have h1 : (r1 l e).2 = (l, e) := by show (sText _ l e).2 = _; rw [sText_bad h]
  have h2 : (r2 l e).2 = (l, e) := by show (sText _ (r1 l e).2.1 (r1 l e).2.2).2 = _; rw [h1]; rw [sText_bad h]
  have h3 : (r3 l e).2 = (l, e) := by show (sNum _ (r2 l e).2.1 (r2 l e).2.2).2 = _; rw [h2]; exact sNum_bad h
  have h4 : (r4 l e).2 = (l, e) := by show (sNum _ (r3 l e).2.1 (r3 l e).2.2).2 = _; rw [h3]; exact sNum_bad h
  have h5 : (r5 l e).2 = (l, e) := by show (sNum _ (r4 l e).2.1 (r4 l e).2.2).2 = _; rw [h4]; exact sNum_bad h
  show (rdE (r5 l e).1.toNat (r5 l e).2.1 (r5 l e).2.2).2 = _
  rw [h5]
  exact rdE_bad _ _ _ h
theorem rdWs_bad : ∀ (n : Nat) (l : List UInt8) (e : Int), e ≠ 0 → (rdWs n l e).2 = (l, e)
  | 0, l, e, _ => rfl
  | n + 1, l, e, h => by
    show (rdWs n (rdW l e).2.1 (rdW l e).2.2).2 = (l, e)
    rw [rdW_bad l e h]
    exact rdWs_bad n l e h
theorem Lp.done {α : Type} {f : Nat → List UInt8 → Int → List α × List UInt8 × Int} {N : Nat} {R : List α × List UInt8 × Int} {acc : List α} {l : List UInt8} {e : Int} (h : Lp f N R N acc l e) (hf : ∀ l e, f 0 l e = ([], l, e)) : R.2 = (l, e) ∧ (e = 0 → R.1 = acc) := by
  obtain ⟨h1, h2⟩ := h
  rw [Nat.sub_self, hf] at h1 h2
  exact ⟨h1, fun h0 => by rw [h2 h0, List.append_nil]⟩
theorem Lp.err {α : Type} {f : Nat → List UInt8 → Int → List α × List UInt8 × Int} {N j : Nat} {R : List α × List UInt8 × Int} {acc : List α} {l : List UInt8} {e : Int} (h : Lp f N R j acc l e) (he : e ≠ 0) (hf : ∀ n l e, e ≠ 0 → (f n l e).2 = (l, e)) : R.2 = (l, e) ∧ (e = 0 → R.1 = acc) :=
  ⟨by rw [h.tl, hf _ _ _ he], fun h0 => absurd h0 he⟩
theorem Lp.moreE {N j : Nat} {R : List (List UInt8) × List UInt8 × Int} {acc : List (List UInt8)} {l X l1 : List UInt8} {e1 : Int} (h : Lp rdE N R j acc l 0) (hj : j < N) (hs : sText 4096 l 0 = (X, l1, e1)) : Lp rdE N R (j + 1) (acc ++ [X]) l1 e1 := by
  obtain ⟨h1, h2⟩ := h
  obtain ⟨n, hn⟩ : ∃ n, N - j = n + 1 := ⟨N - j - 1, by omega⟩
  have hn2 : N - (j + 1) = n := by omega
  have e := rdE_more n l 0 acc
  rw [hs] at e
  dsimp only at e
  rw [hn] at h1 h2
  have h2' := h2 rfl
  exact ⟨by rw [hn2, h1]; injection e, fun _ => by rw [hn2, h2']; injection e⟩
theorem Lp.moreW {N j : Nat} {R : List Wt × List UInt8 × Int} {acc : List Wt} {l l1 : List UInt8} {e1 : Int} {t : Wt} (h : Lp rdWs N R j acc l 0) (hj : j < N) (hs : (rdW l 0).2 = (l1, e1)) (ht : e1 = 0 → t = (rdW l 0).1) : Lp rdWs N R (j + 1) (acc ++ [t]) l1 e1 := by
  obtain ⟨h1, h2⟩ := h
  obtain ⟨n, hn⟩ : ∃ n, N - j = n + 1 := ⟨N - j - 1, by omega⟩
  have hn2 : N - (j + 1) = n := by omega
  have e := rdWs_more n l 0 acc
  rw [hs] at e
  dsimp only at e
  rw [hn] at h1 h2
  have h2' := h2 rfl
  exact ⟨by rw [hn2, h1]; injection e, fun h0 => by rw [hn2, h2', ht h0]; injection e⟩
end Go.Proofs.Ytomkoajhjijplaa
