/- Lists in blocks of the call's own; the contract of the reference's Clone of a value. -/
import Derived.Test.YtocjgcjechhehaaB
import Derived.Lib.AppendZeros
import Derived.Deep.DeepCutAuto
import Derived.Deep.MidRow
import Derived.RangeFuncBox
import Derived.Laws.Rows
import Derived.Laws.Tables
import Derived.Laws.OwnMore
namespace Go.Proofs.Ytocjgcjechhehaa
open Go.ChangeAt Go.ChangeShapes Go.Deep Go.RowKit Go.WideShapes
/-- As Is, all lists in blocks of which P holds, that may be written. -/
def IsQ (P : Nat → Prop) (w : World) : Nat → Value → Tv → Prop
  | 0, _, _ => False
  | n + 1, v, .mk k x b s l => ∃ a c, v = .agg #[.int .i64 k, .int .i64 x, .int .u64 b, .string s, .slice a l.length c] ∧ Fit k x b s l.length c ∧
      ∀ i t, l[i]? = some t → ∃ B o c0 c1 c2 c3 c4, a = some ⟨B, o, none⟩ ∧ (P B ∧ ∀ p, w.frozen? ⟨B, p, none⟩ = false) ∧ At5 w B (o + i * 5) c0 c1 c2 c3 c4 ∧ IsQ P w n (.agg #[c0, c1, c2, c3, c4]) t
theorem IsN.isQ {lo : Nat} {w : World} {P : Nat → Prop} (hP : ∀ B, lo ≤ B → B < w.heap.size → P B) : ∀ {n : Nat} {v : Value} {t : Tv}, IsN lo w n v t → IsQ P w n v t
  | 0, _, _, h => h
  | n + 1, v, .mk k x b s l, ⟨a, c, hv, hf, hr⟩ => ⟨a, c, hv, hf, fun i t ht => by
      obtain ⟨B, o, c0, c1, c2, c3, c4, ha, hB, h5, hi⟩ := hr i t ht
      exact ⟨B, o, c0, c1, c2, c3, c4, ha, ⟨hP B hB.1 (World.block_lt_of_cell? w ⟨B, o + i * 5, none⟩ h5.1), hB.2⟩, h5, hi.isQ hP⟩⟩
theorem IsQ.is {w : World} {P : Nat → Prop} : ∀ {n : Nat} {v : Value} {t : Tv}, IsQ P w n v t → Is w n v t
  | 0, _, _, h => h
  | n + 1, v, .mk k x b s l, ⟨a, c, hv, hf, hr⟩ => ⟨a, c, hv, hf, fun i t ht => by
      obtain ⟨B, o, c0, c1, c2, c3, c4, ha, _, h5, hi⟩ := hr i t ht
      exact ⟨B, o, c0, c1, c2, c3, c4, ha, h5, hi.is⟩⟩
theorem At5.keepB {w w' : World} {B p : Nat} {c0 c1 c2 c3 c4 : Value} (h : At5 w B p c0 c1 c2 c3 c4) (hk : w'.heap[B]? = w.heap[B]?) : At5 w' B p c0 c1 c2 c3 c4 := by
  have f : ∀ q, w'.cell? ⟨B, q, none⟩ = w.cell? ⟨B, q, none⟩ := fun q => World.cell?_of_block hk
  exact ⟨(f _).trans h.1, (f _).trans h.2.1, (f _).trans h.2.2.1, (f _).trans h.2.2.2.1, (f _).trans h.2.2.2.2⟩
/-- A value stays, while its blocks do. -/
theorem IsQ.keep {P P' : Nat → Prop} {w w' : World} (hk : ∀ B q c, P B → w.cell? ⟨B, q, none⟩ = some c → w'.heap[B]? = w.heap[B]? ∧ P' B) : ∀ {n : Nat} {v : Value} {t : Tv}, IsQ P w n v t → IsQ P' w' n v t
  | 0, _, _, h => h
  | n + 1, v, .mk k x b s l, ⟨a, c, hv, hf, hr⟩ => ⟨a, c, hv, hf, fun i t ht => by
      obtain ⟨B, o, c0, c1, c2, c3, c4, ha, hB, h5, hi⟩ := hr i t ht
      have hb := hk B _ _ hB.1 h5.1
      exact ⟨B, o, c0, c1, c2, c3, c4, ha, ⟨hb.2, fun p => (World.frozen?_of_block hb.1).trans (hB.2 p)⟩, h5.keepB hb.1, hi.keep hk⟩⟩
theorem row_kept {lo k : Nat} {w w' : World} {u : Value} {cells : List Value} {e : TypeId} {size : Nat} (h : w.ownsRow lo e size u k cells) (hk : ∀ B cur, u.ownBlock = some B → w.heap[B]? = some (.cells cur e (0, 0)) → w'.heap[B]? = w.heap[B]?) : w'.ownsRow lo e size u k cells := by
  obtain ⟨h1, h2 | ⟨g, cap, cur, rfl, hB, hg, r⟩⟩ := h
  · exact ⟨h1, .inl h2⟩
  · exact ⟨h1, .inr ⟨g, cap, cur, rfl, hB, by rw [hk g cur rfl hg]; exact hg, r⟩⟩
theorem app2 {lo src k size bytes : Nat} {W : World} {u z : Value} {cells news : List Value} {t e : TypeId} {i0 : TypeInfo} (ht : Try.prog.underlying t = some (.slice e)) (hi : Try.prog.info? e = some i0) (hz0 : i0.zero = some z) (hz1 : i0.size = size) (hz2 : i0.bytes = bytes) (hzc : z.cells.size = size) (hsz : 0 < size) (hown : W.ownsRow lo e size u k cells) (hl : news.length = size) (hnews : ∀ j z, news[j]? = some z → W.cell? ((⟨src, 0, none⟩ : Addr).add j) = some z) (hs1 : ∀ z ∈ news, z.oneCell' = true) (hk : k ≤ 4611686018427387904) (hby : (k + 1) * bytes ≤ 140737488355328) (hB : lo ≤ W.heap.size) :
    ∃ u' w', (∀ ty, (Builtin.append_ #[t, t] ty #[u, .slice (some ⟨src, 0, none⟩) 1 1]).run Try.prog W = .ok u' w') ∧ w'.ownsRow lo e size u' (k + 1) (cells ++ news) ∧ Below lo W w' ∧ (∀ B, B < W.heap.size → u.ownBlock ≠ some B → w'.heap[B]? = W.heap[B]?) ∧ (u'.ownBlock = u.ownBlock ∨ u'.ownBlock = some W.heap.size) := by
  have hb1 := hby
  have key : ∀ ty, ∃ v' w', (Builtin.append_ #[t, t] ty #[u, .slice (some ⟨src, 0, none⟩) 1 1]).run Try.prog W = .ok v' w' ∧ w'.ownsRow lo e size v' (k + 1) (cells ++ news) ∧ W.grownBy w' u.ownBlock ∧ _ := fun ty =>
    run_append_own (P := Try.prog) (w := W) lo t ty e i0 z size bytes ht hi hz0 hz1 hz2 hzc hsz u k cells hown ⟨src, 0, none⟩ 1 1 news (by rw [hl, Nat.one_mul]) hnews hs1 (by unfold maxLen; omega) hby hB
  obtain ⟨u', w', hr, hown', hgrow, _⟩ := key t
  have hblk : u'.ownBlock = u.ownBlock ∨ u'.ownBlock = some W.heap.size := by
    have hown2 := hown
    obtain ⟨hcl, ⟨rfl, hn0⟩ | ⟨g, cap, cur, rfl, _, hg, hle, _, hcs, _⟩⟩ := hown2
    · have h2 := run_append_nil (P := Try.prog) W t t e i0 z ht hi hz0 ⟨src, 0, none⟩ 1 1 news (by rw [hz1, hl, Nat.one_mul]) hnews (by omega) (by omega) (by rw [hz2]; have := Nat.le_mul_of_pos_left bytes (show 0 < k + 1 by omega); omega)
      have e := hr.symm.trans h2
      cases e
      exact .inr rfl
    · by_cases hroom : k + 1 ≤ cap
      · have hmul : (k + 1) * size ≤ cap * size := Nat.mul_le_mul_right _ hroom
        have h2 := run_append_room (P := Try.prog) W t t e i0 ht hi g k cap cur hg ⟨src, 0, none⟩ 1 1 news (by rw [hz1, hl, Nat.one_mul]) hnews hs1 hroom (by rw [hz1, hcs, hl]; rw [Nat.add_mul, Nat.one_mul] at hmul; exact hmul)
        have e := hr.symm.trans h2
        cases e
        exact .inl rfl
      · have holds : ∀ j z, cells[j]? = some z → W.cell? ((⟨g, 0, none⟩ : Addr).add j) = some z := hown.cells (g := g) rfl
        have h2 := run_append_grow (P := Try.prog) W t t e i0 z ht hi hz0 ⟨g, 0, none⟩ k cap cells (by rw [hz1]; exact hcl) holds ⟨src, 0, none⟩ 1 1 news (by rw [hz1, hl, Nat.one_mul]) hnews (by omega) (by omega) (growslice_fits (by omega) (by rw [hz2]; exact hby))
        have e := hr.symm.trans h2
        cases e
        exact .inr rfl
  exact ⟨u', w', fun ty => hr, hown', (Below.refl _ W).grown hgrow hB (fun k hk2 => (World.ownsRow.lt hown k hk2).1), fun B hB2 hne => hgrow.block B hB2 (fun e => hne e.symm), hblk⟩
def QV (P : Nat → Prop) (w : World) (n : Nat) (cs : List Value) (t : Tv) : Prop := ∃ c0 c1 c2 c3 c4, cs = [c0, c1, c2, c3, c4] ∧ IsQ P w n (.agg #[c0, c1, c2, c3, c4]) t
theorem QV.keep {P P' : Nat → Prop} {w w' : World} {n : Nat} {cs : List Value} {t : Tv} (hk : ∀ B q c, P B → w.cell? ⟨B, q, none⟩ = some c → w'.heap[B]? = w.heap[B]? ∧ P' B) (h : QV P w n cs t) : QV P' w' n cs t := by
  obtain ⟨c0, c1, c2, c3, c4, e, hi⟩ := h
  exact ⟨c0, c1, c2, c3, c4, e, hi.keep hk⟩
/-- A list of the call's own, in blocks from lo on. -/
def Gr5 (lo n : Nat) (w : World) (u : Value) (xs : List Tv) : Prop :=
  ∃ cells, w.ownsRow lo 27 5 u xs.length cells ∧ ∀ (i : Nat) x, xs[i]? = some x → ∃ cs : List Value, cs.length = 5 ∧ (∀ k c, cs[k]? = some c → cells[i * 5 + k]? = some c) ∧ QV (fun B => lo ≤ B ∧ u.ownBlock ≠ some B) w n cs x
theorem Gr5.nil (lo n : Nat) (w : World) : Gr5 lo n w (.slice none 0 0) [] := ⟨[], World.ownsRow_nil _ _ _ _, fun i t h => by simp at h⟩
theorem Gr5.below {lo n : Nat} {w w' : World} {u : Value} {xs : List Tv} (h : Gr5 lo n w u xs) (hb : Below w.heap.size w w') : Gr5 lo n w' u xs := by
  obtain ⟨cells, ho, hc⟩ := h
  refine ⟨cells, row_kept ho (fun B _ _ hg => hb.block B (Array.getElem?_eq_some_iff.1 hg).1), fun i x hx => ?_⟩
  obtain ⟨cs, h0, h1, hq⟩ := hc i x hx
  exact ⟨cs, h0, h1, QV.keep (fun B q c hB hcl => ⟨hb.block B (World.block_lt_of_cell? w ⟨B, q, none⟩ hcl), hB⟩) hq⟩
theorem Gr5.app {lo n src : Nat} {W : World} {u : Value} {xs : List Tv} {x : Tv} {news : List Value} (h : Gr5 lo n W u xs) (hnews : ∀ j z, news[j]? = some z → W.cell? ((⟨src, 0, none⟩ : Addr).add j) = some z) (hs1 : ∀ z ∈ news, z.oneCell' = true) (hl : news.length = 5) (hQ : QV (fun B => lo ≤ B ∧ u.ownBlock ≠ some B) W n news x) (hB : lo ≤ W.heap.size) (hk : (xs.length + 1) * 64 ≤ 140737488355328) :
    ∃ (a : Option Addr) (c : Nat) (w' : World), (∀ ty, (Builtin.append_ #[25, 25] ty #[u, .slice (some ⟨src, 0, none⟩) 1 1]).run Try.prog W = .ok (.slice a (xs.length + 1) c) w') ∧ Gr5 lo n w' (.slice a (xs.length + 1) c) (xs ++ [x]) ∧ Below lo W w' := by
  obtain ⟨cells, ho, hc⟩ := h
  obtain ⟨i0, hi0, hz0, hz1, hz2⟩ := info_parts info25
  obtain ⟨u', w2, hr, hown', hbl, hkeep, hblk⟩ := app2 (lo := lo) (src := src) (k := xs.length) (t := 25) (news := news) Try.underlying25 hi0 hz0 hz1 hz2 rfl (by decide) ho hl hnews hs1 (by omega) hk hB
  obtain ⟨g', cap', rfl⟩ := ownsRow_succ hown'
  have hold : ∀ B q c, (lo ≤ B ∧ u.ownBlock ≠ some B) → W.cell? ⟨B, q, none⟩ = some c → w2.heap[B]? = W.heap[B]? ∧ (lo ≤ B ∧ (Value.slice (some ⟨g', 0, none⟩) (xs.length + 1) cap').ownBlock ≠ some B) := fun B q c hB hcel => by
    have hB3 : B < W.heap.size := World.block_lt_of_cell? W ⟨B, q, none⟩ hcel
    refine ⟨hkeep B hB3 hB.2, hB.1, ?_⟩
    rcases hblk with e | e
    · rw [e]; exact hB.2
    · rw [e]; intro e2; injection e2 with e2; omega
  have hcl : cells.length = xs.length * 5 := ho.1
  refine ⟨_, _, w2, hr, ⟨cells ++ news, by rw [List.length_append]; exact hown', fun i z hz => ?_⟩, hbl⟩
  by_cases hlt : i < xs.length
  · rw [List.getElem?_append_left hlt] at hz
    obtain ⟨cs, h0, h1, hq⟩ := hc i z hz
    refine ⟨cs, h0, fun k c hkc => ?_, QV.keep hold hq⟩
    have hk13 : k < 5 := by have := (List.getElem?_eq_some_iff.1 hkc).1; omega
    rw [List.getElem?_append_left (by omega)]
    exact h1 k c hkc
  · have hi2 : i = xs.length := by
      have := (List.getElem?_eq_some_iff.1 hz).1
      simp at this
      omega
    subst hi2
    rw [List.getElem?_append_right (Nat.le_refl _)] at hz
    simp at hz
    subst hz
    refine ⟨news, hl, fun k c hkc => ?_, QV.keep hold hQ⟩
    rw [List.getElem?_append_right (by omega), hcl, Nat.add_sub_cancel_left]
    exact hkc
theorem IsQ.isN {lo : Nat} {w : World} {P : Nat → Prop} (hP : ∀ B, P B → lo ≤ B) : ∀ {n : Nat} {v : Value} {t : Tv}, IsQ P w n v t → IsN lo w n v t
  | 0, _, _, h => h
  | n + 1, v, .mk k x b s l, ⟨a, c, hv, hf, hr⟩ => ⟨a, c, hv, hf, fun i t ht => by
      obtain ⟨B, o, c0, c1, c2, c3, c4, ha, hB, h5, hi⟩ := hr i t ht
      exact ⟨B, o, c0, c1, c2, c3, c4, ha, ⟨hP B hB.1, hB.2⟩, h5, hi.isN hP⟩⟩
theorem Gr5.row {lo n : Nat} {w : World} {a : Option Addr} {k c : Nat} {ts : List Tv} (h : Gr5 lo n w (.slice a k c) ts) : RowN lo (IsN lo w n) w a ts := by
  obtain ⟨cells, ho, hc⟩ := h
  intro i t ht
  have hlt : i < ts.length := (List.getElem?_eq_some_iff.1 ht).1
  obtain ⟨cs, h0, h1, c0, c1, c2, c3, c4, rfl, hi⟩ := hc i t ht
  have ho2 := ho
  obtain ⟨_, ⟨hu, h2⟩ | ⟨g, cap, cur, hu, hB, hg, _⟩⟩ := ho
  · omega
  · cases hu
    have f : ∀ r x, r < 5 → [c0, c1, c2, c3, c4][r]? = some x → w.cell? ⟨g, i * 5 + r, none⟩ = some x := fun r x hr hx => by rw [World.ownsRow.cellAt ho2 (i * 5 + r) (by omega), h1 r x hx]
    exact ⟨g, 0, c0, c1, c2, c3, c4, rfl, ⟨hB, fun p => by simp [World.frozen?, hg]⟩, by
      rw [Nat.zero_add]
      exact ⟨f 0 c0 (by omega) rfl, f 1 c1 (by omega) rfl, f 2 c2 (by omega) rfl, f 3 c3 (by omega) rfl, f 4 c4 (by omega) rfl⟩, hi.isN (fun B hB => hB.1)⟩
theorem Gr5.shape {lo n : Nat} {w : World} {u : Value} {ts : List Tv} (h : Gr5 lo n w u ts) : ∃ a c, u = .slice a ts.length c ∧ ts.length ≤ c ∧ c ≤ 9223372036854775807 := by
  obtain ⟨_, ⟨_, ⟨rfl, h2⟩ | ⟨g, cap, cur, rfl, _, _, hle, hm, _⟩⟩, _⟩ := h
  · exact ⟨none, 0, by rw [h2], by omega, by omega⟩
  · unfold maxLen at hm
    exact ⟨_, _, rfl, hle, by omega⟩
theorem v5_new (w : World) (c0 c1 c2 c3 c4 : Value) : ∀ j z, [c0, c1, c2, c3, c4][j]? = some z → (w.alloc (.cells #[c0, c1, c2, c3, c4] 27)).cell? ((⟨w.heap.size, 0, none⟩ : Addr).add j) = some z := by
  intro j z hz
  rw [add_plain, Nat.zero_add]
  obtain ⟨b0, b1, b2, b3, b4⟩ := box_at w c0 c1 c2 c3 c4
  match j, hz with
  | 0, hz => cases hz; exact b0
  | 1, hz => cases hz; exact b1
  | 2, hz => cases hz; exact b2
  | 3, hz => cases hz; exact b3
  | 4, hz => cases hz; exact b4
  | j + 5, hz => simp at hz
def RCloneW (n : Nat) : Prop := ∀ (v : Value) (t : Tv) (w : World), Is w n v t → SmallW n t →
    Calls Try.prog 52 #[v] w fun e w' => (∃ v', e = .returned v' ∧ IsN w.heap.size w' n v' t) ∧ Below w.heap.size w w'
set_option maxHeartbeats 4000000 in
set_option maxRecDepth 100000 in
theorem rcloneW : ∀ n, RCloneW n := by
  intro n
  induction n with
  | zero => intro v t w h; exact h.elim
  | succ n ih =>
    rintro v ⟨k, x, b, s, l⟩ w ⟨a, c, rfl, hf, hr⟩ ⟨hl, hs⟩
    have HIH : Hid (RCloneW n) := ih
    have HR : Hid (Row (Is w n) w a l) := hr
    have HSm : Hid (∀ (i : Nat) t, l[i]? = some t → SmallW n t) := hs
    have HF : Hid (Fit k x b s l.length c) := hf
    have HL : Hid (l.length ≤ 2199023255488) := hl
    generalize hL : l.length = L at HF HL
    have HLL : Hid (l.length = L) := hL
    have p1 := (box_at w (.int .i64 k) (.int .i64 x) (.int .u64 b) (.string s) (.slice a L c)).below (bel1 _ (.cells #[.int .i64 0, .int .i64 0, .int .u64 0, .string ⟨#[]⟩, .slice none 0 0] 27))
    have p2 := box_at' (w.alloc (.cells #[.int .i64 k, .int .i64 x, .int .u64 b, .string s, .slice a L c] 27)) (w.heap.size + 1) (by simp) (.int .i64 0) (.int .i64 0) (.int .u64 0) (.string ⟨#[]⟩) (.slice none 0 0)
    have f1 : ∀ o, ((w.alloc (.cells #[.int .i64 k, .int .i64 x, .int .u64 b, .string s, .slice a L c] 27)).alloc (.cells #[.int .i64 0, .int .i64 0, .int .u64 0, .string ⟨#[]⟩, .slice none 0 0] 27)).frozen? ⟨w.heap.size, o, none⟩ = false := fun o => ((bel1 _ _).frozen (by simp)).trans (fresh w _ o)
    have f2 : ∀ o, ((w.alloc (.cells #[.int .i64 k, .int .i64 x, .int .u64 b, .string s, .slice a L c] 27)).alloc (.cells #[.int .i64 0, .int .i64 0, .int .u64 0, .string ⟨#[]⟩, .slice none 0 0] 27)).frozen? ⟨w.heap.size + 1, o, none⟩ = false := fun o => fresh' _ _ (by simp) _ o
    have hbb : Below w.heap.size w ((w.alloc (.cells #[.int .i64 k, .int .i64 x, .int .u64 b, .string s, .slice a L c] 27)).alloc (.cells #[.int .i64 0, .int .i64 0, .int .u64 0, .string ⟨#[]⟩, .slice none 0 0] 27)) := bel2 (bel1 _ _) (bel1 _ _)
    have hsz : ((w.alloc (.cells #[.int .i64 k, .int .i64 x, .int .u64 b, .string s, .slice a L c] 27)).alloc (.cells #[.int .i64 0, .int .i64 0, .int .u64 0, .string ⟨#[]⟩, .slice none 0 0] 27)).heap.size = w.heap.size + 2 := by simp
    generalize hW0 : (w.alloc (.cells #[.int .i64 k, .int .i64 x, .int .u64 b, .string s, .slice a L c] 27)).alloc (.cells #[.int .i64 0, .int .i64 0, .int .u64 0, .string ⟨#[]⟩, .slice none 0 0] 27) = W0 at p1 p2 f1 f2 hbb hsz
    have HW0 : Hid (_ = W0) := hW0
    have P1 : Hid (At5 W0 w.heap.size 0 (.int .i64 k) (.int .i64 x) (.int .u64 b) (.string s) (.slice a L c)) := p1
    have P2 : Hid (At5 W0 (w.heap.size + 1) 0 (.int .i64 0) (.int .i64 0) (.int .u64 0) (.string ⟨#[]⟩) (.slice none 0 0)) := p2
    have F1 : Hid (∀ o, W0.frozen? ⟨w.heap.size, o, none⟩ = false) := f1
    have F2 : Hid (∀ o, W0.frozen? ⟨w.heap.size + 1, o, none⟩ = false) := f2
    have HBB : Hid (Below w.heap.size w W0) := hbb
    have HSZ : Hid (W0.heap.size = w.heap.size + 2) := hsz
    clear hr hs ih hl hf p1 p2 f1 f2 hbb hsz hW0 hL
    go_enter Try.func52, Try.ntmps52
    go_upto_region 1 with fail
    rw [HW0.out]
    go_wp2_with fail
    go_loopw [3, 4] (fun u i wr => ∃ j : Nat, j ≤ L ∧ i = .int .i64 (j : Int) ∧ Hid (Gr5 W0.heap.size n wr u (l.take j)) ∧ Hid (Below W0.heap.size W0 wr)) (fun _ i _ => L - (intOf i).toNat)
    case atStart => exact ⟨0, Nat.zero_le _, rfl, Gr5.nil _ _ _, Below.refl _ _⟩
    case round =>
      obtain ⟨j, hj, rfl, HG, HB⟩ := hrel
      have P1r := P1.out.below HB.out
      by_cases hlt : j < L
      · obtain ⟨tj, htj⟩ : ∃ tj, l[j]? = some tj := ⟨_, List.getElem?_eq_getElem (by rw [HLL.out]; exact hlt)⟩
        have HTJ : Hid (l[j]? = some tj) := htj
        obtain ⟨B, o, c0, c1, c2, c3, c4, rfl, h5, hi⟩ := HR.out j _ htj
        obtain ⟨k', x', b', s', a', m', c', rfl, rfl, rfl, rfl, rfl⟩ := hi.shape
        have hbw := bel2 HBB.out HB.out
        obtain ⟨e0, e1, e2, e3, e4⟩ := h5.below hbw
        obtain ⟨q0, q1, q2, q3, q4⟩ := P1r
        have C0 := HIH.out _ _ wr (hi.below hbw) (HSm.out j _ htj)
        have HC0 : Hid (Calls _ _ _ _ _) := C0
        have hjl : (j : Int) < (L : Int) := by omega
        obtain ⟨ua, uc, rfl, _, _⟩ := HG.out.shape
        have htl : (l.take j).length = j := by rw [List.length_take, HLL.out]; omega
        rw [htl]
        clear hi h5 C0 hbw htj
        go_wp2_with fail
        refine HC0.out.mono ?_
        rintro e w1 ⟨⟨v1, rfl, hn1⟩, hb1⟩
        obtain ⟨k1, x1, y1, s1, a1, m1, d1, rfl⟩ := hn1.shape
        have hg1 := (HG.out.below hb1).below (bel1 w1 (.cells #[.int .i64 k1, .int .i64 x1, .int .u64 y1, .string s1, .slice a1 m1 d1] 27))
        rw [htl] at hg1
        have hown : ∀ B, (Value.slice ua j uc).ownBlock = some B → B < wr.heap.size := fun B hB => by
          have h := HG.out
          rw [htl] at h
          obtain ⟨cells, ho, _⟩ := h
          exact (World.ownsRow.lt ho B hB).2
        have hQ : QV (fun B => W0.heap.size ≤ B ∧ (Value.slice ua j uc).ownBlock ≠ some B) (w1.alloc (.cells #[.int .i64 k1, .int .i64 x1, .int .u64 y1, .string s1, .slice a1 m1 d1] 27)) n [.int .i64 k1, .int .i64 x1, .int .u64 y1, .string s1, .slice a1 m1 d1] tj := by
          refine ⟨_, _, _, _, _, rfl, (hn1.isQ (P := fun B => W0.heap.size ≤ B ∧ (Value.slice ua j uc).ownBlock ≠ some B) (fun B h1 h2 => ⟨by have := HB.out.size; omega, fun e => by have := hown B e; omega⟩)).keep (fun B q c hB hcel => ⟨(bel1 w1 _).block B (World.block_lt_of_cell? w1 ⟨B, q, none⟩ hcel), hB⟩)⟩
        obtain ⟨ua', uc', w2, hrun, hg2, hb2⟩ := hg1.app (src := w1.heap.size) (v5_new w1 _ _ _ _ _) (by intro z hz; simp at hz; rcases hz with rfl | rfl | rfl | rfl | rfl <;> rfl) rfl hQ (by have := HB.out.size; have := hb1.size; simp; omega) (by rw [htl]; have := HL.out; omega)
        rw [htl] at hrun hg2
        have HG2 : Hid (Gr5 W0.heap.size n w2 (.slice ua' (j + 1) uc') (l.take (j + 1))) := by rw [List.take_add_one, HTJ.out]; exact hg2
        have HB2 : Hid (Below W0.heap.size W0 w2) := (HB.out.trans ((bel2 hb1 (bel1 _ _)).mono HB.out.size)).trans hb2
        have HRun : Hid (∀ ty, _) := hrun
        have HW : Hid (wrap64 ((j : Int) + 1) = ((j + 1 : Nat) : Int)) := wr1 hlt (by have := HL.out; omega)
        clear hn1 hb1 hg1 hown hQ hrun hg2 hb2 HC0 e0 e1 e2 e3 e4 q0 q1 q2 q3 q4
        go_wp2_with (at_builtin; refine Lib.wpList_append_run _ rfl _ _ 25 25 rfl _ _ rfl rfl _ _ (HRun.out _) ?_)
        exact ⟨⟨j + 1, hlt, by first | rw [HW.out] | exact congrArg _ (Int.natCast_succ j).symm, HG2, HB2⟩, by first | exact meas hlt HW.out | exact meas hlt (Int.natCast_succ j).symm⟩
      · obtain rfl : j = L := by omega
        have hta : l.take j = l := by rw [List.take_of_length_le (by rw [HLL.out]; exact Nat.le_refl _)]
        have hG := HG.out
        rw [hta] at hG
        obtain ⟨ua, uc, rfl, hu1, hu2⟩ := hG.shape
        rw [HLL.out] at hG hu1 ⊢
        have HRow : Hid (RowN W0.heap.size (IsN W0.heap.size wr n) wr ua l) := hG.row
        have HU : Hid (j ≤ uc ∧ uc ≤ 9223372036854775807) := ⟨hu1, hu2⟩
        obtain ⟨q0, q1, q2, q3, q4⟩ := P1r
        have HP2 : Hid (At5 wr (w.heap.size + 1) 0 _ _ _ _ _) := P2.out.below HB.out
        obtain ⟨z0, z1, z2, z3, z4⟩ := P2.out.below HB.out
        have hz := HSZ.out
        have g1 : ∀ o, wr.frozen? ⟨w.heap.size, o, none⟩ = false := fun o => (HB.out.frozen (p := ⟨w.heap.size, o, none⟩) (by show w.heap.size < _; omega)).trans (F1.out o)
        have g2 : ∀ o, wr.frozen? ⟨w.heap.size + 1, o, none⟩ = false := fun o => (HB.out.frozen (p := ⟨w.heap.size + 1, o, none⟩) (by show w.heap.size + 1 < _; omega)).trans (F2.out o)
        have y4 := g1 4
        have y0 := g2 0
        have y1 := g2 1
        have y2 := g2 2
        have y3 := g2 3
        have y5 := g2 4
        clear hz g1 g2 hG hu1 hu2 hta
        go_wp2_with fail
        have kb1 := KB.setCell w.heap.size wr 4 (.slice ua j uc)
        have kb2 := set5_kb (wr.setCell ⟨w.heap.size, 4, none⟩ (.slice ua j uc)) (w.heap.size + 1) 0 (.int .i64 k) (.int .i64 x) (.int .u64 b) (.string s) (.slice ua j uc)
        have hz := HSZ.out
        have hbs := HB.out.size
        refine bodyPost_ret (ret5 Try.results52 _ (g := w.heap.size + 1) rfl (set5_at (HP2.out.kb kb1 (by omega)) _ _ _ _ _)) rfl ?_
        refine ⟨⟨_, rfl, ua, uc, by rw [HLL.out], by rw [HLL.out]; exact ⟨HF.out.k0, HF.out.k1, HF.out.x0, HF.out.x1, HF.out.b0, HF.out.b1, HF.out.s1, HU.out.1, HU.out.2⟩, ?_⟩, ?_⟩
        · intro i t ht
          obtain ⟨B, o, d0, d1, d2, d3, d4, ha, hB, h5, hn⟩ := ((HRow.out.kb kb1 (by omega)).kb kb2 (by omega)) i t ht
          exact ⟨B, o, d0, d1, d2, d3, d4, ha, ⟨by have := hB.1; omega, hB.2⟩, h5, hn.lower (by omega)⟩
        · exact ((bel2 HBB.out HB.out).trans (kb1.below (Nat.le_refl _) (by omega))).trans (kb2.below (by omega) (by have := kb1.2.2.2.1; omega))
/-- The cells of cs lie at p of block B. -/
def Lies (w : World) (B p : Nat) (cs : Array Value) : Prop := ∀ j v, cs[j]? = some v → w.cell? ⟨B, p + j, none⟩ = some v
theorem Lies.keep {w w' : World} {B p : Nat} {cs : Array Value} (h : Lies w B p cs) (hb : ∀ a v, a.block = B → w.cell? a = some v → w'.cell? a = some v) : Lies w' B p cs := fun j v hj => hb _ _ rfl (h j v hj)
theorem Lies.below {w w' : World} {B p : Nat} {cs : Array Value} (h : Lies w B p cs) (hb : Below w.heap.size w w') : Lies w' B p cs := fun j v hj => (hb.cell (World.block_lt_of_cell? w _ (h j v hj))).trans (h j v hj)
theorem Lies.row {w : World} {g : Nat} {cs : Array Value} {t : TypeId} {fr : Nat × Nat} (h : w.heap[g]? = some (.cells cs t fr)) : Lies w g 0 cs := fun j v hj => by
  rw [Nat.zero_add, cell_of_row w g j cs t fr h]
  exact hj
/-- Five cells of cs from p on are the value t. -/
def V5 (R : Value → Tv → Prop) (cs : Array Value) (p : Nat) (t : Tv) : Prop :=
  ∃ k x b s a m c, cs[p]? = some (.int .i64 k) ∧ cs[p + 1]? = some (.int .i64 x) ∧ cs[p + 2]? = some (.int .u64 b) ∧ cs[p + 3]? = some (.string s) ∧ cs[p + 4]? = some (.slice a m c) ∧ R (.agg #[.int .i64 k, .int .i64 x, .int .u64 b, .string s, .slice a m c]) t
theorem V5.map {R R' : Value → Tv → Prop} {cs : Array Value} {p : Nat} {t : Tv} (hR : ∀ v, R v t → R' v t) (h : V5 R cs p t) : V5 R' cs p t := by
  obtain ⟨k, x, b, s, a, m, c, h0, h1, h2, h3, h4, h5⟩ := h
  exact ⟨k, x, b, s, a, m, c, h0, h1, h2, h3, h4, hR _ h5⟩
/-- Five cells of an array. -/
def put5 (cs : Array Value) (p : Nat) (c0 c1 c2 c3 c4 : Value) : Array Value := ((((cs.setIfInBounds p c0).setIfInBounds (p + 1) c1).setIfInBounds (p + 2) c2).setIfInBounds (p + 3) c3).setIfInBounds (p + 4) c4
theorem put5_size (cs : Array Value) (p : Nat) (c0 c1 c2 c3 c4 : Value) : (put5 cs p c0 c1 c2 c3 c4).size = cs.size := by simp [put5]
theorem put5_other (cs : Array Value) (p q : Nat) (c0 c1 c2 c3 c4 : Value) (h : q < p ∨ p + 5 ≤ q) : (put5 cs p c0 c1 c2 c3 c4)[q]? = cs[q]? := by
  unfold put5
  rw [Array.getElem?_setIfInBounds_ne (by omega), Array.getElem?_setIfInBounds_ne (by omega), Array.getElem?_setIfInBounds_ne (by omega), Array.getElem?_setIfInBounds_ne (by omega), Array.getElem?_setIfInBounds_ne (by omega)]
theorem put5_v5 {R : Value → Tv → Prop} {cs : Array Value} {p : Nat} {k x b : Int} {s : ByteArray} {a : Option Addr} {m c : Nat} {t : Tv} (hp : p + 5 ≤ cs.size) (h : R (.agg #[.int .i64 k, .int .i64 x, .int .u64 b, .string s, .slice a m c]) t) : V5 R (put5 cs p (.int .i64 k) (.int .i64 x) (.int .u64 b) (.string s) (.slice a m c)) p t := by
  refine ⟨k, x, b, s, a, m, c, ?_, ?_, ?_, ?_, ?_, h⟩ <;> unfold put5 <;> simp [Array.getElem?_setIfInBounds] <;> omega
theorem V5.other {R : Value → Tv → Prop} {cs ds : Array Value} {p : Nat} {t : Tv} (h : V5 R cs p t) (he : ∀ q, p ≤ q → q < p + 5 → ds[q]? = cs[q]?) : V5 R ds p t := by
  obtain ⟨k, x, b, s, a, m, c, h0, h1, h2, h3, h4, h5⟩ := h
  exact ⟨k, x, b, s, a, m, c, (he _ (by omega) (by omega)).trans h0, (he _ (by omega) (by omega)).trans h1, (he _ (by omega) (by omega)).trans h2, (he _ (by omega) (by omega)).trans h3, (he _ (by omega) (by omega)).trans h4, h5⟩
theorem set5_row {w : World} {g p t : Nat} {cs : Array Value} (h : w.heap[g]? = some (.cells cs t (0, 0))) (c0 c1 c2 c3 c4 : Value) : (set5 w g p c0 c1 c2 c3 c4).heap[g]? = some (.cells (put5 cs p c0 c1 c2 c3 c4) t (0, 0)) := by
  have h0 := heap_setCell_same w g p _ t c0 h
  have h1 := heap_setCell_same _ g (p + 1) _ t c1 h0
  have h2 := heap_setCell_same _ g (p + 2) _ t c2 h1
  have h3 := heap_setCell_same _ g (p + 3) _ t c3 h2
  exact heap_setCell_same _ g (p + 4) _ t c4 h3
theorem row_below {W w' : World} (hb : Below W.heap.size W w') {g : Nat} {o : Obj} (h : W.heap[g]? = some o) : w'.heap[g]? = some o := by
  rw [hb.block g (by rcases Nat.lt_or_ge g W.heap.size with h2 | h2; exact h2; rw [Array.getElem?_eq_none h2] at h; cases h), h]
theorem row_cell {w : World} {g j t : Nat} {cs : Array Value} {fr : Nat × Nat} {v : Value} (h : w.heap[g]? = some (.cells cs t fr)) (hj : cs[j]? = some v) : w.cell? ⟨g, j, none⟩ = some v := by
  rw [cell_of_row w g j cs t fr h]
  exact hj
theorem row_kb {g B : Nat} {w w' : World} {o : Obj} (h : w.heap[B]? = some o) (hb : KB g w w') (hg : B ≠ g) : w'.heap[B]? = some o := by
  rw [hb.2.2.2.2 B (by rcases Nat.lt_or_ge B w.heap.size with h2 | h2; exact h2; rw [Array.getElem?_eq_none h2] at h; cases h) hg, h]
theorem blt {g : Nat} {w W W1 : World} (h : Below g w W) (hz : g ≤ W.heap.size) (hb : Below W.heap.size W W1) : Below g w W1 := h.trans (hb.mono hz)
theorem le2 {g m : Nat} (h : g + 2 ≤ m) : g ≤ m := by omega
theorem lt2 (g : Nat) : g < g + 2 := by omega
theorem all_one {cs : Array Value} (h : ∀ (j : Nat) (v : Value), cs[j]? = some v → v.oneCell' = true) : cs.all (·.oneCell') = true := by
  rw [Array.all_eq_true]
  intro i hi
  exact h i _ (Array.getElem?_eq_getElem hi)
theorem V5.one {R : Value → Tv → Prop} {cs : Array Value} {p : Nat} {t : Tv} (h : V5 R cs p t) (j : Nat) (v : Value) (h1 : p ≤ j) (h2 : j < p + 5) (hv : cs[j]? = some v) : v.oneCell' = true := by
  obtain ⟨k, x, b, s, a, m, c, g0, g1, g2, g3, g4, _⟩ := h
  have : j = p ∨ j = p + 1 ∨ j = p + 2 ∨ j = p + 3 ∨ j = p + 4 := by omega
  rcases this with rfl | rfl | rfl | rfl | rfl
  · rw [g0] at hv; cases hv; rfl
  · rw [g1] at hv; cases hv; rfl
  · rw [g2] at hv; cases hv; rfl
  · rw [g3] at hv; cases hv; rfl
  · rw [g4] at hv; cases hv; rfl
theorem setRow_kb (w : World) (g : Nat) (cs : Array Value) : KB g w (w.setRow g cs) := ⟨rfl, rfl, rfl, by rw [setRow_size]; exact Nat.le_refl _, fun k _ h => setRow_other w g k cs h⟩
theorem cell_blk {w w' : World} {a : Addr} {v : Value} (hb : w'.heap[a.block]? = w.heap[a.block]?) (h : w.cell? a = some v) : w'.cell? a = some v := (World.cell?_of_block (w := w) hb).trans h
theorem setCells_kb (g : Nat) : ∀ (vs : List Value) (o : Nat) (w : World), KB g w (w.setCells g o vs)
  | [], _, w => KB.refl g w
  | v :: r, o, w => (KB.setCell g w o v).trans (setCells_kb g r (o + 1) _)
theorem setCells_frozen (g : Nat) (a : Addr) : ∀ (vs : List Value) (o : Nat) (w : World), (w.setCells g o vs).frozen? a = w.frozen? a
  | [], _, _ => rfl
  | _v :: r, o, _w => (setCells_frozen g a r (o + 1) _).trans (World.frozen?_setCell _ _ _ _)
theorem cellW {w w' : World} {a : Addr} {v : Value} (h : w.cell? a = some v) (hb : Below w.heap.size w w') : w'.cell? a = some v := (hb.cell (World.block_lt_of_cell? w a h)).trans h
theorem lies_range {w : World} {B p : Nat} {r : Array Value} (h : Lies w B p r) : w.rangeAt B p r.toList := fun j v hv => h j v (by simpa using hv)
theorem lies_there {w : World} {B p k : Nat} {r : Array Value} (h : Lies w B p r) (hk : k ≤ r.size) (hf : ∀ o, w.frozen? ⟨B, o, none⟩ = false) : w.there B p k := fun j hj => ⟨by rw [h j _ (Array.getElem?_eq_getElem (by omega))]; rfl, hf _⟩
end Go.Proofs.Ytocjgcjechhehaa
