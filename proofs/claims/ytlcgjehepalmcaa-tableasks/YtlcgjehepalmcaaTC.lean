/- Entries in memory of the call's own; the contract of cloneAll. -/
import Derived.Test.YtlcgjehepalmcaaTB
import Derived.Test.YtlcgjehepalmcaaTE
namespace Go.Proofs.Ytlcgjehepalmcaa
open Go.ChangeShapes Go.WideShapes Go.ChangeAt Go.RowKit
theorem info37 : (Try.prog.info? 37).map (fun i => (i.zero, i.size, i.bytes)) = some (some (.agg #[.string ⟨#[]⟩, .int .i64 0, .slice none 0 0, .int .i64 0]), 4, 56) := by kernel_rfl
theorem plain_addr {w : World} {a : Addr} {v : Value} (h : w.cell? a = some v) : a.spot = none := by
  obtain ⟨b, o, s⟩ := a
  unfold World.cell? at h
  cases s with
  | none => rfl
  | some k => split at h <;> simp at h
theorem row_kept {lo k : Nat} {w w' : World} {u : Value} {cells : List Value} {e : TypeId} {size : Nat} (h : w.ownsRow lo e size u k cells) (hk : ∀ B cur, u.ownBlock = some B → w.heap[B]? = some (.cells cur e (0, 0)) → w'.heap[B]? = w.heap[B]?) : w'.ownsRow lo e size u k cells := by
  obtain ⟨h1, h2 | ⟨g, cap, cur, rfl, hB, hg, r⟩⟩ := h
  · exact ⟨h1, .inl h2⟩
  · exact ⟨h1, .inr ⟨g, cap, cur, rfl, hB, by rw [hk g cur rfl hg]; exact hg, r⟩⟩
theorem ownsRow_succ {w : World} {lo e size k : Nat} {v : Value} {cells : List Value} (h : w.ownsRow lo e size v (k + 1) cells) : ∃ g cap, v = .slice (some ⟨g, 0, none⟩) (k + 1) cap := by
  obtain ⟨_, ⟨_, h0⟩ | ⟨g, cap, _, rfl, _⟩⟩ := h
  · omega
  · exact ⟨g, cap, rfl⟩
theorem app2 {lo src k size bytes : Nat} {W : World} {u z : Value} {cells news : List Value} {t e : TypeId} {i0 : TypeInfo} (ht : Try.prog.underlying t = some (.slice e)) (hi : Try.prog.info? e = some i0) (hz0 : i0.zero = some z) (hz1 : i0.size = size) (hz2 : i0.bytes = bytes) (hzc : z.cells.size = size) (hsz : 0 < size) (hown : W.ownsRow lo e size u k cells) (hl : news.length = size) (hnews : ∀ j z, news[j]? = some z → W.cell? ((⟨src, 0, none⟩ : Addr).add j) = some z) (hs1 : ∀ z ∈ news, z.oneCell' = true) (hk : k ≤ 4611686018427387904) (hby : (k + 1) * bytes ≤ 140737488355328) (hB : lo ≤ W.heap.size) :
    ∃ u' w', (∀ ty, (Builtin.append_ #[t, t] ty #[u, .slice (some ⟨src, 0, none⟩) 1 1]).run Try.prog W = .ok u' w') ∧ w'.ownsRow lo e size u' (k + 1) (cells ++ news) ∧ Below lo W w' ∧ (∀ B, B < W.heap.size → u.ownBlock ≠ some B → w'.heap[B]? = W.heap[B]?) ∧ (u'.ownBlock = u.ownBlock ∨ u'.ownBlock = some W.heap.size) := by
  have hb1 := hby
  have key : ∀ ty, ∃ v' w', (Builtin.append_ #[t, t] ty #[u, .slice (some ⟨src, 0, none⟩) 1 1]).run Try.prog W = .ok v' w' ∧ w'.ownsRow lo e size v' (k + 1) (cells ++ news) ∧ W.grownBy w' u.ownBlock ∧ _ := fun ty =>
    run_append_own (P := Try.prog) (w := W) lo t ty e i0 z size bytes ht hi hz0 hz1 hz2 hzc hsz u k cells hown ⟨src, 0, none⟩ 1 1 news (by rw [hl, Nat.one_mul]) hnews hs1 (by unfold maxLen; omega) hby hB
  obtain ⟨u', w', hr, hown', hgrow, _⟩ := key t
  have hblk : u'.ownBlock = u.ownBlock ∨ u'.ownBlock = some W.heap.size := by
    have hown2 := hown
    obtain ⟨hcl, ⟨rfl, hn0⟩ | ⟨g, cap, cur, rfl, _, hg, hle, _, hcs, _⟩⟩ := hown2
    · have h2 := run_append_nil (P := Try.prog) W t t e i0 z ht hi hz0 ⟨src, 0, none⟩ 1 1 news (by rw [hz1, hl, Nat.one_mul]) hnews (by omega) (by omega) (by rw [hz2]; have := Nat.le_mul_of_pos_left bytes (show 0 < k + 1 by omega); omega)
      have e := hr.symm.trans h2
      cases e
      exact .inr rfl
    · by_cases hroom : k + 1 ≤ cap
      · have hmul : (k + 1) * size ≤ cap * size := Nat.mul_le_mul_right _ hroom
        have h2 := run_append_room (P := Try.prog) W t t e i0 ht hi g k cap cur hg ⟨src, 0, none⟩ 1 1 news (by rw [hz1, hl, Nat.one_mul]) hnews hs1 hroom (by rw [hz1, hcs, hl]; rw [Nat.add_mul, Nat.one_mul] at hmul; exact hmul)
        have e := hr.symm.trans h2
        cases e
        exact .inl rfl
      · have holds : ∀ j z, cells[j]? = some z → W.cell? ((⟨g, 0, none⟩ : Addr).add j) = some z := hown.cells (g := g) rfl
        have h2 := run_append_grow (P := Try.prog) W t t e i0 z ht hi hz0 ⟨g, 0, none⟩ k cap cells (by rw [hz1]; exact hcl) holds ⟨src, 0, none⟩ 1 1 news (by rw [hz1, hl, Nat.one_mul]) hnews (by omega) (by omega) (growslice_fits (by omega) (by rw [hz2]; exact hby))
        have e := hr.symm.trans h2
        cases e
        exact .inr rfl
  exact ⟨u', w', fun ty => hr, hown', (Below.refl _ W).grown hgrow hB (fun k hk2 => (World.ownsRow.lt hown k hk2).1), fun B hB2 hne => hgrow.block B hB2 (fun e => hne e.symm), hblk⟩
/-- v holds the bytes l, in a block of which P holds. -/
def HP (P : Nat → Prop) (w : World) (v : Value) (l : List UInt8) : Prop := Lib.HoldsBytes w v l ∧ ∀ a m c, v = .slice (some a) m c → l ≠ [] → P a.block
theorem HP.keep {P P' : Nat → Prop} {w w' : World} {v : Value} {l : List UInt8} (hk : ∀ B q c, P B → w.cell? ⟨B, q, none⟩ = some c → w'.heap[B]? = w.heap[B]? ∧ P' B) (h : HP P w v l) : HP P' w' v l := by
  obtain ⟨⟨p, c, rfl, h1, h2⟩, h3⟩ := h
  by_cases hl : l = []
  · subst hl
    exact ⟨⟨p, c, rfl, h1, fun a ha i x hx => by simp at hx⟩, fun a m c e hne => absurd rfl hne⟩
  · have h0 : 0 < l.length := List.length_pos_iff.2 hl
    cases p with
    | none => exact absurd (h1 rfl) hl
    | some a =>
      have hP := h3 a _ _ rfl hl
      have hc0 := h2 a rfl 0 l[0] (List.getElem?_eq_getElem h0)
      have hs : a.spot = none := by
        have := plain_addr hc0
        obtain ⟨b, o, s⟩ := a
        simpa [Addr.add] using this
      obtain ⟨b, o, s⟩ := a
      subst hs
      rw [add_plain] at hc0
      obtain ⟨hb, hp'⟩ := hk b _ _ hP hc0
      refine ⟨⟨_, c, rfl, (fun e => by cases e), fun a ha i x hx => ?_⟩, fun a m c e _ => by cases e; exact hp'⟩
      cases ha
      have := h2 _ rfl i x hx
      rw [add_plain] at this ⊢
      rw [World.cell?_of_block hb]
      exact this
theorem HN.hp {lo : Nat} {w : World} {v : Value} {l : List UInt8} {P : Nat → Prop} (h : HN lo w v l) (hP : ∀ B, lo ≤ B → B < w.heap.size → P B) : HP P w v l := by
  refine ⟨h.1, fun a m c e hne => hP _ (h.2 a m c e) ?_⟩
  obtain ⟨p, c', e2, h1, h2⟩ := h.1
  rw [e] at e2
  cases e2
  have h0 : 0 < l.length := List.length_pos_iff.2 hne
  have hc0 := h2 a rfl 0 l[0] (List.getElem?_eq_getElem h0)
  have := World.block_lt_of_cell? w _ hc0
  unfold Addr.add at this
  split at this <;> exact this
/-- Four cells are the entry d, its Key in a block of which P holds. -/
def QD (P : Nat → Prop) (w : World) (cs : List Value) (d : Dn) : Prop := ∃ p c, cs = [.string d.s, .int .i64 d.k, .slice p d.y.length c, .int .i64 d.r] ∧ HP P w (.slice p d.y.length c) d.y
theorem QD.keep {P P' : Nat → Prop} {w w' : World} {cs : List Value} {d : Dn} (hk : ∀ B q c, P B → w.cell? ⟨B, q, none⟩ = some c → w'.heap[B]? = w.heap[B]? ∧ P' B) (h : QD P w cs d) : QD P' w' cs d := by
  obtain ⟨p, c, e, hh⟩ := h
  exact ⟨p, c, e, hh.keep hk⟩
/-- A list of the call's own, in blocks from lo on. -/
def Gr4 (lo : Nat) (w : World) (u : Value) (xs : List Dn) : Prop :=
  ∃ cells, w.ownsRow lo 37 4 u xs.length cells ∧ ∀ (i : Nat) x, xs[i]? = some x → ∃ cs : List Value, cs.length = 4 ∧ (∀ k c, cs[k]? = some c → cells[i * 4 + k]? = some c) ∧ QD (fun B => lo ≤ B ∧ u.ownBlock ≠ some B) w cs x
theorem Gr4.nil (lo : Nat) (w : World) : Gr4 lo w (.slice none 0 0) [] := ⟨[], World.ownsRow_nil _ _ _ _, fun i t h => by simp at h⟩
theorem Gr4.below {lo : Nat} {w w' : World} {u : Value} {xs : List Dn} (h : Gr4 lo w u xs) (hb : Below w.heap.size w w') : Gr4 lo w' u xs := by
  obtain ⟨cells, ho, hc⟩ := h
  refine ⟨cells, row_kept ho (fun B _ _ hg => hb.block B (Array.getElem?_eq_some_iff.1 hg).1), fun i x hx => ?_⟩
  obtain ⟨cs, h0, h1, hq⟩ := hc i x hx
  exact ⟨cs, h0, h1, QD.keep (fun B q c hB hcl => ⟨hb.block B (World.block_lt_of_cell? w ⟨B, q, none⟩ hcl), hB⟩) hq⟩
theorem Gr4.app {lo src : Nat} {W : World} {u : Value} {xs : List Dn} {x : Dn} {news : List Value} (h : Gr4 lo W u xs) (hnews : ∀ j z, news[j]? = some z → W.cell? ((⟨src, 0, none⟩ : Addr).add j) = some z) (hs1 : ∀ z ∈ news, z.oneCell' = true) (hl : news.length = 4) (hQ : QD (fun B => lo ≤ B ∧ u.ownBlock ≠ some B) W news x) (hB : lo ≤ W.heap.size) (hk : (xs.length + 1) * 56 ≤ 140737488355328) :
    ∃ (a : Option Addr) (c : Nat) (w' : World), (∀ ty, (Builtin.append_ #[22, 22] ty #[u, .slice (some ⟨src, 0, none⟩) 1 1]).run Try.prog W = .ok (.slice a (xs.length + 1) c) w') ∧ Gr4 lo w' (.slice a (xs.length + 1) c) (xs ++ [x]) ∧ Below lo W w' ∧ (∀ B, B < W.heap.size → u.ownBlock ≠ some B → w'.heap[B]? = W.heap[B]?) := by
  obtain ⟨cells, ho, hc⟩ := h
  obtain ⟨i0, hi0, hz0, hz1, hz2⟩ := info_parts info37
  obtain ⟨u', w2, hr, hown', hbl, hkeep, hblk⟩ := app2 (lo := lo) (src := src) (k := xs.length) (t := 22) (news := news) Try.underlying22 hi0 hz0 hz1 hz2 rfl (by decide) ho hl hnews hs1 (by omega) hk hB
  obtain ⟨g', cap', rfl⟩ := ownsRow_succ hown'
  have hold : ∀ B q c, (lo ≤ B ∧ u.ownBlock ≠ some B) → W.cell? ⟨B, q, none⟩ = some c → w2.heap[B]? = W.heap[B]? ∧ (lo ≤ B ∧ (Value.slice (some ⟨g', 0, none⟩) (xs.length + 1) cap').ownBlock ≠ some B) := fun B q c hB hcel => by
    have hB3 : B < W.heap.size := World.block_lt_of_cell? W ⟨B, q, none⟩ hcel
    refine ⟨hkeep B hB3 hB.2, hB.1, ?_⟩
    rcases hblk with e | e
    · rw [e]; exact hB.2
    · rw [e]; intro e2; injection e2 with e2; omega
  have hcl : cells.length = xs.length * 4 := ho.1
  refine ⟨_, _, w2, hr, ⟨cells ++ news, by rw [List.length_append]; exact hown', fun i z hz => ?_⟩, hbl, hkeep⟩
  by_cases hlt : i < xs.length
  · rw [List.getElem?_append_left hlt] at hz
    obtain ⟨cs, h0, h1, hq⟩ := hc i z hz
    refine ⟨cs, h0, fun k c hkc => ?_, QD.keep hold hq⟩
    have hk13 : k < 4 := by have := (List.getElem?_eq_some_iff.1 hkc).1; omega
    rw [List.getElem?_append_left (by omega)]
    exact h1 k c hkc
  · have hi2 : i = xs.length := by
      have := (List.getElem?_eq_some_iff.1 hz).1
      simp at this
      omega
    subst hi2
    rw [List.getElem?_append_right (Nat.le_refl _)] at hz
    simp at hz
    subst hz
    refine ⟨news, hl, fun k c hkc => ?_, QD.keep hold hQ⟩
    rw [List.getElem?_append_right (by omega), hcl, Nat.add_sub_cancel_left]
    exact hkc
theorem Gr4.shape {lo : Nat} {w : World} {u : Value} {xs : List Dn} (h : Gr4 lo w u xs) : ∃ a c, u = .slice a xs.length c := by
  obtain ⟨_, ⟨_, ⟨rfl, h2⟩ | ⟨g, cap, cur, rfl, _⟩⟩, _⟩ := h
  · exact ⟨none, 0, by rw [h2]⟩
  · exact ⟨_, _, rfl⟩
theorem Gr4.tb {lo : Nat} {w : World} {a : Option Addr} {n c : Nat} {xs : List Dn} (h : Gr4 lo w (.slice a n c) xs) : Tb w a xs := by
  obtain ⟨cells, ho, hc⟩ := h
  intro i d hd
  have hlt : i < xs.length := (List.getElem?_eq_some_iff.1 hd).1
  obtain ⟨cs, h0, h1, p, c', rfl, hh⟩ := hc i d hd
  have ho2 := ho
  obtain ⟨_, ⟨hu, h2⟩ | ⟨g, cap, cur, hu, hB, hg, _⟩⟩ := ho
  · omega
  · cases hu
    have f : ∀ r x, r < 4 → [.string d.s, .int .i64 d.k, .slice p d.y.length c', .int .i64 d.r][r]? = some x → w.cell? ⟨g, 0 + i * 4 + r, none⟩ = some x := fun r x hr hx => by rw [Nat.zero_add, World.ownsRow.cellAt ho2 (i * 4 + r) (by omega), h1 r x hx]
    exact ⟨g, 0, p, c', rfl, ⟨f 0 _ (by omega) rfl, f 1 _ (by omega) rfl, f 2 _ (by omega) rfl, f 3 _ (by omega) rfl⟩, hh.1⟩
theorem Gr4.lower {lo lo' : Nat} {w : World} {u : Value} {xs : List Dn} (h : Gr4 lo w u xs) (hl : lo' ≤ lo) : Gr4 lo' w u xs := by
  obtain ⟨cells, ho, hc⟩ := h
  refine ⟨cells, ?_, fun i x hx => ?_⟩
  · obtain ⟨h1, h2 | ⟨g, cap, cur, rfl, hB, r⟩⟩ := ho
    · exact ⟨h1, .inl h2⟩
    · exact ⟨h1, .inr ⟨g, cap, cur, rfl, by omega, r⟩⟩
  · obtain ⟨cs, h0, h1, hq⟩ := hc i x hx
    exact ⟨cs, h0, h1, hq.keep (fun B q c hB hcl => ⟨rfl, by omega, hB.2⟩)⟩
theorem d4_new (w : World) (c0 c1 c2 c3 : Value) : ∀ j z, [c0, c1, c2, c3][j]? = some z → (w.alloc (.cells #[c0, c1, c2, c3] 37)).cell? ((⟨w.heap.size, 0, none⟩ : Addr).add j) = some z := by
  intro j z hz
  rw [add_plain, Nat.zero_add, cell_of_row _ w.heap.size j _ 37 (0, 0) (heap_alloc_last w _)]
  simpa using hz
theorem d4_one (s : ByteArray) (k : Int) (p : Option Addr) (n c : Nat) (r : Int) : ∀ z ∈ ([.string s, .int .i64 k, .slice p n c, .int .i64 r] : List Value), z.oneCell' = true := by
  intro z hz
  simp only [List.mem_cons, List.not_mem_nil, or_false] at hz
  rcases hz with rfl | rfl | rfl | rfl <;> rfl
/-- What stands behind a clone that is put behind others. -/
def PcP (lo : Nat) (wr : World) (v : Value) (k : Nat) (zs : List Dn) (d : Dn) (e : Ending) (w1 : World) : Prop :=
  ∃ (p : Option Addr) (c : Nat) (a : Option Addr) (c' : Nat) (w2 : World), e = .returned (.agg #[.string d.s, .int .i64 d.k, .slice p d.y.length c, .int .i64 d.r]) ∧ (∀ ty, (Builtin.append_ #[22, 22] ty #[v, .slice (some ⟨w1.heap.size, 0, none⟩) 1 1]).run Try.prog (w1.alloc (.cells #[.string d.s, .int .i64 d.k, .slice p d.y.length c, .int .i64 d.r] 37)) = .ok (.slice a k c') w2) ∧ Hid (Gr4 lo w2 (.slice a k c') zs) ∧ Hid (Below lo wr w2)
theorem pclone_calls (lo : Nat) (d : Dn) (p : Option Addr) (c : Nat) (wr : World) (v : Value) (zs : List Dn) (k : Nat) (hk : zs.length = k) (hh : Lib.HoldsBytes wr (.slice p d.y.length c) d.y) (hy : d.y.length ≤ 140737488355328) (hG : Gr4 lo wr v zs) (hlo : lo ≤ wr.heap.size) (hlen : k ≤ 1000) :
    Calls Try.prog 23 #[.agg #[.string d.s, .int .i64 d.k, .slice p d.y.length c, .int .i64 d.r]] wr (PcP lo wr v (k + 1) (zs ++ [d]) d) := by
  refine (clone_calls d p c wr hh hy).mono ?_
  rintro e w1 ⟨p', c', rfl, ho, hb⟩
  have hown : ∀ B, v.ownBlock = some B → B < wr.heap.size := fun B hB => by
    obtain ⟨cells, ho, _⟩ := hG
    exact (World.ownsRow.lt ho B hB).2
  have hG1 := (hG.below hb).below (bel1 w1 (.cells #[.string d.s, .int .i64 d.k, .slice p' d.y.length c', .int .i64 d.r] 37))
  have hQ : QD (fun B => lo ≤ B ∧ v.ownBlock ≠ some B) (w1.alloc (.cells #[.string d.s, .int .i64 d.k, .slice p' d.y.length c', .int .i64 d.r] 37)) [.string d.s, .int .i64 d.k, .slice p' d.y.length c', .int .i64 d.r] d :=
    ⟨p', c', rfl, ((ho.hn).below (bel1 _ _)).hp (fun B h1 h2 => ⟨by omega, fun e => by have := hown B e; omega⟩)⟩
  obtain ⟨a, ca, w2, hrun, hg2, hb2, _⟩ := hG1.app (src := w1.heap.size) (d4_new w1 _ _ _ _) (d4_one _ _ _ _ _ _) rfl hQ (by have := hb.size; simp; omega) (by omega)
  rw [hk] at hrun hg2
  exact ⟨p', c', a, ca, w2, rfl, hrun, hg2, ((bel2 hb (bel1 _ _)).mono hlo).trans hb2⟩
set_option maxHeartbeats 4000000 in
set_option maxRecDepth 100000 in
theorem cloneAll_calls (ds : List Dn) (a : Option Addr) (n c : Nat) (hn : ds.length = n) (hs : n ≤ 500) (hy : ∀ d ∈ ds, d.y.length ≤ 140737488355328) (w : World) (h : Tb w a ds) :
    Calls Try.prog 26 #[.slice a n c] w fun e w' => ∃ v, e = .returned v ∧ Gr4 w.heap.size w' v ds ∧ Below w.heap.size w w' := by
  have HH : Hid (Tb w a ds) := h
  have HN : Hid (ds.length = n) := hn
  have HL : Hid (n ≤ 500) := hs
  have HY : Hid (∀ d ∈ ds, d.y.length ≤ 140737488355328) := hy
  clear h hn hs hy
  go_enter Try.func26, Try.ntmps26
  go_wp2_with fail
  go_loopw [3, 5, 8] (fun v _ i wr => ∃ j : Nat, j ≤ n ∧ i = .int .i64 (j : Int) ∧ Hid (Gr4 w.heap.size wr v (ds.take j)) ∧ Hid (Below w.heap.size w wr)) (fun _ _ i _ => n - (intOf i).toNat)
  case atStart => exact ⟨0, Nat.zero_le _, rfl, Gr4.nil _ _, Below.refl _ _⟩
  case round =>
    obtain ⟨j, hj, rfl, HG, HB⟩ := hrel
    by_cases hlt : j < n
    · obtain ⟨d, hd⟩ : ∃ d, ds[j]? = some d := ⟨_, List.getElem?_eq_getElem (by rw [HN.out]; exact hlt)⟩
      obtain ⟨B, o, p, cc, rfl, ⟨e0, e1, e2, e3⟩, hh⟩ := (HH.out.below HB.out) j d hd
      obtain ⟨va, vc, hv⟩ := HG.out.shape
      have htl : (ds.take j).length = j := by rw [List.length_take, HN.out]; omega
      rw [htl] at hv
      subst hv
      have hb1 := bel1 wr (.cells #[.string d.s, .int .i64 d.k, .slice p d.y.length cc, .int .i64 d.r] 37)
      have C0 : Hid (Calls Try.prog 23 #[.agg #[.string d.s, .int .i64 d.k, .slice p d.y.length cc, .int .i64 d.r]] (wr.alloc (.cells #[.string d.s, .int .i64 d.k, .slice p d.y.length cc, .int .i64 d.r] 37)) (PcP w.heap.size (wr.alloc (.cells #[.string d.s, .int .i64 d.k, .slice p d.y.length cc, .int .i64 d.r] 37)) (.slice va j vc) (j + 1) (ds.take j ++ [d]) d)) :=
        pclone_calls w.heap.size d p cc _ _ _ j htl (holds_below hh hb1) (HY.out d (List.mem_of_getElem? hd)) (HG.out.below hb1) (by have := HB.out.size; have := hb1.size; omega) (by have := HL.out; omega)
      have HSn : Hid (ds.take j ++ [d] = ds.take (j + 1)) := by show _ = _; rw [List.take_add_one, hd]; rfl
      have HW : Hid (wrap64 ((j : Int) + 1) = ((j + 1 : Nat) : Int)) := wr1 hlt (by have := HL.out; omega)
      have HB1 : Hid (Below w.heap.size w (wr.alloc (.cells #[.string d.s, .int .i64 d.k, .slice p d.y.length cc, .int .i64 d.r] 37))) := HB.out.trans (hb1.mono HB.out.size)
      have n1 : (wr.alloc (.cells #[.string ⟨#[]⟩, .int .i64 0, .slice none 0 0, .int .i64 0] 37)).heap[wr.heap.size]? = some (.cells #[.string ⟨#[]⟩, .int .i64 0, .slice none 0 0, .int .i64 0] 37 (0, 0)) := heap_alloc_last wr _
      have m1 : (wr.alloc (.cells #[.string d.s, .int .i64 d.k, .slice p d.y.length cc, .int .i64 d.r] 37)).heap[wr.heap.size]? = some (.cells #[.string d.s, .int .i64 d.k, .slice p d.y.length cc, .int .i64 d.r] 37 (0, 0)) := heap_alloc_last wr _
      have hjn : (j : Int) < (n : Int) := by omega
      have hz : (#[.string ⟨#[]⟩, .int .i64 0, .slice none 0 0, .int .i64 0] : Array Value).size = (#[.string d.s, .int .i64 d.k, .slice p d.y.length cc, .int .i64 d.r] : Array Value).size := rfl
      have ha := one4 d.s d.k p d.y.length cc d.r
      clear hh hd hb1 htl
      go_upto_region 5 with (refine wpList_store_row rfl 37 _ _ rfl wr.heap.size _ rfl rfl 37 _ n1 info37s hz ha ?_)
      rw [World.setRow_alloc_new]
      generalize wr.alloc (.cells #[.string d.s, .int .i64 d.k, .slice p d.y.length cc, .int .i64 d.r] 37) = W1 at C0 HB1 m1 ⊢
      clear e0 e1 e2 e3 n1 hz ha
      go_wp2_with (refine wpList_load_row rfl 37 _ rfl wr.heap.size rfl 37 _ (0, 0) _ m1 Try.underlying37 rfl info37s ?_)
      refine C0.out.mono ?_
      rintro e w1 ⟨p', c', ra, rc, w2, rfl, hrun, hg, hb⟩
      have HRun : Hid (∀ ty, _) := hrun
      rw [HSn.out] at hg
      clear hrun C0 m1
      go_wp2_with (at_builtin; refine Lib.wpList_append_run _ rfl _ _ 22 22 rfl _ _ rfl rfl _ _ (HRun.out _) ?_)
      exact ⟨⟨j + 1, hlt, by first | rw [HW.out] | exact congrArg _ (Int.natCast_succ j).symm, hg, HB1.out.trans hb.out⟩, by first | exact meas hlt HW.out | exact meas hlt (Int.natCast_succ j).symm⟩
    · obtain rfl : j = n := by omega
      have hta : ds.take j = ds := by rw [List.take_of_length_le (by rw [HN.out]; exact Nat.le_refl _)]
      rw [hta] at HG
      have hjn : decide ((j : Int) < (j : Int)) = false := decide_eq_false (by omega)
      go_wp2_with fail
      go_ret
      exact ⟨_, rfl, HG.out, HB.out⟩
end Go.Proofs.Ytlcgjehepalmcaa
