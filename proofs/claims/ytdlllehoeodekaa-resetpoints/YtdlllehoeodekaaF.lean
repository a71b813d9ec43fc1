/- Lists of events in memory of the call's own; a clone is put behind. -/
import Derived.Test.YtdlllehoeodekaaE
namespace Go.Proofs.Ytdlllehoeodekaa
open Go.ChangeAt Go.ChangeShapes Go.Deep Go.RowKit Go.WideShapes
theorem app1 {lo src k size bytes : Nat} {W : World} {u z : Value} {cells news : List Value} {t e : TypeId} {i0 : TypeInfo} (ht : Try.prog.underlying t = some (.slice e)) (hi : Try.prog.info? e = some i0) (hz0 : i0.zero = some z) (hz1 : i0.size = size) (hz2 : i0.bytes = bytes) (hzc : z.cells.size = size) (hsz : 0 < size) (hown : W.ownsRow lo e size u k cells) (hl : news.length = size) (hnews : ∀ j z, news[j]? = some z → W.cell? ((⟨src, 0, none⟩ : Addr).add j) = some z) (hs1 : ∀ z ∈ news, z.oneCell' = true) (hk : k ≤ 1000) (hby : bytes ≤ 1000) (hB : lo ≤ W.heap.size) :
    ∃ u' w', (∀ ty, (Builtin.append_ #[t, t] ty #[u, .slice (some ⟨src, 0, none⟩) 1 1]).run Try.prog W = .ok u' w') ∧ w'.ownsRow lo e size u' (k + 1) (cells ++ news) ∧ Below lo W w' ∧ (∀ B, B < W.heap.size → u.ownBlock ≠ some B → w'.heap[B]? = W.heap[B]?) ∧ (u'.ownBlock = u.ownBlock ∨ u'.ownBlock = some W.heap.size) := by
  have hb1 : (k + 1) * bytes ≤ 1001 * 1000 := Nat.mul_le_mul (by omega) hby
  have key : ∀ ty, ∃ v' w', (Builtin.append_ #[t, t] ty #[u, .slice (some ⟨src, 0, none⟩) 1 1]).run Try.prog W = .ok v' w' ∧ w'.ownsRow lo e size v' (k + 1) (cells ++ news) ∧ W.grownBy w' u.ownBlock ∧ _ := fun ty =>
    run_append_own (P := Try.prog) (w := W) lo t ty e i0 z size bytes ht hi hz0 hz1 hz2 hzc hsz u k cells hown ⟨src, 0, none⟩ 1 1 news (by rw [hl, Nat.one_mul]) hnews hs1 (by unfold maxLen; omega) (by omega) hB
  obtain ⟨u', w', hr, hown', hgrow, _⟩ := key t
  have hblk : u'.ownBlock = u.ownBlock ∨ u'.ownBlock = some W.heap.size := by
    have hown2 := hown
    obtain ⟨hcl, ⟨rfl, hn0⟩ | ⟨g, cap, cur, rfl, _, hg, hle, _, hcs, _⟩⟩ := hown2
    · have h2 := run_append_nil (P := Try.prog) W t t e i0 z ht hi hz0 ⟨src, 0, none⟩ 1 1 news (by rw [hz1, hl, Nat.one_mul]) hnews (by omega) (by omega) (by rw [hz2]; omega)
      have e := hr.symm.trans h2
      cases e
      exact .inr rfl
    · by_cases hroom : k + 1 ≤ cap
      · have hmul : (k + 1) * size ≤ cap * size := Nat.mul_le_mul_right _ hroom
        have h2 := run_append_room (P := Try.prog) W t t e i0 ht hi g k cap cur hg ⟨src, 0, none⟩ 1 1 news (by rw [hz1, hl, Nat.one_mul]) hnews hs1 hroom (by rw [hz1, hcs, hl]; rw [Nat.add_mul, Nat.one_mul] at hmul; exact hmul)
        have e := hr.symm.trans h2
        cases e
        exact .inl rfl
      · have holds : ∀ j z, cells[j]? = some z → W.cell? ((⟨g, 0, none⟩ : Addr).add j) = some z := hown.cells (g := g) rfl
        have h2 := run_append_grow (P := Try.prog) W t t e i0 z ht hi hz0 ⟨g, 0, none⟩ k cap cells (by rw [hz1]; exact hcl) holds ⟨src, 0, none⟩ 1 1 news (by rw [hz1, hl, Nat.one_mul]) hnews (by omega) (by omega) (growslice_fits (by omega) (by rw [hz2]; omega))
        have e := hr.symm.trans h2
        cases e
        exact .inr rfl
  exact ⟨u', w', fun ty => hr, hown', (Below.refl _ W).grown hgrow hB (fun k hk2 => (World.ownsRow.lt hown k hk2).1), fun B hB2 hne => hgrow.block B hB2 (fun e => hne e.symm), hblk⟩
/-- As Is, all lists in blocks of which P holds, that may be written. -/
def IsQ (P : Nat → Prop) (w : World) : Nat → Value → Tv → Prop
  | 0, _, _ => False
  | n + 1, v, .mk k x b s l => ∃ a c, v = .agg #[.int .i64 k, .int .i64 x, .int .u64 b, .string s, .slice a l.length c] ∧ Fit k x b s l.length c ∧
      ∀ i t, l[i]? = some t → ∃ B o c0 c1 c2 c3 c4, a = some ⟨B, o, none⟩ ∧ (P B ∧ ∀ p, w.frozen? ⟨B, p, none⟩ = false) ∧ At5 w B (o + i * 5) c0 c1 c2 c3 c4 ∧ IsQ P w n (.agg #[c0, c1, c2, c3, c4]) t
theorem IsN.isQ {lo : Nat} {w : World} {P : Nat → Prop} (hP : ∀ B, lo ≤ B → B < w.heap.size → P B) : ∀ {n : Nat} {v : Value} {t : Tv}, IsN lo w n v t → IsQ P w n v t
  | 0, _, _, h => h
  | n + 1, v, .mk k x b s l, ⟨a, c, hv, hf, hr⟩ => ⟨a, c, hv, hf, fun i t ht => by
      obtain ⟨B, o, c0, c1, c2, c3, c4, ha, hB, h5, hi⟩ := hr i t ht
      exact ⟨B, o, c0, c1, c2, c3, c4, ha, ⟨hP B hB.1 (World.block_lt_of_cell? w ⟨B, o + i * 5, none⟩ h5.1), hB.2⟩, h5, hi.isQ hP⟩⟩
theorem IsQ.is {w : World} {P : Nat → Prop} : ∀ {n : Nat} {v : Value} {t : Tv}, IsQ P w n v t → Is w n v t
  | 0, _, _, h => h
  | n + 1, v, .mk k x b s l, ⟨a, c, hv, hf, hr⟩ => ⟨a, c, hv, hf, fun i t ht => by
      obtain ⟨B, o, c0, c1, c2, c3, c4, ha, _, h5, hi⟩ := hr i t ht
      exact ⟨B, o, c0, c1, c2, c3, c4, ha, h5, hi.is⟩⟩
theorem At5.keepB {w w' : World} {B p : Nat} {c0 c1 c2 c3 c4 : Value} (h : At5 w B p c0 c1 c2 c3 c4) (hk : w'.heap[B]? = w.heap[B]?) : At5 w' B p c0 c1 c2 c3 c4 := by
  have f : ∀ q, w'.cell? ⟨B, q, none⟩ = w.cell? ⟨B, q, none⟩ := fun q => World.cell?_of_block hk
  exact ⟨(f _).trans h.1, (f _).trans h.2.1, (f _).trans h.2.2.1, (f _).trans h.2.2.2.1, (f _).trans h.2.2.2.2⟩
/-- A value stays, while its blocks do. -/
theorem IsQ.keep {P P' : Nat → Prop} {w w' : World} (hk : ∀ B q c, P B → w.cell? ⟨B, q, none⟩ = some c → w'.heap[B]? = w.heap[B]? ∧ P' B) : ∀ {n : Nat} {v : Value} {t : Tv}, IsQ P w n v t → IsQ P' w' n v t
  | 0, _, _, h => h
  | n + 1, v, .mk k x b s l, ⟨a, c, hv, hf, hr⟩ => ⟨a, c, hv, hf, fun i t ht => by
      obtain ⟨B, o, c0, c1, c2, c3, c4, ha, hB, h5, hi⟩ := hr i t ht
      have hb := hk B _ _ hB.1 h5.1
      exact ⟨B, o, c0, c1, c2, c3, c4, ha, ⟨hb.2, fun p => (World.frozen?_of_block hb.1).trans (hB.2 p)⟩, h5.keepB hb.1, hi.keep hk⟩⟩
/-- The events ys, in a list u of the call's own, all behind block Bo. -/
def Es (Bo N : Nat) (w : World) (u : Value) (ys : List Ev) : Prop :=
  ∃ cells, w.ownsRow Bo 38 13 u ys.length cells ∧ ∀ (i : Nat) y, ys[i]? = some y → ∃ r : Rw, (∀ k c, r.cells[k]? = some c → cells[i * 13 + k]? = some c) ∧ ∃ tv, y = r.ev tv ∧ IsQ (fun B => Bo < B ∧ u.ownBlock ≠ some B) w (N + 1) r.vv tv
theorem Es.nil (Bo N : Nat) (w : World) : Es Bo N w (.slice none 0 0) [] := ⟨[], World.ownsRow_nil _ _ _ _, fun i t h => by simp at h⟩
theorem row_kept {lo k : Nat} {w w' : World} {u : Value} {cells : List Value} {e : TypeId} {size : Nat} (h : w.ownsRow lo e size u k cells) (hk : ∀ B cur, u.ownBlock = some B → w.heap[B]? = some (.cells cur e (0, 0)) → w'.heap[B]? = w.heap[B]?) : w'.ownsRow lo e size u k cells := by
  obtain ⟨h1, h2 | ⟨g, cap, cur, rfl, hB, hg, r⟩⟩ := h
  · exact ⟨h1, .inl h2⟩
  · exact ⟨h1, .inr ⟨g, cap, cur, rfl, hB, by rw [hk g cur rfl hg]; exact hg, r⟩⟩
/-- The list stays, while its blocks do. -/
theorem Es.keep {Bo N : Nat} {w w' : World} {u : Value} {ys : List Ev} (h : Es Bo N w u ys) (hr : ∀ B cur, u.ownBlock = some B → w.heap[B]? = some (.cells cur 38 (0, 0)) → w'.heap[B]? = w.heap[B]?) (hk : ∀ B q c, Bo < B → w.cell? ⟨B, q, none⟩ = some c → w'.heap[B]? = w.heap[B]?) : Es Bo N w' u ys := by
  obtain ⟨cells, ho, hc⟩ := h
  refine ⟨cells, row_kept ho hr, fun i y hy => ?_⟩
  obtain ⟨r, h1, tv, h2, hq⟩ := hc i y hy
  exact ⟨r, h1, tv, h2, hq.keep (fun B q c hB hcl => ⟨hk B q c hB.1 hcl, hB⟩)⟩
theorem Es.below {Bo N : Nat} {w w' : World} {u : Value} {ys : List Ev} (h : Es Bo N w u ys) (hb : Below w.heap.size w w') : Es Bo N w' u ys :=
  h.keep (fun B _ _ hg => hb.block B (Array.getElem?_eq_some_iff.1 hg).1) (fun B q _ _ hc => hb.block B (World.block_lt_of_cell? w ⟨B, q, none⟩ hc))
theorem es_own (Bo N : Nat) {β : Type} (u : β → Value) (f : β → List Ev) : Own (fun s W => Es Bo N W (u s) (f s)) := fun s X Y row hs hg hr =>
  Es.keep hs (fun _ _ _ hB => grownBy_keeps_cells hg hr hB rfl) (fun B q c _ hc => by
    obtain ⟨o, ho, hcl⟩ := cells_of_cell hc
    exact grownBy_keeps_cells hg hr ho hcl)
theorem info40 : (Try.prog.info? 38).map (fun i => (i.zero, i.size, i.bytes)) = some (some (.agg #[.int .i64 0, .int .i64 0, .int .i64 0, .int .i64 0, .string ⟨#[]⟩, .int .i64 0, .int .i64 0, .int .u64 0, .string ⟨#[]⟩, .slice none 0 0, .int .i64 0, .int .u64 0, .int .i64 0]), 13, 136) := by kernel_rfl
theorem keepsO {W W' : World} (h : Below W.heap.size W W') : KeepsOthers W W' := ⟨h.size, fun k _ hk _ => (h.block k (Array.getElem?_eq_some_iff.1 hk).1).trans hk⟩
/-- What stands when a clone was put behind. -/
def Bg (Bo N : Nat) (W W' : World) (v' : Value) (ys : List Ev) : Prop := KeepsOthers W W' ∧ Below Bo W W' ∧ Boxed W' Bo 22 v' ∧ Es Bo N W' v' ys
theorem rw_one (r : Rw) : ∀ z ∈ r.cells, z.oneCell' = true := by
  intro z hz
  simp only [Rw.cells, List.mem_cons, List.not_mem_nil, or_false] at hz
  rcases hz with rfl | rfl | rfl | rfl | rfl | rfl | rfl | rfl | rfl | rfl | rfl | rfl | rfl <;> rfl
theorem rw_new (w : World) (r : Rw) : ∀ j z, r.cells[j]? = some z → (w.alloc (.cells #[.int .i64 r.k, .int .i64 r.t, .int .i64 r.n, .int .i64 r.d, .string r.s, .int .i64 r.vk, .int .i64 r.vx, .int .u64 r.vb, .string r.vs, .slice r.la r.ll r.lc, .int .i64 r.f, .int .u64 (r.c : Int), .int .i64 r.m] 38)).cell? ((⟨w.heap.size, 0, none⟩ : Addr).add j) = some z := by
  intro j z hz
  rw [add_plain, Nat.zero_add]
  have e : (w.alloc (.cells #[.int .i64 r.k, .int .i64 r.t, .int .i64 r.n, .int .i64 r.d, .string r.s, .int .i64 r.vk, .int .i64 r.vx, .int .u64 r.vb, .string r.vs, .slice r.la r.ll r.lc, .int .i64 r.f, .int .u64 (r.c : Int), .int .i64 r.m] 38)).heap[w.heap.size]? = some (.cells #[.int .i64 r.k, .int .i64 r.t, .int .i64 r.n, .int .i64 r.d, .string r.s, .int .i64 r.vk, .int .i64 r.vx, .int .u64 r.vb, .string r.vs, .slice r.la r.ll r.lc, .int .i64 r.f, .int .u64 (r.c : Int), .int .i64 r.m] 38 (0, 0)) := World.alloc_heap_new w _
  simp only [World.cell?, e]
  rw [← hz]
  simp [Rw.cells]
theorem col_app (N Bo : Nat) (r' : Rw) (tv : Tv) (y : Ev) (lo : Nat) (W w1 : World) (v : Value) (ys : List Ev) (hv : Boxed W Bo 22 v) (hes : Es Bo N W v ys) (hlen : ys.length ≤ 1000) (hlo : W.heap.size ≤ lo) (hb : Below W.heap.size W w1) (hy : y = r'.ev tv) (hi : IsN lo w1 (N + 1) r'.vv tv) :
    ∃ (a' : Option Addr) (c' : Nat) (w2 : World), w1.cell? ⟨Bo, 0, none⟩ = some v ∧ (∀ ty, (Builtin.append_ #[22, 22] ty #[v, .slice (some ⟨w1.heap.size, 0, none⟩) 1 1]).run Try.prog (w1.alloc (.cells #[.int .i64 r'.k, .int .i64 r'.t, .int .i64 r'.n, .int .i64 r'.d, .string r'.s, .int .i64 r'.vk, .int .i64 r'.vx, .int .u64 r'.vb, .string r'.vs, .slice r'.la r'.ll r'.lc, .int .i64 r'.f, .int .u64 (r'.c : Int), .int .i64 r'.m] 38)) = .ok (.slice a' (ys.length + 1) c') w2) ∧ w2.cell? ⟨Bo, 0, none⟩ = some v ∧ w2.frozen? ⟨Bo, 0, none⟩ = false ∧ Bg Bo N W (w2.setCell ⟨Bo, 0, none⟩ (.slice a' (ys.length + 1) c')) (.slice a' (ys.length + 1) c') (ys ++ [y]) := by
  obtain ⟨W3, hW3⟩ : ∃ W3, W3 = w1.alloc (.cells #[.int .i64 r'.k, .int .i64 r'.t, .int .i64 r'.n, .int .i64 r'.d, .string r'.s, .int .i64 r'.vk, .int .i64 r'.vx, .int .u64 r'.vb, .string r'.vs, .slice r'.la r'.ll r'.lc, .int .i64 r'.f, .int .u64 (r'.c : Int), .int .i64 r'.m] 38) := ⟨_, rfl⟩
  have hb3 : Below W.heap.size W W3 := by rw [hW3]; exact bel2 hb (bel1 _ _)
  have hs3 : W3.heap.size = w1.heap.size + 1 := by rw [hW3]; simp
  have hv1 : Boxed w1 Bo 22 v := (hb.block Bo hv.lt).trans hv
  have hv3 : Boxed W3 Bo 22 v := (hb3.block Bo hv.lt).trans hv
  obtain ⟨cells, ho, hc⟩ := hes.below hb3
  obtain ⟨i0, hi0, hz0, hz1, hz2⟩ := info_parts info40
  obtain ⟨u', w2, hr, hown', hbl, hkeep, hblk⟩ := app1 (lo := Bo) (src := w1.heap.size) (k := ys.length) (t := 22) (news := r'.cells) Try.underlying22 hi0 hz0 hz1 hz2 rfl (by decide) ho rfl (by rw [hW3]; exact rw_new w1 r') (rw_one r') hlen (by decide) (by have := hv3.lt; omega)
  rw [hW3] at hr
  obtain ⟨g', cap', rfl⟩ := ownsRow_succ hown'
  have hnr := hv3.not_row (by decide) ho
  have hv2 : Boxed w2 Bo 22 v := (hkeep Bo hv3.lt (fun e => hnr e.symm)).trans hv3
  have hnr2 := hv2.not_row (by decide) hown'
  refine ⟨_, _, w2, hv1.cell, hr, hv2.cell, hv2.frozen, ?_, ?_, hv2.set _, ?_⟩
  · refine ((keepsO hb3).trans ⟨hbl.size, fun k o hk hoc => ?_⟩).trans (KeepsOthers.setCell _ _ _)
    refine (hkeep k (Array.getElem?_eq_some_iff.1 hk).1 (fun e => ?_)).trans hk
    obtain ⟨_, ⟨rfl, _⟩ | ⟨g, cap, cur, rfl, _, hg, _⟩⟩ := ho
    · cases e
    · simp only [Value.ownBlock, Option.some.injEq] at e
      rw [e, hk] at hg
      cases hg
      cases hoc
  · exact ((hb3.mono (Nat.le_of_lt hv.lt)).trans hbl).setCell (p := ⟨Bo, 0, none⟩) (Nat.le_refl _) _
  · have hown2 : w2.ownsRow Bo 38 13 (.slice (some ⟨g', 0, none⟩) (ys.length + 1) cap') (ys ++ [y]).length (cells ++ r'.cells) := by rw [List.length_append]; exact hown'
    have hcl : cells.length = ys.length * 13 := ho.1
    have es2 : Es Bo N w2 (.slice (some ⟨g', 0, none⟩) (ys.length + 1) cap') (ys ++ [y]) := by
      refine ⟨cells ++ r'.cells, hown2, fun i x hx => ?_⟩
      by_cases hlt : i < ys.length
      · rw [List.getElem?_append_left hlt] at hx
        obtain ⟨r, h1, tv', h2, hq⟩ := hc i x hx
        refine ⟨r, fun k c hk => ?_, tv', h2, hq.keep (fun B q c hB hcel => ?_)⟩
        · have hk13 : k < 13 := by have := (List.getElem?_eq_some_iff.1 hk).1; simpa [Rw.cells] using this
          rw [List.getElem?_append_left (by omega)]
          exact h1 k c hk
        · have hB3 : B < W3.heap.size := World.block_lt_of_cell? W3 ⟨B, q, none⟩ hcel
          refine ⟨hkeep B hB3 hB.2, hB.1, ?_⟩
          rcases hblk with e | e
          · rw [e]; exact hB.2
          · rw [e]; intro e2; injection e2 with e2; omega
      · have hi2 : i = ys.length := by
          have := (List.getElem?_eq_some_iff.1 hx).1
          simp at this
          omega
        subst hi2
        rw [List.getElem?_append_right (Nat.le_refl _)] at hx
        simp at hx
        subst hx
        refine ⟨r', fun k c hk => ?_, tv, hy, ?_⟩
        · rw [List.getElem?_append_right (by omega), hcl, Nat.add_sub_cancel_left]
          exact hk
        · refine (hi.isQ (P := fun B => W.heap.size ≤ B ∧ B < w1.heap.size) (fun B h1 h2 => ⟨by omega, h2⟩)).keep (fun B q c hB hcel => ?_)
          have hne : v.ownBlock ≠ some B := fun e => by
            have := (World.ownsRow.lt (show W.ownsRow Bo 38 13 v ys.length _ from hes.choose_spec.1) B e).2
            omega
          have e13 : W3.heap[B]? = w1.heap[B]? := by rw [hW3]; exact (bel1 w1 _).block B hB.2
          refine ⟨(hkeep B (by omega) hne).trans e13, by have := hv.lt; omega, ?_⟩
          rcases hblk with e | e
          · rw [e]; exact hne
          · rw [e]; intro e2; injection e2 with e2; omega
    exact es2.keep (fun B cur hB hcur => Below.heap_setCell _ _ _ _ (fun e => hnr2 (by have e' : B = Bo := e; rw [← e']; exact hB.symm))) (fun B q c hB hcel => Below.heap_setCell _ _ _ _ (by show B ≠ Bo; omega))
theorem step_append_runIn {F : Fence} {n : Nat} {P : Program} {ops : Array Oper} {o : Oper} {a : Act} {w : World} {K : Act → World → Prop} {Q : Exit → Act → World → Prop} {E : Prop} (hg : o.guard = none) (s x : Operand) (t : TypeId) (hop : o.op = Op.call { callee := Callee.builtin Builtin.append, args := #[s, x], argTypes := #[t, t] })
    (v xv : Value) (hs : a.eval s = v) (hx : a.eval x = xv) (v' : Value) (w' : World) (hrun : ∀ ty, (Builtin.append_ #[t, t] ty #[v, xv]).run P w = .ok v' w') (hK : K (a.put o.dst v') w') :
    if Region.wanted o (yielded ops a.tmps) = true then Oper.wpIn F n P o a w K Q else E := by
  simp only [Region.wanted, hg, if_true]
  unfold Oper.wpIn
  refine ⟨?_, ?_⟩
  · simp [Oper.about, hop, resolve, Target.leads, Sem.run_pure]
  · rw [Oper.semAt_plain F _ _ (by rw [hop]; intro c hc'; cases hc')]
    simp [execOp, hop, resolve, invoke, builtin, hs, hx, hrun, Result.andThen]
    exact hK
end Go.Proofs.Ytdlllehoeodekaa
