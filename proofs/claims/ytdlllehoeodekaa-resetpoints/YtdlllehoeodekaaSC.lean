/- The contracts of the reference's Scheduled and Again. -/
import Derived.Test.YtdlllehoeodekaaSB
import Derived.Deep.RegionHeld3
namespace Go.Proofs.Ytdlllehoeodekaa
open Go.ChangeAt Go.ChangeShapes Go.Deep Go.RowKit Go.WideShapes
theorem Gr13.appK {lo n src : Nat} {W : World} {u : Value} {xs : List Ev} {x : Ev} {news : List Value} (h : Gr13 lo n W u xs) (hnews : ∀ j z, news[j]? = some z → W.cell? ((⟨src, 0, none⟩ : Addr).add j) = some z) (hs1 : ∀ z ∈ news, z.oneCell' = true) (hl : news.length = 13) (hQ : QE (fun B => lo ≤ B ∧ u.ownBlock ≠ some B) W n news x) (hB : lo ≤ W.heap.size) (hk : (xs.length + 1) * 136 ≤ 140737488355328) :
    ∃ (a : Option Addr) (c : Nat) (w' : World), (∀ ty, (Builtin.append_ #[22, 22] ty #[u, .slice (some ⟨src, 0, none⟩) 1 1]).run Try.prog W = .ok (.slice a (xs.length + 1) c) w') ∧ Gr13 lo n w' (.slice a (xs.length + 1) c) (xs ++ [x]) ∧ Below lo W w' ∧ (∀ B, B < W.heap.size → u.ownBlock ≠ some B → w'.heap[B]? = W.heap[B]?) ∧ ((Value.slice a (xs.length + 1) c).ownBlock = u.ownBlock ∨ (Value.slice a (xs.length + 1) c).ownBlock = some W.heap.size) := by
  obtain ⟨cells, ho, hc⟩ := h
  obtain ⟨i0, hi0, hz0, hz1, hz2⟩ := info_parts info40
  obtain ⟨u', w2, hr, hown', hbl, hkeep, hblk⟩ := app2 (lo := lo) (src := src) (k := xs.length) (t := 22) (news := news) Try.underlying22 hi0 hz0 hz1 hz2 rfl (by decide) ho hl hnews hs1 (by omega) hk hB
  obtain ⟨g', cap', rfl⟩ := ownsRow_succ hown'
  have hold : ∀ B q c, (lo ≤ B ∧ u.ownBlock ≠ some B) → W.cell? ⟨B, q, none⟩ = some c → w2.heap[B]? = W.heap[B]? ∧ (lo ≤ B ∧ (Value.slice (some ⟨g', 0, none⟩) (xs.length + 1) cap').ownBlock ≠ some B) := fun B q c hB hcel => by
    have hB3 : B < W.heap.size := World.block_lt_of_cell? W ⟨B, q, none⟩ hcel
    refine ⟨hkeep B hB3 hB.2, hB.1, ?_⟩
    rcases hblk with e | e
    · rw [e]; exact hB.2
    · rw [e]; intro e2; injection e2 with e2; omega
  have hcl : cells.length = xs.length * 13 := ho.1
  refine ⟨_, _, w2, hr, ⟨cells ++ news, by rw [List.length_append]; exact hown', fun i z hz => ?_⟩, hbl, hkeep, hblk⟩
  by_cases hlt : i < xs.length
  · rw [List.getElem?_append_left hlt] at hz
    obtain ⟨cs, h0, h1, hq⟩ := hc i z hz
    refine ⟨cs, h0, fun k c hkc => ?_, QE.keep hold hq⟩
    have hk13 : k < 13 := by have := (List.getElem?_eq_some_iff.1 hkc).1; omega
    rw [List.getElem?_append_left (by omega)]
    exact h1 k c hkc
  · have hi2 : i = xs.length := by
      have := (List.getElem?_eq_some_iff.1 hz).1
      simp at this
      omega
    subst hi2
    rw [List.getElem?_append_right (Nat.le_refl _)] at hz
    simp at hz
    subst hz
    refine ⟨news, hl, fun k c hkc => ?_, QE.keep hold hQ⟩
    rw [List.getElem?_append_right (by omega), hcl, Nat.add_sub_cancel_left]
    exact hkc
theorem step_app_run {P : Program} {ops : Array Oper} {o : Oper} {a : Act} {w : World} {K : Act → World → Prop} {Q : Exit → Act → World → Prop} {E : Prop}
    (hg : o.guard = none) (s x : Operand) (t : TypeId) (hop : o.op = Op.call { callee := Callee.builtin Builtin.append, args := #[s, x], argTypes := #[t, t] })
    (vs vx : Value) (hs : a.eval s = vs) (hx : a.eval x = vx) {v' : Value} {w' : World} (hr : ∀ ty, (Builtin.append_ #[t, t] ty #[vs, vx]).run P w = .ok v' w') (hK : K (a.put o.dst v') w') :
    if Region.wanted o (yielded ops a.tmps) = true then Oper.wp P o a w K Q else E := by
  have hw : Region.wanted o (yielded ops a.tmps) = true := by simp [Region.wanted, hg]
  rw [if_pos hw]
  have hrun := hr o.type
  unfold Oper.wp
  simp [execOp, hop, resolve, invoke, builtin, hs, hx, hrun, Result.andThen]
  exact hK
theorem Gr13.kept {lo hi n : Nat} {w w' : World} {u : Value} {xs : List Ev} (hh : w.heap.size = hi) (h : Gr13 lo n w u xs) (hk : ∀ B, lo ≤ B → B < hi → w'.heap[B]? = w.heap[B]?) : Gr13 lo n w' u xs := by
  obtain ⟨cells, ho, hc⟩ := h
  refine ⟨cells, row_kept ho (fun B _ hB _ => hk B (World.ownsRow.lt ho B hB).1 (by rw [← hh]; exact (World.ownsRow.lt ho B hB).2)), fun i x hx => ?_⟩
  obtain ⟨cs, h0, h1, hq⟩ := hc i x hx
  exact ⟨cs, h0, h1, QE.keep (fun B q c hB hcl => ⟨hk B hB.1 (by rw [← hh]; exact World.block_lt_of_cell? w ⟨B, q, none⟩ hcl), hB⟩) hq⟩
theorem aft_small {ys : List Ev} {id kind : Int} {n : Nat} (h : ∀ i, SmallW (n + 1) (ex ys i).v) (pre : List Nat) (j : Nat) : SmallW (n + 1) (ex (aft ys id kind pre) j).v := by
  cases hj : (aft ys id kind pre)[j]? with
  | none => rw [ex_none (List.getElem?_eq_none_iff.1 hj)]; exact ze_small n
  | some y =>
    rw [ex_some hj]
    have hm := List.mem_of_getElem? hj
    unfold aft at hm
    obtain ⟨i, _, rfl⟩ := List.mem_map.1 hm
    exact h i
theorem isQ_zero (P : Nat → Prop) (w : World) (n : Nat) : IsQ P w (n + 1) (.agg #[.int .i64 0, .int .i64 0, .int .u64 0, .string ⟨#[]⟩, .slice none 0 0]) zT := ⟨none, 0, rfl, ⟨by decide, by decide, by decide, by decide, by decide, by decide, by decide, by decide, by decide⟩, fun i t h => by simp at h⟩
theorem Gr13.one {lo n : Nat} {W : World} (r : Rw) (x : Ev) (hq : ∀ P w, QE P w n r.cells x) (hB : lo ≤ W.heap.size) : Gr13 lo n (W.alloc (.cells #[.int .i64 r.k, .int .i64 r.t, .int .i64 r.n, .int .i64 r.d, .string r.s, .int .i64 r.vk, .int .i64 r.vx, .int .u64 r.vb, .string r.vs, .slice r.la r.ll r.lc, .int .i64 r.f, .int .u64 (r.c : Int), .int .i64 r.m] 38)) (.slice (some ⟨W.heap.size, 0, none⟩) 1 1) [x] := by
  refine ⟨r.cells, ⟨rfl, .inr ⟨W.heap.size, 1, _, rfl, hB, World.alloc_heap_new W _, Nat.le_refl _, by decide, rfl, rfl⟩⟩, fun i z hz => ?_⟩
  match i, hz with
  | 0, hz =>
    cases hz
    exact ⟨r.cells, rfl, fun k c hk => by rw [Nat.zero_mul, Nat.zero_add]; exact hk, hq _ _⟩
  | i + 1, hz => simp at hz
/-- What stands behind the reference's clone of a signal's value. -/
def RsP (lo N : Nat) (t : Int) (s : ByteArray) (wr : World) (v : Value) (k : Nat) (zs : List Ev) (e : Ending) (w1 : World) : Prop :=
  ∃ (vk2 vx2 vb2 : Int) (vs2 : ByteArray) (la2 : Option Addr) (ll2 lc2 : Nat) (a2 : Option Addr) (c2 : Nat) (w2 : World), e = .returned (.agg #[.int .i64 vk2, .int .i64 vx2, .int .u64 vb2, .string vs2, .slice la2 ll2 lc2]) ∧ (∀ ty, (Builtin.append_ #[22, 22] ty #[v, .slice (some ⟨w1.heap.size, 0, none⟩) 1 1]).run Try.prog (w1.alloc (.cells #[.int .i64 7, .int .i64 t, .int .i64 0, .int .i64 0, .string s, .int .i64 vk2, .int .i64 vx2, .int .u64 vb2, .string vs2, .slice la2 ll2 lc2, .int .i64 0, .int .u64 0, .int .i64 0] 38)) = .ok (.slice a2 k c2) w2) ∧ Hid (Gr13 lo N w2 (.slice a2 k c2) zs) ∧ Hid (Below lo wr w2) ∧ Below wr.heap.size wr w1 ∧ Hid (∀ B, B < wr.heap.size → v.ownBlock ≠ some B → w2.heap[B]? = wr.heap[B]?) ∧ Hid ((Value.slice a2 k c2).ownBlock = v.ownBlock ∨ ∃ B, (Value.slice a2 k c2).ownBlock = some B ∧ wr.heap.size ≤ B)
theorem rsig_calls (lo N : Nat) (t : Int) (r : Rw) (y : Ev) (wr W : World) (hW : Below wr.heap.size wr W) (v : Value) (zs : List Ev) (k : Nat) (hk : zs.length = k) (hE : IsE wr N r y) (hsm : SmallW (N + 1) y.v) (hG : Gr13 lo N wr v zs) (hlo : lo ≤ wr.heap.size) (hlen : k ≤ 1000) :
    Calls Try.prog 18 #[.agg #[.int .i64 r.vk, .int .i64 r.vx, .int .u64 r.vb, .string r.vs, .slice r.la r.ll r.lc]] W (RsP lo N t r.s wr v (k + 1) (zs ++ [evS t y])) := by
  obtain ⟨tv, rfl, hi⟩ := hE
  refine (rcloneW (N + 1) _ tv W (hi.below hW) hsm).mono ?_
  rintro e w1 ⟨⟨v', rfl, hiN⟩, hb⟩
  obtain ⟨vk2, vx2, vb2, vs2, la2, ll2, lc2, rfl⟩ := hiN.shape
  have hb1 : Below wr.heap.size wr w1 := bel2 hW hb
  have hown : ∀ B, v.ownBlock = some B → B < wr.heap.size := fun B hB => by
    obtain ⟨cells, ho, _⟩ := hG
    exact (World.ownsRow.lt ho B hB).2
  have hs : (⟨7, t, 0, 0, r.s, vk2, vx2, vb2, vs2, la2, ll2, lc2, 0, 0, 0⟩ : Rw).cells.length = 13 := rfl
  have hG1 := (hG.below hb1).below (bel1 w1 (.cells #[.int .i64 7, .int .i64 t, .int .i64 0, .int .i64 0, .string r.s, .int .i64 vk2, .int .i64 vx2, .int .u64 vb2, .string vs2, .slice la2 ll2 lc2, .int .i64 0, .int .u64 0, .int .i64 0] 38))
  have hQ : QE (fun B => lo ≤ B ∧ v.ownBlock ≠ some B) (w1.alloc (.cells #[.int .i64 7, .int .i64 t, .int .i64 0, .int .i64 0, .string r.s, .int .i64 vk2, .int .i64 vx2, .int .u64 vb2, .string vs2, .slice la2 ll2 lc2, .int .i64 0, .int .u64 0, .int .i64 0] 38)) N (Rw.cells ⟨7, t, 0, 0, r.s, vk2, vx2, vb2, vs2, la2, ll2, lc2, 0, 0, 0⟩) (evS t (r.ev tv)) :=
    ⟨_, rfl, tv, rfl, (hiN.isQ (P := fun B => lo ≤ B ∧ v.ownBlock ≠ some B) (fun B h1 h2 => ⟨by have := hW.size; omega, fun e => by have := hown B e; have := hW.size; omega⟩)).keep (fun B q c hB hcel => ⟨(bel1 w1 _).block B (World.block_lt_of_cell? w1 ⟨B, q, none⟩ hcel), hB⟩)⟩
  obtain ⟨a, c, w2, hrun, hg2, hb2, hkp, hbk⟩ := hG1.appK (src := w1.heap.size) (rw_new w1 ⟨7, t, 0, 0, r.s, vk2, vx2, vb2, vs2, la2, ll2, lc2, 0, 0, 0⟩) (rw_one _) hs hQ (by have := hb1.size; simp; omega) (by omega)
  rw [hk] at hrun hg2 hbk
  refine ⟨vk2, vx2, vb2, vs2, la2, ll2, lc2, a, c, w2, rfl, hrun, hg2, ((bel2 hb1 (bel1 _ _)).mono hlo).trans hb2, hb1, fun B hB hne => ?_, ?_⟩
  · have hB1 := hb1.size
    exact ((hkp B (by simp; omega) hne).trans ((bel1 w1 _).block B (by omega))).trans (hb1.block B hB)
  · rcases hbk with h | h
    · exact .inl h
    · exact .inr ⟨_, h, by have := hb1.size; simp; omega⟩
set_option maxHeartbeats 1000000 in
theorem sched_calls (t : Int) (w : World) : Calls Try.prog 19 #[.int .i64 t] w fun e w' => e = .returned (.agg #[.int .i64 2, .int .i64 t, .int .i64 1, .int .i64 t, .string ⟨#[]⟩, .int .i64 0, .int .i64 0, .int .u64 0, .string ⟨#[]⟩, .slice none 0 0, .int .i64 0, .int .u64 0, .int .i64 0]) ∧ Below w.heap.size w w' := by
  go_enter Try.func19, Try.ntmps19
  go_wp2_with fail
  refine bodyPost_ret (ret13 Try.results19 _ (g := w.heap.size) rfl (At13.box w _ _ _ _ _ _ _ _ _ _ _ _ _)) rfl ?_
  exact ⟨rfl, bel1 _ _⟩
set_option maxHeartbeats 4000000 in
set_option maxRecDepth 100000 in
theorem ragain_calls (a : Option Addr) (c NN : Nat) (hs : List Rw) (ys : List Ev) (N : Nat) (hN : hs.length = N) (hl : N ≤ 200) (point run t : Int) (w : World) (hH : Hh w NN a hs ys) :
    Calls Try.prog 10 #[.slice a N c, .int .i64 point, .int .i64 run, .int .i64 t] w fun e W' => ∃ v, e = .returned v ∧ Gr13 w.heap.size NN W' v (agn (aft ys point 7 (List.range N)) run t) ∧ Below w.heap.size w W' := by
  have K : Hid (∀ W, Below w.heap.size w W → Calls Try.prog 17 #[.slice a N c, .int .i64 point, .int .i64 7] W _) := fun W hW => rafter_calls a c NN hs ys N hN hl point 7 W (hH.below hW)
  have hal := aft_len ys point 7 (List.range N)
  rw [List.length_range] at hal
  have HSm : Hid (∀ j, SmallW (NN + 1) (ex (aft ys point 7 (List.range N)) j).v) := fun j => aft_small hH.sml _ j
  have HA : Hid ((aft ys point 7 (List.range N)).length ≤ 200) := by show _ ≤ _; omega
  have HG0 : Hid (Gr13 w.heap.size NN (w.alloc (.cells #[.int .i64 5, .int .i64 t, .int .i64 run, .int .i64 0, .string ⟨#[114, 101, 115, 101, 116]⟩, .int .i64 0, .int .i64 0, .int .u64 0, .string ⟨#[]⟩, .slice none 0 0, .int .i64 0, .int .u64 0, .int .i64 0] 38)) (.slice (some ⟨w.heap.size, 0, none⟩) 1 1) [evF run t]) := Gr13.one (rwF run t) (evF run t) (fun P w => ⟨rwF run t, rfl, zT, rfl, isQ_zero _ _ _⟩) (Nat.le_refl _)
  clear hN hl hH hal
  generalize aft ys point 7 (List.range N) = fz at K HA HSm
  generalize hm : fz.length = m at HA
  have HM : Hid (fz.length = m) := hm
  have hm1 := HA.out
  go_enter Try.func10, Try.ntmps10
  go_upto_region 2 with fail
  obtain ⟨w0, hw0⟩ : ∃ w0, w0 = w.alloc (.cells #[.int .i64 5, .int .i64 t, .int .i64 run, .int .i64 0, .string ⟨#[114, 101, 115, 101, 116]⟩, .int .i64 0, .int .i64 0, .int .u64 0, .string ⟨#[]⟩, .slice none 0 0, .int .i64 0, .int .u64 0, .int .i64 0] 38) := ⟨_, rfl⟩
  have hs0 : w0.heap.size = w.heap.size + 1 := by rw [hw0]; simp
  have HB0 : Hid (Below w.heap.size w w0) := by rw [hw0]; exact bel1 _ _
  rw [← hw0] at HG0 ⊢
  have HS0 : Hid (w0.heap.size = w.heap.size + 1) := hs0
  clear hw0 hs0 hm
  go_wp2_with fail
  refine (K.out w0 HB0.out).mono ?_
  rintro e w1 ⟨v1, rfl, hg1, hb1⟩
  have HG1 : Hid (Gr13 w0.heap.size NN w1 v1 fz) := hg1
  have HB1 : Hid (Below w0.heap.size w0 w1) := hb1
  obtain ⟨sa, sc, hv1⟩ := hg1.shape
  rw [HM.out] at hv1
  subst hv1
  clear hg1 hb1 K
  go_wp2_with fail
  go_loopw [9, 11] (fun v i wr => ∃ j : Nat, j ≤ m ∧ i = .int .i64 (j : Int) ∧ Hid (Gr13 w.heap.size NN wr v (evF run t :: (fz.take j).map (evS t))) ∧ Hid (Below w.heap.size w wr) ∧ Hid (w1.heap.size ≤ wr.heap.size ∧ (∀ B, w0.heap.size ≤ B → B < w1.heap.size → wr.heap[B]? = w1.heap[B]?) ∧ ∀ B, v.ownBlock = some B → ¬ (w0.heap.size ≤ B ∧ B < w1.heap.size))) (fun _ i _ => m - (intOf i).toNat)
  case atStart => exact ⟨0, Nat.zero_le _, rfl, by rw [List.take_zero]; exact HG0.out.below HB1.out, bel2 HB0.out HB1.out, Nat.le_refl _, fun _ _ _ => rfl, fun B hB h => by simp only [Value.ownBlock, Option.some.injEq] at hB; have := HS0.out; omega⟩
  case round =>
    obtain ⟨j, hj, rfl, HG, HB, HQ⟩ := hrel
    have hlen := take_len (fz := fz) (j := j) (by rw [HM.out]; exact hj) run t
    obtain ⟨va, vc, hv⟩ := HG.out.shape
    rw [hlen] at hv
    by_cases hlt : j < m
    · obtain ⟨fa, fc, rs, ev, hrl, hre, hie⟩ := (HG1.out.kept (w' := wr) rfl HQ.out.2.1).rows
      rw [HM.out] at ev hrl
      simp only [Value.slice.injEq] at ev
      obtain ⟨rfl, _, rfl⟩ := ev
      obtain ⟨r, hr⟩ : ∃ r, rs[j]? = some r := ⟨_, List.getElem?_eq_getElem (by rw [hrl]; exact hlt)⟩
      obtain ⟨B, o, rfl, hat⟩ := hre j r hr
      obtain ⟨_, _, _, _, e4, e5, e6, e7, e8, e9, _, _, _⟩ := hat
      have hBlo : w0.heap.size ≤ B := by
        obtain ⟨cells, ho, _⟩ := HG1.out
        exact (World.ownsRow.lt ho B rfl).1
      have hBhi : B < w1.heap.size := by
        obtain ⟨cells, ho, _⟩ := HG1.out
        exact (World.ownsRow.lt ho B rfl).2
      have q1 := hie j
      rw [rx_some hr] at q1
      subst hv
      have KC : Hid (Calls Try.prog 18 #[.agg #[.int .i64 r.vk, .int .i64 r.vx, .int .u64 r.vb, .string r.vs, .slice r.la r.ll r.lc]] wr.drew _) := rsig_calls w.heap.size NN t r (ex fz j) wr wr.drew (Below.refl _ wr).drew (.slice va (j + 1) vc) (evF run t :: (fz.take j).map (evS t)) (j + 1) hlen q1 (HSm.out j) HG.out HB.out.size (by have := HA.out; omega)
      rw [← take_snoc (by rw [HM.out]; exact hlt)] at KC
      have HK : Hid (∀ W : World, W.heap[B]? = wr.heap[B]? → (fun w' => w'.cell? ⟨B, o + j * 13 + 4, none⟩ = some (.string r.s) ∧ w'.cell? ⟨B, o + j * 13 + 5, none⟩ = some (.int .i64 r.vk) ∧ w'.cell? ⟨B, o + j * 13 + 5 + 1, none⟩ = some (.int .i64 r.vx) ∧ w'.cell? ⟨B, o + j * 13 + 5 + 2, none⟩ = some (.int .u64 r.vb) ∧ w'.cell? ⟨B, o + j * 13 + 5 + 3, none⟩ = some (.string r.vs) ∧ w'.cell? ⟨B, o + j * 13 + 5 + 4, none⟩ = some (.slice r.la r.ll r.lc)) W) := fun W hW => by
        have f : ∀ q x, wr.cell? ⟨B, q, none⟩ = some x → W.cell? ⟨B, q, none⟩ = some x := fun q x h => by rw [← h]; simp [World.cell?, hW]
        exact ⟨f _ _ e4, f _ _ e5, f _ _ e6, f _ _ e7, f _ _ e8, f _ _ e9⟩
      have HKB : Hid (∀ W : World, Below wr.heap.size wr W → W.heap[B]? = wr.heap[B]?) := fun W hW => hW.block B (by have := HQ.out.1; omega)
      have HKL : Hid (B < wr.heap.size ∧ (Value.slice va (j + 1) vc).ownBlock ≠ some B) := ⟨by have := HQ.out.1; omega, fun e => HQ.out.2.2 B e ⟨hBlo, hBhi⟩⟩
      have HW : Hid (wrap64 ((j : Int) + 1) = ((j + 1 : Nat) : Int)) := wr1 hlt (by have := HA.out; omega)
      have hw1 : wrap64 ((j : Int) + 1) = (j : Int) + 1 := by unfold wrap64; have := HA.out; omega
      have hjn : (j : Int) < (m : Int) := by omega
      clear hre hie hr hrl q1 hlen HG e4 e5 e6 e7 e8 e9 hBlo hBhi
      go_wp2_with fail
      refine wp_region_held_drew (S := (fun w' => w'.cell? ⟨B, o + j * 13 + 4, none⟩ = some (.string r.s) ∧ w'.cell? ⟨B, o + j * 13 + 5, none⟩ = some (.int .i64 r.vk) ∧ w'.cell? ⟨B, o + j * 13 + 5 + 1, none⟩ = some (.int .i64 r.vx) ∧ w'.cell? ⟨B, o + j * 13 + 5 + 2, none⟩ = some (.int .u64 r.vb) ∧ w'.cell? ⟨B, o + j * 13 + 5 + 3, none⟩ = some (.string r.vs) ∧ w'.cell? ⟨B, o + j * 13 + 5 + 4, none⟩ = some (.slice r.la r.ll r.lc))) (by kernel_rfl) (HK.out wr.drew rfl) (fun hHeld => ?_)
      change wpAnyH _ _ _ _ _ _ _ _ (World.drew _)
      refine wpAnyH_take (i := 0) (oi := { dst := some 25, op := Go.Op.move (Go.Operand.tmp 9), type := 22, pos := "ref.go:22", after := #[], guard := none }) (v := ?_) rfl (by kernel_rfl) (by kernel_rfl) (by kernel_rfl) (fun _ _ _ h => h) (Or.inl ⟨by rfl, ?_⟩) hHeld ?_
      rotate_left 1
      · (intro w hSw; (try dsimp only at hSw); go_simp <;> with_reducible rfl)
      simp only [Act.put, List.setIfInBounds_toArray, List.set_cons_zero, List.set_cons_succ]
      refine wpAnyH_take (i := 1) (oi := { dst := some 26, op := Go.Op.move (Go.Operand.tmp 3), type := 3, pos := "ref.go:22", after := #[], guard := none }) (v := ?_) rfl (by kernel_rfl) (by kernel_rfl) (by kernel_rfl) (fun _ _ _ h => h) (Or.inl ⟨by rfl, ?_⟩) hHeld ?_
      rotate_left 1
      · (intro w hSw; (try dsimp only at hSw); go_simp <;> with_reducible rfl)
      simp only [Act.put, List.setIfInBounds_toArray, List.set_cons_zero, List.set_cons_succ]
      refine wpAnyH_take (i := 2) (oi := { dst := some 27, op := Go.Op.move (Go.Operand.tmp 10), type := 22, pos := "ref.go:22", after := #[], guard := none }) (v := ?_) rfl (by kernel_rfl) (by kernel_rfl) (by kernel_rfl) (fun _ _ _ h => h) (Or.inl ⟨by rfl, ?_⟩) hHeld ?_
      rotate_left 1
      · (intro w hSw; (try dsimp only at hSw); go_simp <;> with_reducible rfl)
      simp only [Act.put, List.setIfInBounds_toArray, List.set_cons_zero, List.set_cons_succ]
      refine wpAnyH_take (i := 3) (oi := { dst := some 28, op := Go.Op.move (Go.Operand.tmp 11), type := 3, pos := "ref.go:22", after := #[], guard := none }) (v := ?_) rfl (by kernel_rfl) (by kernel_rfl) (by kernel_rfl) (fun _ _ _ h => h) (Or.inl ⟨by rfl, ?_⟩) hHeld ?_
      rotate_left 1
      · (intro w hSw; (try dsimp only at hSw); go_simp <;> with_reducible rfl)
      simp only [Act.put, List.setIfInBounds_toArray, List.set_cons_zero, List.set_cons_succ]
      refine wpAnyH_take (i := 4) (oi := { dst := some 29, op := Go.Op.indexAddr 22 (Go.Operand.tmp 27) (Go.Operand.tmp 28), type := 0, pos := "ref.go:22", after := #[{ on := 2, ground := Go.Ground.data }, { on := 3, ground := Go.Ground.data }], guard := none }) (v := ?_) rfl (by kernel_rfl) (by kernel_rfl) (by kernel_rfl) (fun _ _ _ h => h) (Or.inl ⟨by rfl, ?_⟩) hHeld ?_
      rotate_left 1
      · (intro w hSw; (try dsimp only at hSw); go_simp <;> with_reducible rfl)
      simp only [Act.put, List.setIfInBounds_toArray, List.set_cons_zero, List.set_cons_succ]
      refine wpAnyH_take (i := 5) (oi := { dst := some 30, op := Go.Op.fieldAddr 38 (Go.Operand.tmp 29) 4, type := 0, pos := "ref.go:22", after := #[{ on := 4, ground := Go.Ground.data }], guard := none }) (v := ?_) rfl (by kernel_rfl) (by kernel_rfl) (by kernel_rfl) (fun _ _ _ h => h) (Or.inl ⟨by rfl, ?_⟩) hHeld ?_
      rotate_left 1
      · (intro w hSw; (try dsimp only at hSw); go_simp <;> with_reducible rfl)
      simp only [Act.put, List.setIfInBounds_toArray, List.set_cons_zero, List.set_cons_succ]
      refine wpAnyH_take (i := 6) (oi := { dst := some 31, op := Go.Op.load 9 (Go.Operand.tmp 30), type := 9, pos := "ref.go:22", after := #[{ on := 5, ground := Go.Ground.data }], guard := none }) (v := ?_) rfl (by kernel_rfl) (by kernel_rfl) (by kernel_rfl) (fun _ _ _ h => h) (Or.inl ⟨by rfl, ?_⟩) hHeld ?_
      rotate_left 1
      · (intro w hSw; (try dsimp only at hSw); go_simp <;> with_reducible rfl)
      simp only [Act.put, List.setIfInBounds_toArray, List.set_cons_zero, List.set_cons_succ]
      refine wpAnyH_take (i := 7) (oi := { dst := some 32, op := Go.Op.move (Go.Operand.tmp 10), type := 22, pos := "ref.go:22", after := #[], guard := none }) (v := ?_) rfl (by kernel_rfl) (by kernel_rfl) (by kernel_rfl) (fun _ _ _ h => h) (Or.inl ⟨by rfl, ?_⟩) hHeld ?_
      rotate_left 1
      · (intro w hSw; (try dsimp only at hSw); go_simp <;> with_reducible rfl)
      simp only [Act.put, List.setIfInBounds_toArray, List.set_cons_zero, List.set_cons_succ]
      refine wpAnyH_take (i := 8) (oi := { dst := some 33, op := Go.Op.move (Go.Operand.tmp 11), type := 3, pos := "ref.go:22", after := #[], guard := none }) (v := ?_) rfl (by kernel_rfl) (by kernel_rfl) (by kernel_rfl) (fun _ _ _ h => h) (Or.inl ⟨by rfl, ?_⟩) hHeld ?_
      rotate_left 1
      · (intro w hSw; (try dsimp only at hSw); go_simp <;> with_reducible rfl)
      simp only [Act.put, List.setIfInBounds_toArray, List.set_cons_zero, List.set_cons_succ]
      refine wpAnyH_take (i := 9) (oi := { dst := some 34, op := Go.Op.indexAddr 22 (Go.Operand.tmp 32) (Go.Operand.tmp 33), type := 0, pos := "ref.go:22", after := #[{ on := 7, ground := Go.Ground.data }, { on := 8, ground := Go.Ground.data }], guard := none }) (v := ?_) rfl (by kernel_rfl) (by kernel_rfl) (by kernel_rfl) (fun _ _ _ h => h) (Or.inl ⟨by rfl, ?_⟩) hHeld ?_
      rotate_left 1
      · (intro w hSw; (try dsimp only at hSw); go_simp <;> with_reducible rfl)
      simp only [Act.put, List.setIfInBounds_toArray, List.set_cons_zero, List.set_cons_succ]
      refine wpAnyH_take (i := 10) (oi := { dst := some 35, op := Go.Op.fieldAddr 38 (Go.Operand.tmp 34) 5, type := 0, pos := "ref.go:22", after := #[{ on := 9, ground := Go.Ground.data }], guard := none }) (v := ?_) rfl (by kernel_rfl) (by kernel_rfl) (by kernel_rfl) (fun _ _ _ h => h) (Or.inl ⟨by rfl, ?_⟩) hHeld ?_
      rotate_left 1
      · (intro w hSw; (try dsimp only at hSw); go_simp <;> with_reducible rfl)
      simp only [Act.put, List.setIfInBounds_toArray, List.set_cons_zero, List.set_cons_succ]
      refine wpAnyH_take (i := 11) (oi := { dst := some 36, op := Go.Op.load 34 (Go.Operand.tmp 35), type := 34, pos := "ref.go:22", after := #[{ on := 10, ground := Go.Ground.data }], guard := none }) (v := ?_) rfl (by kernel_rfl) (by kernel_rfl) (by kernel_rfl) (fun _ _ _ h => h) (Or.inl ⟨by rfl, ?_⟩) hHeld ?_
      rotate_left 1
      · (intro w hSw; (try dsimp only at hSw); go_simp <;> with_reducible rfl)
      simp only [Act.put, List.setIfInBounds_toArray, List.set_cons_zero, List.set_cons_succ]
      refine wpAnyH_ready (rs := [12]) (by kernel_rfl) (by simp) ?_
      refine AllReadyH.cons (o := { dst := some 37, op := Go.Op.call { callee := Go.Callee.value (Go.Operand.func 18), args := #[Go.Operand.tmp 36], argTypes := #[34] }, type := 34, pos := "ref.go:22", after := #[{ on := 11, ground := Go.Ground.data }], guard := none }) rfl (fun K hK => ?_) AllReadyH.nil
      go_simp
      refine Calls.mono KC.out ?_
      rintro e w1 ⟨vk2, vx2, vb2, vs2, la2, ll2, lc2, a2, c2, w2, rfl, hrun, hg2, hb2, hb1, hkp, hbk⟩
      have HRun : Hid (∀ ty, _) := hrun
      have HB1 : Hid (Below wr.heap.size wr w1) := hb1
      clear hrun hb1
      refine hK.out _ _ (HK.out _ (HKB.out _ HB1.out)) (fun hHeld => ?_)
      clear hK K
      refine wpAnyH_take (i := 13) (oi := { dst := some 38, op := Go.Op.build 38 #[(0, Go.Operand.const (Go.Value.int Go.IntKind.i64 7)), (1, Go.Operand.tmp 26), (4, Go.Operand.tmp 31), (5, Go.Operand.tmp 37)], type := 38, pos := "ref.go:22", after := #[{ on := 1, ground := Go.Ground.data }, { on := 6, ground := Go.Ground.data }, { on := 12, ground := Go.Ground.data }], guard := none }) (v := ?_) rfl (by kernel_rfl) (by kernel_rfl) (by kernel_rfl) (fun _ _ _ h => h) (Or.inl ⟨by rfl, ?_⟩) hHeld ?_
      rotate_left 1
      · (intro w hSw; (try dsimp only at hSw); go_simp <;> with_reducible rfl)
      simp only [Act.put, List.setIfInBounds_toArray, List.set_cons_zero, List.set_cons_succ]
      refine wpAnyH_ready (rs := [14]) (by kernel_rfl) (by simp) ?_
      refine AllReadyH.cons (o := { dst := some 39, op := Go.Op.buildSlice 22 1 #[(0, Go.Operand.tmp 38)], type := 22, pos := "ref.go:22", after := #[{ on := 13, ground := Go.Ground.data }], guard := none }) rfl (fun K hK => ?_) AllReadyH.nil
      go_simp
      refine hK.out _ _ (HK.out _ (HKB.out _ (bel2 HB1.out (bel1 _ _)))) (fun hHeld => ?_)
      clear hK K
      refine wpAnyH_ready (rs := [15]) (by kernel_rfl) (by simp) ?_
      refine AllReadyH.cons (o := { dst := some 40, op := Go.Op.call { callee := Go.Callee.builtin Go.Builtin.append, args := #[Go.Operand.tmp 25, Go.Operand.tmp 39], argTypes := #[22, 22] }, type := 22, pos := "ref.go:22", after := #[{ on := 0, ground := Go.Ground.data }, { on := 14, ground := Go.Ground.data }, { on := 12, ground := Go.Ground.chain }], guard := none }) rfl (fun K hK => ?_) AllReadyH.nil
      refine step_app_run rfl _ _ 22 rfl _ _ rfl rfl HRun.out ?_
      refine hK.out _ _ (HK.out _ (hkp.out B HKL.out.1 HKL.out.2)) (fun hHeld => ?_)
      clear hK K
      simp only [Act.put]
      refine wpAnyH_take (i := 16) (oi := { dst := some 9, op := Go.Op.assign (Go.Operand.tmp 40), type := 22, pos := "ref.go:22", after := #[{ on := 15, ground := Go.Ground.data }, { on := 15, ground := Go.Ground.chain }, { on := 0, ground := Go.Ground.phase }, { on := 1, ground := Go.Ground.phase }, { on := 2, ground := Go.Ground.phase }, { on := 3, ground := Go.Ground.phase }, { on := 4, ground := Go.Ground.phase }, { on := 5, ground := Go.Ground.phase }, { on := 6, ground := Go.Ground.phase }, { on := 7, ground := Go.Ground.phase }, { on := 8, ground := Go.Ground.phase }, { on := 9, ground := Go.Ground.phase }, { on := 10, ground := Go.Ground.phase }, { on := 11, ground := Go.Ground.phase }, { on := 12, ground := Go.Ground.phase }, { on := 13, ground := Go.Ground.phase }, { on := 14, ground := Go.Ground.phase }, { on := 15, ground := Go.Ground.phase }], guard := none }) (v := ?_) rfl (by kernel_rfl) (by kernel_rfl) (by kernel_rfl) (fun _ _ _ h => h) (Or.inl ⟨by rfl, ?_⟩) hHeld ?_
      rotate_left 1
      · (intro w hSw; (try dsimp only at hSw); go_simp <;> with_reducible rfl)
      simp only [Act.put, List.setIfInBounds_toArray, List.set_cons_zero, List.set_cons_succ]
      refine wpAnyH_done (by kernel_rfl) ?_ _
      go_wp2_with fail
      refine ⟨⟨j + 1, hlt, by first | rw [HW.out] | exact congrArg _ (Int.natCast_succ j).symm, hg2, HB.out.trans hb2.out, ?_⟩, by first | exact meas hlt HW.out | exact meas hlt (Int.natCast_succ j).symm⟩
      have h2 := hb2.out.size
      have hq := HQ.out.1
      refine ⟨by omega, fun B' h1 h3 => ?_, fun B' hB' h3 => ?_⟩
      · exact (hkp.out B' (by omega) (fun e => HQ.out.2.2 B' e ⟨h1, h3⟩)).trans (HQ.out.2.1 B' h1 h3)
      · rcases hbk.out with h | ⟨B3, h, h4⟩
        · exact HQ.out.2.2 B' (h.symm.trans hB') h3
        · rw [h] at hB'
          injection hB' with hB'
          omega
    · obtain rfl : j = m := by omega
      have KS : Hid (Calls Try.prog 19 #[.int .i64 t] wr _) := sched_calls t wr
      have ht : fz.take j = fz := List.take_of_length_le (by rw [HM.out]; exact Nat.le_refl _)
      subst hv
      have HLen : Hid ((evF run t :: (fz.take j).map (evS t)).length = j + 1 ∧ fz.take j = fz) := ⟨hlen, ht⟩
      clear hlen ht
      go_wp2_with fail
      refine KS.out.mono ?_
      rintro e w2 ⟨rfl, hb⟩
      obtain ⟨a2, c2, w3, hrun, hg2, hb2⟩ := ((HG.out.below hb).below (bel1 w2 (.cells #[.int .i64 2, .int .i64 t, .int .i64 1, .int .i64 t, .string ⟨#[]⟩, .int .i64 0, .int .i64 0, .int .u64 0, .string ⟨#[]⟩, .slice none 0 0, .int .i64 0, .int .u64 0, .int .i64 0] 38))).app (src := w2.heap.size) (x := evN t) (rw_new w2 (rwN t)) (rw_one _) rfl ⟨rwN t, rfl, zT, rfl, isQ_zero _ _ _⟩ (by have := HB.out.size; have := hb.size; simp; omega) (by rw [HLen.out.1]; have := HA.out; omega)
      rw [HLen.out.1] at hrun hg2
      rw [HLen.out.2] at hg2
      have HRun : Hid (∀ ty, _) := hrun
      have HG2 : Hid (Gr13 w.heap.size NN w3 _ (agn fz run t)) := hg2
      have HB2 : Hid (Below w.heap.size w w3) := (bel2 HB.out (bel2 hb (bel1 _ _))).trans hb2
      clear hrun hg2 hb2 HG hb KS
      go_wp2_with (at_builtin; refine Lib.wpList_append_run _ rfl _ _ 22 22 rfl _ _ rfl rfl _ _ (HRun.out _) ?_)
      go_ret
      exact ⟨_, rfl, HG2.out, HB2.out⟩
end Go.Proofs.Ytdlllehoeodekaa
