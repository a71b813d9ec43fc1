/- The contracts of the reference's Fork, Find and After. -/
import Derived.Test.YtdlllehoeodekaaO
namespace Go.Proofs.Ytdlllehoeodekaa
open Go.ChangeAt Go.ChangeShapes Go.Deep Go.RowKit Go.WideShapes
theorem Gr13.shape {lo n : Nat} {w : World} {u : Value} {ys : List Ev} (h : Gr13 lo n w u ys) : ∃ a c, u = .slice a ys.length c := by
  obtain ⟨_, ⟨_, ⟨rfl, h2⟩ | ⟨g, cap, cur, rfl, _⟩⟩, _⟩ := h
  · exact ⟨none, 0, by rw [h2]⟩
  · exact ⟨_, _, rfl⟩
theorem Gr13.rows {lo N : Nat} {w : World} {u : Value} {ys : List Ev} (h : Gr13 lo N w u ys) : ∃ a c rs, u = .slice a ys.length c ∧ rs.length = ys.length ∧ RowE w a rs ∧ ∀ i, IsE w N (rx rs i) (ex ys i) := by
  obtain ⟨cells, ho, hc⟩ := h
  have h2 := ho
  obtain ⟨_, ⟨rfl, h0⟩ | ⟨g, cap, cur, rfl, _, _, hle, _⟩⟩ := ho
  · have e : ys = [] := List.eq_nil_of_length_eq_zero h0
    subst e
    exact ⟨none, 0, [], rfl, rfl, fun i r hr => by simp at hr, fun i => by rw [rx_none (by simp), ex_none (by simp)]; exact zr_is w N⟩
  · obtain ⟨rs, hl, hq⟩ := choose_rows (Q := fun i r => AtR w g (0 + i * 13) r ∧ IsE w N r (ex ys i)) ys.length (fun i hi => by
      obtain ⟨cs, _, h1, r, rfl, tv, hy, hiq⟩ := hc i _ (List.getElem?_eq_getElem hi)
      have f : ∀ k z, k < 13 → r.cells[k]? = some z → w.cell? ⟨g, 0 + i * 13 + k, none⟩ = some z := fun k z hk hz => by rw [Nat.zero_add, World.ownsRow.cellAt h2 (i * 13 + k) (by omega)]; exact h1 k z hz
      exact ⟨r, ⟨f 0 _ (by omega) rfl, f 1 _ (by omega) rfl, f 2 _ (by omega) rfl, f 3 _ (by omega) rfl, f 4 _ (by omega) rfl, f 5 _ (by omega) rfl, f 6 _ (by omega) rfl, f 7 _ (by omega) rfl, f 8 _ (by omega) rfl, f 9 _ (by omega) rfl, f 10 _ (by omega) rfl, f 11 _ (by omega) rfl, f 12 _ (by omega) rfl⟩, tv, by rw [ex_some (List.getElem?_eq_getElem hi)]; exact hy, hiq.is⟩)
    refine ⟨_, cap, rs, rfl, hl, fun i r hr => ⟨g, 0, rfl, (hq i r hr).1⟩, fun i => ?_⟩
    by_cases hi : i < rs.length
    · have hr := List.getElem?_eq_getElem hi
      rw [rx_some hr]
      exact (hq i _ hr).2
    · rw [rx_none (by omega), ex_none (by omega)]
      exact zr_is w N
/-- What stands behind the reference's clone of an event. -/
def RcP (lo N : Nat) (wr : World) (v : Value) (k : Nat) (zs : List Ev) (e : Ending) (w1 : World) : Prop :=
  ∃ (r' : Rw) (a : Option Addr) (c : Nat) (w2 : World), e = .returned (.agg #[.int .i64 r'.k, .int .i64 r'.t, .int .i64 r'.n, .int .i64 r'.d, .string r'.s, .int .i64 r'.vk, .int .i64 r'.vx, .int .u64 r'.vb, .string r'.vs, .slice r'.la r'.ll r'.lc, .int .i64 r'.f, .int .u64 (r'.c : Int), .int .i64 r'.m]) ∧ (∀ ty, (Builtin.append_ #[22, 22] ty #[v, .slice (some ⟨w1.heap.size, 0, none⟩) 1 1]).run Try.prog (w1.alloc (.cells #[.int .i64 r'.k, .int .i64 r'.t, .int .i64 r'.n, .int .i64 r'.d, .string r'.s, .int .i64 r'.vk, .int .i64 r'.vx, .int .u64 r'.vb, .string r'.vs, .slice r'.la r'.ll r'.lc, .int .i64 r'.f, .int .u64 (r'.c : Int), .int .i64 r'.m] 38)) = .ok (.slice a k c) w2) ∧ Hid (Gr13 lo N w2 (.slice a k c) zs) ∧ Hid (Below lo wr w2)
theorem rcol_calls (lo N : Nat) (r : Rw) (y : Ev) (wr : World) (v : Value) (zs : List Ev) (k : Nat) (hk : zs.length = k) (hE : IsE wr N r y) (hsm : SmallW (N + 1) y.v) (hG : Gr13 lo N wr v zs) (hlo : lo ≤ wr.heap.size) (hlen : k ≤ 1000) :
    Calls Try.prog 23 #[.agg #[.int .i64 r.k, .int .i64 r.t, .int .i64 r.n, .int .i64 r.d, .string r.s, .int .i64 r.vk, .int .i64 r.vx, .int .u64 r.vb, .string r.vs, .slice r.la r.ll r.lc, .int .i64 r.f, .int .u64 (r.c : Int), .int .i64 r.m]] wr (RcP lo N wr v (k + 1) (zs ++ [y])) := by
  obtain ⟨tv, rfl, hi⟩ := hE
  refine (revclone_calls N tv r.k r.t r.n r.d r.s r.vk r.vx r.vb r.vs r.la r.ll r.lc r.f r.c r.m wr hi hsm).mono ?_
  rintro e w1 ⟨vk2, vx2, vb2, vs2, la2, ll2, lc2, rfl, hiN, hb⟩
  have hown : ∀ B, v.ownBlock = some B → B < wr.heap.size := fun B hB => by
    obtain ⟨cells, ho, _⟩ := hG
    exact (World.ownsRow.lt ho B hB).2
  have hG1 := (hG.below hb).below (bel1 w1 (.cells #[.int .i64 r.k, .int .i64 r.t, .int .i64 r.n, .int .i64 r.d, .string r.s, .int .i64 vk2, .int .i64 vx2, .int .u64 vb2, .string vs2, .slice la2 ll2 lc2, .int .i64 r.f, .int .u64 (r.c : Int), .int .i64 r.m] 38))
  have hQ : QE (fun B => lo ≤ B ∧ v.ownBlock ≠ some B) (w1.alloc (.cells #[.int .i64 r.k, .int .i64 r.t, .int .i64 r.n, .int .i64 r.d, .string r.s, .int .i64 vk2, .int .i64 vx2, .int .u64 vb2, .string vs2, .slice la2 ll2 lc2, .int .i64 r.f, .int .u64 (r.c : Int), .int .i64 r.m] 38)) N (Rw.cells ⟨r.k, r.t, r.n, r.d, r.s, vk2, vx2, vb2, vs2, la2, ll2, lc2, r.f, r.c, r.m⟩) (r.ev tv) :=
    ⟨_, rfl, tv, rfl, (hiN.isQ (P := fun B => lo ≤ B ∧ v.ownBlock ≠ some B) (fun B h1 h2 => ⟨by omega, fun e => by have := hown B e; omega⟩)).keep (fun B q c hB hcel => ⟨(bel1 w1 _).block B (World.block_lt_of_cell? w1 ⟨B, q, none⟩ hcel), hB⟩)⟩
  obtain ⟨a, c, w2, hrun, hg2, hb2⟩ := hG1.app (src := w1.heap.size) (rw_new w1 ⟨r.k, r.t, r.n, r.d, r.s, vk2, vx2, vb2, vs2, la2, ll2, lc2, r.f, r.c, r.m⟩) (rw_one _) rfl hQ (by have := hb.size; simp; omega) (by omega)
  rw [hk] at hrun hg2
  exact ⟨⟨r.k, r.t, r.n, r.d, r.s, vk2, vx2, vb2, vs2, la2, ll2, lc2, r.f, r.c, r.m⟩, a, c, w2, rfl, hrun, hg2, ((bel2 hb (bel1 _ _)).mono hlo).trans hb2⟩
set_option maxHeartbeats 4000000 in
set_option maxRecDepth 100000 in
theorem rafter_calls (a : Option Addr) (c NN : Nat) (hs : List Rw) (ys : List Ev) (N : Nat) (hN : hs.length = N) (hl : N ≤ 200) (id kind : Int) (w : World) (hH : Hh w NN a hs ys) :
    Calls Try.prog 17 #[.slice a N c, .int .i64 id, .int .i64 kind] w fun e W' => ∃ v, e = .returned v ∧ Gr13 w.heap.size NN W' v (aft ys id kind (List.range N)) ∧ Below w.heap.size w W' := by
  have HH : Hid (Hh w NN a hs ys) := hH
  have HN : Hid (hs.length = N) := hN
  have HL : Hid (N ≤ 200) := hl
  clear hH hN hl
  go_enter Try.func17, Try.ntmps17
  go_wp2_with fail
  go_loopw [7, 8] (fun v i wr => ∃ j : Nat, j ≤ N ∧ i = .int .i64 (j : Int) ∧ Hid (Gr13 w.heap.size NN wr v (aft ys id kind (List.range j))) ∧ Hid (Below w.heap.size w wr)) (fun _ i _ => N - (intOf i).toNat)
  case atStart => exact ⟨0, Nat.zero_le _, rfl, Gr13.nil _ _ _, Below.refl _ _⟩
  case round =>
    obtain ⟨j, hj, rfl, HG, HB⟩ := hrel
    by_cases hlt : j < N
    · obtain ⟨r, hr⟩ : ∃ r, hs[j]? = some r := ⟨_, List.getElem?_eq_getElem (by rw [HN.out]; exact hlt)⟩
      obtain ⟨B, o, rfl, hat⟩ := HH.out.row j r hr
      obtain ⟨e0, e1, e2, e3, e4, e5, e6, e7, e8, e9, e10, e11, e12⟩ := hat.below HB.out
      have q1 := (HH.out.isE j).below HB.out
      rw [rx_some hr] at q1
      have hke := isE_k q1
      obtain ⟨va, vc, hv⟩ := HG.out.shape
      have hal := aft_len ys id kind (List.range j)
      rw [List.length_range] at hal
      have C0 : Hid (Calls Try.prog 23 #[.agg #[.int .i64 r.k, .int .i64 r.t, .int .i64 r.n, .int .i64 r.d, .string r.s, .int .i64 r.vk, .int .i64 r.vx, .int .u64 r.vb, .string r.vs, .slice r.la r.ll r.lc, .int .i64 r.f, .int .u64 (r.c : Int), .int .i64 r.m]] wr _) := rcol_calls w.heap.size NN r (ex ys j) wr _ _ _ rfl q1 (HH.out.sml j) HG.out HB.out.size (by have := HL.out; omega)
      subst hv
      generalize (aft ys id kind (List.range j)).length = k at C0 hal HG
      have HK : Hid (r.k = (ex ys j).k) := hke
      have HSh : Hid (id < (j : Int) + 1 → r.k = kind → aft ys id kind (List.range (j + 1)) = aft ys id kind (List.range j) ++ [ex ys j]) := fun h1 h2 => by rw [List.range_succ]; exact aft_hit ys id kind _ ⟨h1, by rw [← hke]; exact h2⟩
      have HSm : Hid (¬ (id < (j : Int) + 1 ∧ r.k = kind) → aft ys id kind (List.range (j + 1)) = aft ys id kind (List.range j)) := fun h => by rw [List.range_succ]; exact aft_miss ys id kind _ (fun h3 => h ⟨h3.1, by rw [hke]; exact h3.2⟩)
      have HW : Hid (wrap64 ((j : Int) + 1) = ((j + 1 : Nat) : Int)) := wr1 hlt (by have := HL.out; omega)
      have hw1 : wrap64 ((j : Int) + 1) = (j : Int) + 1 := by unfold wrap64; have := HL.out; omega
      have hjn : (j : Int) < (N : Int) := by omega
      clear hat q1 hr hke hal
      by_cases hk : r.k = kind
      · have hk' : (r.k == kind) = true := by simpa using hk
        have HK2 : Hid (r.k = kind) := hk
        clear hk
        by_cases hd : id < (j : Int) + 1
        · have hd' : decide (id < (j : Int) + 1) = true := decide_eq_true hd
          have HD : Hid (id < (j : Int) + 1) := hd
          clear hd
          go_wp2_with fail
          refine C0.out.mono ?_
          rintro e w1 ⟨r', ra, rc, w2, rfl, hrun, hg, hb⟩
          have HRun : Hid (∀ ty, _) := hrun
          rw [← HSh.out HD.out HK2.out] at hg
          clear hrun C0 e0 e1 e2 e3 e4 e5 e6 e7 e8 e9 e10 e11 e12
          go_wp2_with (at_builtin; refine Lib.wpList_append_run _ rfl _ _ 22 22 rfl _ _ rfl rfl _ _ (HRun.out _) ?_)
          exact ⟨⟨j + 1, hlt, by first | rw [HW.out] | exact congrArg _ (Int.natCast_succ j).symm, hg, HB.out.trans hb.out⟩, by first | exact meas hlt HW.out | exact meas hlt (Int.natCast_succ j).symm⟩
        · have hd' : decide (id < (j : Int) + 1) = false := decide_eq_false hd
          have HD : Hid (¬ (id < (j : Int) + 1 ∧ r.k = kind)) := fun h => hd h.1
          clear hd
          go_wp2_with fail
          exact ⟨⟨j + 1, hlt, by first | rw [HW.out] | exact congrArg _ (Int.natCast_succ j).symm, by rw [HSm.out HD.out]; exact HG, HB⟩, by first | exact meas hlt HW.out | exact meas hlt (Int.natCast_succ j).symm⟩
      · have hk' : (r.k == kind) = false := by simpa using hk
        have HD : Hid (¬ (id < (j : Int) + 1 ∧ r.k = kind)) := fun h => hk h.2
        clear hk
        go_wp2_with fail
        exact ⟨⟨j + 1, hlt, by first | rw [HW.out] | exact congrArg _ (Int.natCast_succ j).symm, by rw [HSm.out HD.out]; exact HG, HB⟩, by first | exact meas hlt HW.out | exact meas hlt (Int.natCast_succ j).symm⟩
    · obtain rfl : j = N := by omega
      go_wp2_with fail
      go_ret
      exact ⟨_, rfl, HG.out, HB.out⟩
set_option maxHeartbeats 4000000 in
set_option maxRecDepth 100000 in
theorem rfind_calls (a : Option Addr) (c : Nat) (hs : List Rw) (N : Nat) (hN : hs.length = N) (hl : N ≤ 200) (kind : Int) (w : World) (hR : RowE w a hs) :
    Calls Try.prog 13 #[.slice a N c, .int .i64 kind] w fun e W' => ∃ v, e = .returned v ∧ W'.ownsRow w.heap.size 3 1 v (fnd hs kind (List.range N)).length ((fnd hs kind (List.range N)).map (Value.int .i64)) ∧ Below w.heap.size w W' := by
  have HR : Hid (RowE w a hs) := hR
  have HN : Hid (hs.length = N) := hN
  have HL : Hid (N ≤ 200) := hl
  obtain ⟨i0, hi, hz0, hz1, hz2⟩ := info_parts info3
  clear hR hN hl
  go_enter Try.func13, Try.ntmps13
  go_wp2_with fail
  go_loopw [5, 6] (fun v i wr => ∃ j : Nat, j ≤ N ∧ i = .int .i64 (j : Int) ∧ Hid (wr.ownsRow w.heap.size 3 1 v (fnd hs kind (List.range j)).length ((fnd hs kind (List.range j)).map (Value.int .i64))) ∧ Hid (Below w.heap.size w wr)) (fun _ i _ => N - (intOf i).toNat)
  case atStart => exact ⟨0, Nat.zero_le _, rfl, World.ownsRow_nil _ _ _ _, Below.refl _ _⟩
  case round =>
    obtain ⟨j, hj, rfl, HG, HB⟩ := hrel
    by_cases hlt : j < N
    · obtain ⟨r, hr⟩ : ∃ r, hs[j]? = some r := ⟨_, List.getElem?_eq_getElem (by rw [HN.out]; exact hlt)⟩
      obtain ⟨B, o, rfl, hat⟩ := HR.out j r hr
      obtain ⟨e0, -⟩ := hat.below HB.out
      have hx := rx_some hr
      have hfl := fnd_len hs kind (List.range j)
      rw [List.length_range] at hfl
      have HSh : Hid (r.k = kind → fnd hs kind (List.range (j + 1)) = fnd hs kind (List.range j) ++ [(j : Int) + 1]) := fun h1 => by rw [List.range_succ]; exact fnd_hit hs kind _ (by rw [hx]; exact h1)
      have HSm : Hid (¬ r.k = kind → fnd hs kind (List.range (j + 1)) = fnd hs kind (List.range j)) := fun h => by rw [List.range_succ]; exact fnd_miss hs kind _ (by rw [hx]; exact h)
      have HW : Hid (wrap64 ((j : Int) + 1) = ((j + 1 : Nat) : Int)) := wr1 hlt (by have := HL.out; omega)
      have hw1 : wrap64 ((j : Int) + 1) = (j : Int) + 1 := by unfold wrap64; have := HL.out; omega
      have hjn : (j : Int) < (N : Int) := by omega
      obtain ⟨u', w2, hrun, hown', hbl, _, _⟩ := app2 (lo := w.heap.size) (src := wr.heap.size) (t := 25) (news := [.int .i64 ((j : Int) + 1)]) (W := wr.alloc (.cells #[.int .i64 ((j : Int) + 1)] 3)) Try.underlying25 hi hz0 hz1 hz2 rfl (by decide) (HG.out.alloc _) rfl (cell_one_new _ _ _) (by simp [Value.oneCell']) (by have := HL.out; omega) (by have := HL.out; omega) (by have := HB.out.size; simp; omega)
      obtain ⟨g', cap', rfl⟩ := ownsRow_succ hown'
      have HRun : Hid (∀ ty, _) := hrun
      have HO : Hid (w2.ownsRow w.heap.size 3 1 (.slice (some ⟨g', 0, none⟩) ((fnd hs kind (List.range j)).length + 1) cap') ((fnd hs kind (List.range j)).length + 1) ((fnd hs kind (List.range j)).map (Value.int .i64) ++ [.int .i64 ((j : Int) + 1)])) := hown'
      have HB2 : Hid (Below w.heap.size w w2) := (HB.out.alloc HB.out.size _).trans hbl
      clear hat hr hx hfl hrun hown' hbl
      by_cases hk : r.k = kind
      · have hk' : (r.k == kind) = true := by simpa using hk
        have HS := HSh.out hk
        have HSS : Hid (fnd hs kind (List.range (j + 1)) = fnd hs kind (List.range j) ++ [(j : Int) + 1]) := HS
        clear hk HS
        go_wp2_with (at_builtin; refine Lib.wpList_append_run _ rfl _ _ 25 25 rfl _ _ rfl rfl _ _ (HRun.out _) ?_)
        exact ⟨⟨j + 1, hlt, by first | rw [HW.out] | exact congrArg _ (Int.natCast_succ j).symm, by rw [HSS.out]; show World.ownsRow _ _ _ _ _ _ _; simpa using HO.out, HB2⟩, by first | exact meas hlt HW.out | exact meas hlt (Int.natCast_succ j).symm⟩
      · have hk' : (r.k == kind) = false := by simpa using hk
        have HSS : Hid (fnd hs kind (List.range (j + 1)) = fnd hs kind (List.range j)) := HSm.out hk
        clear hk
        go_wp2_with fail
        exact ⟨⟨j + 1, hlt, by first | rw [HW.out] | exact congrArg _ (Int.natCast_succ j).symm, by rw [HSS.out]; exact HG, HB⟩, by first | exact meas hlt HW.out | exact meas hlt (Int.natCast_succ j).symm⟩
    · obtain rfl : j = N := by omega
      go_wp2_with fail
      go_ret
      exact ⟨_, rfl, HG.out, HB.out⟩
end Go.Proofs.Ytdlllehoeodekaa
