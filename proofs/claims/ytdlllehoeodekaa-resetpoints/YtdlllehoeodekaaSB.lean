/- The contracts of Points of both, of retried and of the program's Again. -/
import Derived.Test.YtdlllehoeodekaaSA
namespace Go.Proofs.Ytdlllehoeodekaa
open Go.ChangeAt Go.ChangeShapes Go.Deep Go.RowKit Go.WideShapes
set_option maxHeartbeats 1000000 in
theorem points_calls (a : Option Addr) (c : Nat) (hs : List Rw) (N : Nat) (hN : hs.length = N) (hl : N ≤ 200) (w : World) (hR : RowE w a hs) :
    Calls Try.prog 6 #[.slice a N c] w fun e W' => ∃ v, e = .returned v ∧ Ir W' v (fnd hs 4 (List.range N)) ∧ Below w.heap.size w W' := by
  have K : Hid (Calls Try.prog 12 #[.slice a N c, .int .i64 4] w _) := find_calls a c hs N hN hl 4 w hR
  clear hN hl hR
  go_enter Try.func6, Try.ntmps6
  go_wp2_with fail
  refine K.out.mono ?_
  rintro e w1 ⟨v, rfl, ho, hb⟩
  have HI : Hid (Ir w1 v (fnd hs 4 (List.range N))) := ir_of ho
  clear ho K
  go_wp2_with fail
  go_ret
  exact ⟨_, rfl, HI.out, hb⟩
set_option maxHeartbeats 1000000 in
theorem rpoints_calls (a : Option Addr) (c : Nat) (hs : List Rw) (N : Nat) (hN : hs.length = N) (hl : N ≤ 200) (w : World) (hR : RowE w a hs) :
    Calls Try.prog 7 #[.slice a N c] w fun e W' => ∃ v, e = .returned v ∧ Ir W' v (fnd hs 4 (List.range N)) ∧ Below w.heap.size w W' := by
  have K : Hid (Calls Try.prog 13 #[.slice a N c, .int .i64 4] w _) := rfind_calls a c hs N hN hl 4 w hR
  clear hN hl hR
  go_enter Try.func7, Try.ntmps7
  go_wp2_with fail
  refine K.out.mono ?_
  rintro e w1 ⟨v, rfl, ho, hb⟩
  have HI : Hid (Ir w1 v (fnd hs 4 (List.range N))) := ir_of ho
  clear ho K
  go_wp2_with fail
  go_ret
  exact ⟨_, rfl, HI.out, hb⟩
theorem take_snoc {fz : List Ev} {j : Nat} (h : j < fz.length) (run t : Int) : evF run t :: (fz.take (j + 1)).map (evS t) = (evF run t :: (fz.take j).map (evS t)) ++ [evS t (ex fz j)] := by
  rw [List.take_add_one, List.getElem?_eq_getElem h, ex_some (List.getElem?_eq_getElem h)]
  show evF run t :: (fz.take j ++ [fz[j]]).map (evS t) = _
  rw [List.map_append]
  rfl
theorem take_len {fz : List Ev} {j : Nat} (h : j ≤ fz.length) (run t : Int) : (evF run t :: (fz.take j).map (evS t)).length = j + 1 := by
  simp
  omega
set_option maxHeartbeats 4000000 in
set_option maxRecDepth 100000 in
theorem retried_calls (a : Option Addr) (c NN : Nat) (rs : List Rw) (fz : List Ev) (N : Nat) (hN : fz.length = N) (hl : N ≤ 200) (run t : Int) (w : World) (hrl : rs.length = N) (hR : RowE w a rs) (hE : ∀ i, IsE w NN (rx rs i) (ex fz i)) :
    Calls Try.prog 15 #[.int .i64 run, .int .i64 t, .slice a N c] w fun e W' => ∃ v, e = .returned v ∧ Ga w.heap.size NN w W' v (agn fz run t) ∧ Below w.heap.size w W' := by
  have HR : Hid (RowE w a rs ∧ ∀ i, IsE w NN (rx rs i) (ex fz i)) := ⟨hR, hE⟩
  have HN : Hid (fz.length = N ∧ rs.length = N) := ⟨hN, hrl⟩
  have HL : Hid (N ≤ 200) := hl
  have HG0 : Hid (Ga w.heap.size NN w (w.alloc (.cells #[.int .i64 5, .int .i64 t, .int .i64 run, .int .i64 0, .string ⟨#[114, 101, 115, 101, 116]⟩, .int .i64 0, .int .i64 0, .int .u64 0, .string ⟨#[]⟩, .slice none 0 0, .int .i64 0, .int .u64 0, .int .i64 0] 38)) (.slice (some ⟨w.heap.size, 0, none⟩) 1 1) [evF run t]) := Ga.one (rwF run t) (evF run t) (rwF_is w NN run t) (Nat.le_refl _)
  clear hR hE hN hl hrl
  go_enter Try.func15, Try.ntmps15
  go_wp2_with fail
  go_loopw [7, 16] (fun v i wr => ∃ j : Nat, j ≤ N ∧ i = .int .i64 (j : Int) ∧ Hid (Ga w.heap.size NN w wr v (evF run t :: (fz.take j).map (evS t))) ∧ Hid (Below w.heap.size w wr)) (fun _ i _ => N - (intOf i).toNat)
  case atStart => exact ⟨0, Nat.zero_le _, rfl, by rw [List.take_zero]; exact HG0, bel1 _ _⟩
  case round =>
    obtain ⟨j, hj, rfl, HG, HB⟩ := hrel
    have hlen := take_len (fz := fz) (j := j) (by rw [HN.out.1]; exact hj) run t
    obtain ⟨va, vc, hv⟩ := HG.out.shape
    rw [hlen] at hv
    by_cases hlt : j < N
    · obtain ⟨r, hr⟩ : ∃ r, rs[j]? = some r := ⟨_, List.getElem?_eq_getElem (by rw [HN.out.2]; exact hlt)⟩
      obtain ⟨B, o, rfl, hat⟩ := HR.out.1 j r hr
      obtain ⟨e0, e1, e2, e3, e4, e5, e6, e7, e8, e9, e10, e11, e12⟩ := hat.below HB.out
      have q1 := HR.out.2 j
      rw [rx_some hr] at q1
      obtain ⟨a2, c2, w2, hrun, hg2, hb2⟩ := ((HG.out.below (bel1 wr (.cells #[.int .i64 r.k, .int .i64 r.t, .int .i64 r.n, .int .i64 r.d, .string r.s, .int .i64 r.vk, .int .i64 r.vx, .int .u64 r.vb, .string r.vs, .slice r.la r.ll r.lc, .int .i64 r.f, .int .u64 (r.c : Int), .int .i64 r.m] 38))).below (bel1 _ (.cells #[.int .i64 7, .int .i64 t, .int .i64 0, .int .i64 0, .string r.s, .int .i64 r.vk, .int .i64 r.vx, .int .u64 r.vb, .string r.vs, .slice r.la r.ll r.lc, .int .i64 0, .int .u64 0, .int .i64 0] 38))).app (src := wr.heap.size + 1) (r := rwS t r) (x := evS t (ex fz j)) (by have h := rw_new (wr.alloc (.cells #[.int .i64 r.k, .int .i64 r.t, .int .i64 r.n, .int .i64 r.d, .string r.s, .int .i64 r.vk, .int .i64 r.vx, .int .u64 r.vb, .string r.vs, .slice r.la r.ll r.lc, .int .i64 r.f, .int .u64 (r.c : Int), .int .i64 r.m] 38)) (rwS t r); rw [World.size_alloc] at h; exact h) (rwS_is t q1) (by have := HB.out.size; simp; omega) (by rw [hlen]; have := HL.out; omega)
      rw [← take_snoc (by rw [HN.out.1]; exact hlt), hlen] at hg2
      rw [hlen] at hrun
      subst hv
      have HRun : Hid (∀ ty, _) := hrun
      have HG2 : Hid (Ga w.heap.size NN w w2 _ _) := hg2
      have HB2 : Hid (Below w.heap.size w w2) := ((HB.out.alloc HB.out.size _).alloc (by have := HB.out.size; simp; omega) _).trans hb2
      have HW : Hid (wrap64 ((j : Int) + 1) = ((j + 1 : Nat) : Int)) := wr1 hlt (by have := HL.out; omega)
      have hw1 : wrap64 ((j : Int) + 1) = (j : Int) + 1 := by unfold wrap64; have := HL.out; omega
      have hjn : (j : Int) < (N : Int) := by omega
      clear hat q1 hr hrun hg2 hb2 hlen HG
      go_wp2_with (at_builtin; refine Lib.wpList_append_run _ rfl _ _ 22 22 rfl _ _ rfl rfl _ _ (HRun.out _) ?_)
      exact ⟨⟨j + 1, hlt, by first | rw [HW.out] | exact congrArg _ (Int.natCast_succ j).symm, HG2, HB2⟩, by first | exact meas hlt HW.out | exact meas hlt (Int.natCast_succ j).symm⟩
    · obtain rfl : j = N := by omega
      obtain ⟨a2, c2, w2, hrun, hg2, hb2⟩ := (HG.out.below (bel1 wr (.cells #[.int .i64 2, .int .i64 t, .int .i64 1, .int .i64 t, .string ⟨#[]⟩, .int .i64 0, .int .i64 0, .int .u64 0, .string ⟨#[]⟩, .slice none 0 0, .int .i64 0, .int .u64 0, .int .i64 0] 38))).app (src := wr.heap.size) (r := rwN t) (x := evN t) (rw_new wr (rwN t)) (rwN_is w NN t) (by have := HB.out.size; simp; omega) (by rw [hlen]; have := HL.out; omega)
      have ht : fz.take j = fz := List.take_of_length_le (by rw [HN.out.1]; exact Nat.le_refl _)
      rw [hlen] at hrun hg2
      rw [ht] at hg2
      subst hv
      have HRun : Hid (∀ ty, _) := hrun
      have HG2 : Hid (Ga w.heap.size NN w w2 _ (agn fz run t)) := hg2
      have HB2 : Hid (Below w.heap.size w w2) := (HB.out.alloc HB.out.size _).trans hb2
      clear hrun hg2 hb2 hlen HG ht
      go_wp2_with (at_builtin; refine Lib.wpList_append_run _ rfl _ _ 22 22 rfl _ _ rfl rfl _ _ (HRun.out _) ?_)
      go_ret
      exact ⟨_, rfl, HG2.out, HB2.out⟩
set_option maxHeartbeats 1000000 in
theorem again_calls (a : Option Addr) (c NN : Nat) (hs : List Rw) (ys : List Ev) (N : Nat) (hN : hs.length = N) (hl : N ≤ 200) (point run t : Int) (w : World) (hH : Hh w NN a hs ys) :
    Calls Try.prog 9 #[.slice a N c, .int .i64 point, .int .i64 run, .int .i64 t] w fun e W' => ∃ v w1, e = .returned v ∧ Ga w1.heap.size NN w1 W' v (agn (aft ys point 7 (List.range N)) run t) ∧ Below w1.heap.size w1 W' ∧ Below w.heap.size w W' := by
  have K : Hid (Calls Try.prog 16 #[.slice a N c, .int .i64 point, .int .i64 7] w _) := after_calls a c NN hs ys N hN hl point 7 w hH
  have hal := aft_len ys point 7 (List.range N)
  rw [List.length_range] at hal
  have HA : Hid ((aft ys point 7 (List.range N)).length ≤ 200) := by show _ ≤ _; omega
  clear hN hl hH hal
  generalize aft ys point 7 (List.range N) = fz at K HA
  go_enter Try.func9, Try.ntmps9
  go_wp2_with fail
  refine K.out.mono ?_
  rintro e w1 ⟨v, rfl, hes, hb⟩
  obtain ⟨fa, fc, rs, rfl, _, hrl, hre, hie⟩ := hes.rows
  have HC : Hid (Calls Try.prog 15 #[.int .i64 run, .int .i64 t, .slice fa fz.length fc] w1 _) := retried_calls fa fc NN rs fz fz.length rfl HA.out run t w1 hrl hre hie
  have HB1 : Hid (Below w.heap.size w w1) := hb
  clear hes hb hrl hre hie K
  go_wp2_with fail
  refine HC.out.mono ?_
  rintro e w2 ⟨v, rfl, hg, hb⟩
  have HG : Hid (Ga w1.heap.size NN w1 w2 v (agn fz run t)) := hg
  have HB2 : Hid (Below w1.heap.size w1 w2) := hb
  clear hg hb HC
  go_wp2_with fail
  go_ret
  exact ⟨_, w1, rfl, HG.out, HB2.out, bel2 HB1.out HB2.out⟩
end Go.Proofs.Ytdlllehoeodekaa
