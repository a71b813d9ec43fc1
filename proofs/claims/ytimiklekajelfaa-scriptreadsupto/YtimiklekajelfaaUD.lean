/- The contract of the reference's Step. -/
import Derived.Test.YtimiklekajelfaaUC
import Derived.Test.YtimiklekajelfaaPF
namespace Go.Proofs.Ytimiklekajelfaa
open Go.ChangeShapes Go.WideShapes Go.ChangeAt Go.RowKit
theorem RT.keep {w w' : World} {g h : Nat} {l : List UInt8} {e : Int} (r : RT w g h l e) (h1 : w'.heap[g]? = w.heap[g]?) (h2 : w'.heap[h]? = w.heap[h]?) : RT w' g h l e := by
  have fg : ∀ o, w'.cell? ⟨g, o, none⟩ = w.cell? ⟨g, o, none⟩ := fun o => World.cell?_of_block h1
  have fh : ∀ o, w'.cell? ⟨h, o, none⟩ = w.cell? ⟨h, o, none⟩ := fun o => World.cell?_of_block h2
  have zg : ∀ o, w'.frozen? ⟨g, o, none⟩ = w.frozen? ⟨g, o, none⟩ := fun o => World.frozen?_of_block h1
  obtain ⟨p, c, a0, a1, f0, f1, hl, hg, hb, he⟩ := r
  refine ⟨p, c, (fg 0).trans a0, (fg 1).trans a1, (zg 0).trans f0, (zg 1).trans f1, hl, hg, fun hne => ?_, he⟩
  obtain ⟨o, hp, hcell⟩ := hb hne
  exact ⟨o, hp, fun i x hx => (fh _).trans (hcell i x hx)⟩
theorem RT.lt {w : World} {g h : Nat} {l : List UInt8} {e : Int} (r : RT w g h l e) : g < w.heap.size := by
  obtain ⟨p, c, a0, _⟩ := r
  exact World.block_lt_of_cell? w ⟨g, 0, none⟩ a0
/-- Open: a reader whose bytes lie below it. -/
theorem ropen2_calls (v : Value) (l : List UInt8) (w : World) (hv : Lib.HoldsBytes w v l) (hl : l.length ≤ 140737488351232) (h0 : 0 < w.heap.size) :
    Calls Try.prog 24 #[v] w fun e w' => ∃ g h, e = .returned (.pointer (some ⟨g, 0, none⟩)) ∧ w.heap.size ≤ g ∧ g < w'.heap.size ∧ h < g ∧ RT w' g h l 0 ∧ Below w.heap.size w w' := by
  have HV : Hid (Lib.HoldsBytes w v l) := hv
  have HL : Hid (l.length ≤ 140737488355328) := by show l.length ≤ 140737488355328; omega
  have H0 : Hid (0 < w.heap.size) := h0
  obtain ⟨p, cap, rfl, q1, q2⟩ := hv
  clear q1 q2 hl h0
  go_enter Try.func24, Try.ntmps24
  go_wp2_with fail
  refine (copied_all _ _ _ HV.out HL.out).mono ?_
  rintro e w1 ⟨v1, rfl, ho, hb⟩
  obtain ⟨p1, c1, h, rfl, k0, k2⟩ : ∃ p c h, v1 = .slice p l.length c ∧ h < w1.heap.size ∧ RT (w1.alloc (.cells #[.slice p l.length c, .int .i64 0] 64)) w1.heap.size h l 0 := by
    obtain ⟨p, c, h, e, _, k2⟩ := ropen_world w w1 v1 l ho hb.size
    by_cases hl : l = []
    · obtain ⟨p', c', a0, a1, f0, f1, hlc, _, _, he⟩ := k2
      have hs := hb.size
      have hp := H0.out
      subst hl
      exact ⟨p, c, w1.heap.size - 1, e, by omega, p', c', a0, a1, f0, f1, hlc, by omega, HBk.nil _ _ _, he⟩
    · have k2' := k2
      obtain ⟨p', c', a0, a1, f0, f1, hlc, hne, hbk, he⟩ := k2
      obtain ⟨o, _, hcell⟩ := hbk hl
      obtain ⟨b, t, rfl⟩ := List.exists_cons_of_ne_nil hl
      have := World.block_lt_of_cell? _ _ (hcell 0 b rfl)
      have hlt : h < w1.heap.size + 1 := by simpa using this
      exact ⟨p, c, h, e, by omega, k2'⟩
  have K0 : Hid (h < w1.heap.size) := k0
  have K2 : Hid (RT _ _ _ _ _) := k2
  have HB : Hid (Below w.heap.size w w1) := hb
  clear ho hb k0 k2
  go_wp2
  go_ret
  exact ⟨_, h, rfl, HB.out.size, by simp, K0.out, K2.out, HB.out.alloc HB.out.size _⟩
/-- Where the reference's Step stands while it reads: its result's box, its reader, its own box at q. -/
structure RMid (w W : World) (g h q : Nat) (l : List UInt8) (e : Int) (c0 c1 c2 c3 c4 : Value) : Prop where
  g0 : w.heap.size < g
  hg : h < g
  gq : g < q
  q1 : q < W.heap.size
  res : At5 W w.heap.size 0 (.int .i64 0) (.int .i64 0) (.int .i64 0) (.slice none 0 0) (.slice none 0 0)
  rfr : ∀ o, W.frozen? ⟨w.heap.size, o, none⟩ = false
  own : At5 W q 0 c0 c1 c2 c3 c4
  ofr : ∀ o, W.frozen? ⟨q, o, none⟩ = false
  rt : RT W g h l e
  bel : Below w.heap.size w W
theorem RMid.step {w W W' : World} {g h q : Nat} {l l' : List UInt8} {e e' : Int} {c0 c1 c2 c3 c4 : Value} (m : RMid w W g h q l e c0 c1 c2 c3 c4) (s : RT W' g h l' e') (k : KB g W W') : RMid w W' g h q l' e' c0 c1 c2 c3 c4 := by
  have a := m.g0
  have b := m.gq
  have c := m.q1
  exact ⟨a, m.hg, b, Nat.lt_of_lt_of_le c k.2.2.2.1, m.res.kb k (by omega), fun o => (k.frozen (a := ⟨w.heap.size, o, none⟩) (show w.heap.size < W.heap.size by omega) (show w.heap.size ≠ g by omega)).trans (m.rfr o), m.own.kb k (by omega), fun o => (k.frozen (a := ⟨q, o, none⟩) c (show q ≠ g by omega)).trans (m.ofr o), s, m.bel.trans (k.below (by omega) m.bel.size)⟩
theorem RMid.blw {w W W' : World} {g h q : Nat} {l : List UInt8} {e : Int} {c0 c1 c2 c3 c4 : Value} (m : RMid w W g h q l e c0 c1 c2 c3 c4) (k : Below W.heap.size W W') : RMid w W' g h q l e c0 c1 c2 c3 c4 := by
  have a := m.g0
  have b := m.gq
  have c := m.q1
  have d := m.hg
  exact m.step (m.rt.keep (k.block g (by omega)) (k.block h (by omega))) (KB.of_below k)
theorem RMid.put {w W : World} {g h q i : Nat} {l : List UInt8} {e : Int} {c0 c1 c2 c3 c4 d0 d1 d2 d3 d4 : Value} (m : RMid w W g h q l e c0 c1 c2 c3 c4) (u : Value) (h5 : At5 (W.setCell ⟨q, i, none⟩ u) q 0 d0 d1 d2 d3 d4) : RMid w (W.setCell ⟨q, i, none⟩ u) g h q l e d0 d1 d2 d3 d4 := by
  have a := m.g0
  have b := m.gq
  have c := m.q1
  have d := m.hg
  have hb : ∀ B, B ≠ q → (W.setCell ⟨q, i, none⟩ u).heap[B]? = W.heap[B]? := fun B hB => Below.heap_setCell _ _ _ _ hB
  have hsz : (W.setCell ⟨q, i, none⟩ u).heap.size = W.heap.size := by simp [World.setCell]
  exact ⟨a, d, b, by rw [hsz]; exact c, m.res.keepB (hb _ (by omega)), fun o => (World.frozen?_setCell _ _ _ _).trans (m.rfr o), h5, fun o => (World.frozen?_setCell _ _ _ _).trans (m.ofr o), m.rt.keep (hb g (by omega)) (hb h (by omega)), m.bel.setCell (p := ⟨q, i, none⟩) (show w.heap.size ≤ q by omega) u⟩
theorem RMid.fin {w W : World} {g h q : Nat} {l : List UInt8} {e : Int} {vb vk : Value} {x : Sp} (m : RMid w W g h q l e (.int .i64 x.k) (.int .i64 x.s) (.int .i64 x.n) vb vk) (hi : IsV (fun B => w.heap.size < B) W vb vk x) :
    StP w (x, true) (.returned (.tuple #[.agg #[.int .i64 x.k, .int .i64 x.s, .int .i64 x.n, vb, vk], .bool true])) (set5 W w.heap.size 0 (.int .i64 x.k) (.int .i64 x.s) (.int .i64 x.n) vb vk) := by
  have kb := set5_kb W w.heap.size 0 (.int .i64 x.k) (.int .i64 x.s) (.int .i64 x.n) vb vk
  exact ⟨vb, vk, rfl, hi.keep fun B hB hl => ⟨kb.2.2.2.2 B hl (by omega), by omega⟩, m.bel.trans (kb.below (Nat.le_refl _) m.bel.size)⟩
theorem RMid.fin0 {w W : World} {g h q : Nat} {l : List UInt8} {e : Int} {c0 c1 c2 c3 c4 : Value} (m : RMid w W g h q l e c0 c1 c2 c3 c4) :
    StP w (zS, false) (.returned (.tuple #[.agg #[.int .i64 0, .int .i64 0, .int .i64 0, .slice none 0 0, .slice none 0 0], .bool false])) (set5 W w.heap.size 0 (.int .i64 0) (.int .i64 0) (.int .i64 0) (.slice none 0 0) (.slice none 0 0)) := by
  have kb := set5_kb W w.heap.size 0 (.int .i64 0) (.int .i64 0) (.int .i64 0) (.slice none 0 0) (.slice none 0 0)
  exact ⟨_, _, rfl, isv_nil _ _ _ _ _, m.bel.trans (kb.below (Nat.le_refl _) m.bel.size)⟩
theorem ret10 (tmps : Array Value) {w : World} {g : Nat} {c0 c1 c2 c3 c4 y : Value} (hp : tmps.getD 2 undef = .pointer (some ⟨g, 0, none⟩)) (hq : tmps.getD 3 undef = y) (h5 : At5 w g 0 c0 c1 c2 c3 c4) :
    (results Try.f10 tmps).run Try.prog w = .ok (.tuple #[.agg #[c0, c1, c2, c3, c4], y]) w := by
  have hp' : tmps[2]?.getD undef = .pointer (some ⟨g, 0, none⟩) := by simpa using hp
  have hq' : tmps[3]?.getD undef = y := by simpa using hq
  simp [results, hp', hq', asAddr, load5 h5]
theorem rdK_err : ∀ (n : Nat) (l : List UInt8) (e : Int), e ≠ 0 → (rdK n l e).2.2 = e
  | 0, _, _, _ => rfl
  | n + 1, l, e, h => by
    have hs := sNum_err (m := 1099511627776) (l := l) h
    unfold rdK
    rw [hs]
    exact rdK_err n l e h
theorem RMid.blw2 {w W W' : World} {g h q : Nat} {l : List UInt8} {e : Int} {c0 c1 c2 c3 c4 : Value} (m : RMid w W g h q l e c0 c1 c2 c3 c4) (n : Nat) (hn : q < n) (k : Below n W W') : RMid w W' g h q l e c0 c1 c2 c3 c4 := by
  have a := m.g0
  have b := m.gq
  have c := m.q1
  have d := m.hg
  have kb : ∀ B, B < n → W'.heap[B]? = W.heap[B]? := fun B hB => k.block B hB
  exact ⟨a, d, b, Nat.lt_of_lt_of_le c k.size, m.res.keepB (kb _ (by omega)), fun o => (World.frozen?_of_block (a := ⟨w.heap.size, o, none⟩) (kb w.heap.size (by omega))).trans (m.rfr o), m.own.keepB (kb q hn), fun o => (World.frozen?_of_block (a := ⟨q, o, none⟩) (kb q hn)).trans (m.ofr o), m.rt.keep (kb g (by omega)) (kb h (by omega)), m.bel.trans (k.mono (by omega))⟩
/-- append of one number to numbers of the call's own. -/
theorem int_app {lo src : Nat} {W : World} {u : Value} {k : Nat} {xs : List Value} (X : Int) (h : W.ownsRow lo 3 1 u k xs) (hx : W.cell? ⟨src, 0, none⟩ = some (.int .i64 X)) (hB : lo ≤ W.heap.size) (hk : k ≤ 1000) :
    ∃ u' w', (∀ ty, (Builtin.append_ #[26, 26] ty #[u, .slice (some ⟨src, 0, none⟩) 1 1]).run Try.prog W = .ok u' w') ∧ w'.ownsRow lo 3 1 u' (k + 1) (xs ++ [.int .i64 X]) ∧ Below lo W w' ∧ (∀ B, B < W.heap.size → u.ownBlock ≠ some B → w'.heap[B]? = W.heap[B]?) := by
  obtain ⟨i0, hi, hz0, hz1, hz2⟩ := info_parts info3i
  have hnews : ∀ j z, [Value.int .i64 X][j]? = some z → W.cell? ((⟨src, 0, none⟩ : Addr).add j) = some z := fun j z hj => by
    rw [add_plain]
    match j, hj with
    | 0, hj => cases hj; exact hx
    | j + 1, hj => simp at hj
  have key : ∀ ty, ∃ v' w', (Builtin.append_ #[26, 26] ty #[u, .slice (some ⟨src, 0, none⟩) 1 1]).run Try.prog W = .ok v' w' ∧ w'.ownsRow lo 3 1 v' (k + 1) (xs ++ [.int .i64 X]) ∧ W.grownBy w' u.ownBlock ∧ _ := fun ty =>
    run_append_own (P := Try.prog) (w := W) lo 26 ty 3 i0 _ 1 8 u26 hi hz0 hz1 hz2 rfl (by decide) u k xs h ⟨src, 0, none⟩ 1 1 [.int .i64 X] rfl hnews (fun z hz => by rw [List.mem_singleton.1 hz]; rfl) (by unfold maxLen; omega) (by omega) hB
  obtain ⟨u', w', hr, hown', hgrow, _⟩ := key 26
  exact ⟨u', w', fun ty => hr, hown', (Below.refl _ W).grown hgrow hB (fun k hk2 => (World.ownsRow.lt h k hk2).1), fun B hB2 hne => hgrow.block B hB2 (fun e => hne e.symm)⟩
theorem ints_hl {lo : Nat} {w : World} {a : Option Addr} {n c : Nat} {zs : List Int} (h : w.ownsRow lo 3 1 (.slice a n c) zs.length (zs.map ei)) : HL ei (fun B => lo ≤ B) w (.slice a n c) zs := by
  have h2 := h
  obtain ⟨_, ⟨hu, h0⟩ | ⟨g, cap, cur, hu, hg, _, hle, hm, _⟩⟩ := h
  · cases hu
    have : zs = [] := List.eq_nil_of_length_eq_zero h0
    subst this
    exact HL.nil _ _ _
  · cases hu
    unfold maxLen at hm
    refine ⟨_, _, rfl, hle, by omega, fun i z hz => ⟨g, 0, rfl, hg, ?_⟩⟩
    have hi := (List.getElem?_eq_some_iff.1 hz).1
    rw [Nat.zero_add, World.ownsRow.cellAt h2 i (by omega), List.getElem?_map, hz]
    rfl
/-- What Step tells, by what is read. -/
theorem stR_of {l : List UInt8} {x : Sp} {l2 : List UInt8} {e2 : Int} (h : rdS l 0 = (x, l2, e2)) : stR l = if en l2 e2 = 0 then (x, true) else (zS, false) := by unfold stR; rw [h]
theorem en_zero {l : List UInt8} {e : Int} (h : en l e = 0) : e = 0 := by
  unfold en at h
  split at h
  · rename_i h3; simpa using h3
  · exact h
set_option maxHeartbeats 4000000 in
set_option maxRecDepth 100000 in
theorem rstep5_calls (w : World) (v : Value) (l : List UInt8) (hv : Lib.HoldsBytes w v l) (hl : l.length ≤ 140737488351232) (l1 : List UInt8) (e1 : Int) (hk : sNum 8 l 0 = (5, l1, e1)) :
    Calls Try.prog 10 #[v] w (StP w (stR l)) := by
  have HR : Hid (rdS l 0 = rdF 1 5 l1 e1) := by
    show _ = _
    unfold rdS
    rw [hk]
    rfl
  have HOK : Hid (WfS (rdS l 0).1 ∧ ((rdS l 0).2.2 = 0 → mayB (rdS l 0).1 = true)) := rdS_ok l 0
  have OC : Hid (Calls Try.prog 24 #[v] (w.alloc (.cells #[.int .i64 0, .int .i64 0, .int .i64 0, .slice none 0 0, .slice none 0 0] 28)) _) := ropen2_calls v l _ (holds_below hv (bel1 w _)) hl (by simp)
  have HNC : Hid (∀ W g h, RT W g h l 0 → Calls Try.prog 25 #[.pointer (some ⟨g, 0, none⟩), .int .i64 8] W (Rr W g h (.int .i64 5) l1 e1)) := fun W g h r => by
    have := rnum_rt W g h l 0 8 r
    rwa [hk] at this
  obtain ⟨k', x', b', rfl⟩ : ∃ a m c, v = .slice a m c := by obtain ⟨p, cap, rfl, q1, q2⟩ := hv; exact ⟨_, _, _, rfl⟩
  have hW0 : Hid ((w.alloc (.cells #[.int .i64 0, .int .i64 0, .int .i64 0, .slice none 0 0, .slice none 0 0] 28)).heap.size = w.heap.size + 1) := by show _ = _; simp
  clear hv hl hk
  go_enter Try.func10, Try.ntmps10
  go_wp2_with fail
  refine OC.out.mono ?_
  rintro x w1 ⟨g, h, rfl, hg1, hg2, hh, r1, b1⟩
  have HB1 : Hid (Below w.heap.size w w1) := (bel1 w _).trans (b1.mono (by have := hW0.out; omega))
  have R0 : Hid (At5 w1 w.heap.size 0 (.int .i64 0) (.int .i64 0) (.int .i64 0) (.slice none 0 0) (.slice none 0 0) ∧ ∀ o, w1.frozen? ⟨w.heap.size, o, none⟩ = false) := ⟨(box_at w (.int .i64 0) (.int .i64 0) (.int .i64 0) (.slice none 0 0) (.slice none 0 0)).below b1, fun o => (b1.frozen (p := ⟨w.heap.size, o, none⟩) (show w.heap.size < _ by have := hW0.out; omega)).trans (fresh w _ o)⟩
  have HG : Hid (w.heap.size < g ∧ g < w1.heap.size ∧ h < g) := by have := hW0.out; show _ ∧ _; omega
  have NC1 : Hid (Calls Try.prog 25 #[.pointer (some ⟨g, 0, none⟩), .int .i64 8] w1 _) := HNC.out w1 g h r1
  clear hg1 hg2 hh r1 b1 HNC OC
  go_wp2_with fail
  refine NC1.out.mono ?_
  rintro x w2 ⟨rfl, r2, k2⟩
  have M0 : Hid (RMid w (w2.alloc (.cells #[.int .i64 5, .int .i64 0, .int .i64 0, .slice none 0 0, .slice none 0 0] 28)) g h w2.heap.size l1 e1 (.int .i64 5) (.int .i64 0) (.int .i64 0) (.slice none 0 0) (.slice none 0 0)) := by
    have hz := k2.2.2.2.1
    have hG := HG.out
    have hb2 := bel1 w2 (.cells #[.int .i64 5, .int .i64 0, .int .i64 0, .slice none 0 0, .slice none 0 0] 28)
    exact ⟨hG.1, hG.2.2, by omega, by simp, (R0.out.1.kb k2 (by omega)).below hb2, fun o => (hb2.frozen (show w.heap.size < w2.heap.size by omega)).trans ((k2.frozen (a := ⟨w.heap.size, o, none⟩) (show w.heap.size < w1.heap.size by omega) (show w.heap.size ≠ g by omega)).trans (R0.out.2 o)), box_at w2 _ _ _ _ _, fun o => fresh w2 _ o, r2.keep (hb2.block g (by omega)) (hb2.block h (by omega)), HB1.out.trans ((k2.below (by omega) HB1.out.size).trans (hb2.mono (by omega)))⟩
  obtain ⟨W2, hW2⟩ : ∃ W2, W2 = w2.alloc (.cells #[.int .i64 5, .int .i64 0, .int .i64 0, .slice none 0 0, .slice none 0 0] 28) := ⟨_, rfl⟩
  obtain ⟨q, hq⟩ : ∃ q, q = w2.heap.size := ⟨_, rfl⟩
  rw [← hW2, ← hq] at M0
  have HW2 : Hid (W2 = _) := hW2
  have HQ : Hid (q = w2.heap.size) := hq
  clear r2 k2 hW2 hq NC1
  go_upto_region 3 with fail
  rw [← HW2.out, ← HQ.out]
  obtain ⟨o0, o1, o2, o3, o4⟩ := M0.out.own
  go_upto_region 19 with fail
  have IV : Hid (IsV (fun B => w.heap.size < B) W2 (.slice none 0 0) (.slice none 0 0) ⟨5, 0, 0, [], []⟩) := isv_nil _ _ _ _ _
  have EC : Hid (Calls Try.prog 28 #[.pointer (some ⟨g, 0, none⟩)] W2 _) := rend_rt W2 g h l1 e1 M0.out.rt
  have HX : Hid (rdS l 0 = (⟨5, 0, 0, [], []⟩, l1, e1)) := by show _ = _; rw [HR.out]; unfold rdF; rw [if_neg (by decide), if_neg (by decide), if_neg (by decide), if_neg (by decide), if_pos rfl]
  obtain ⟨E, hE⟩ : ∃ E, E = en l1 e1 := ⟨_, rfl⟩
  rw [← hE] at EC
  have HE : Hid (E = en l1 e1) := hE
  clear hE
  by_cases h0 : E = 0
  · have dE : (E != 0) = false := by simpa using h0
    have HM : Hid (mayB ⟨5, 0, 0, [], []⟩ = true) := by show _ = _; have h := HOK.out.2; rw [HX.out] at h; exact h (en_zero (HE.out.symm.trans h0))
    have HS : Hid (stR l = (⟨5, 0, 0, [], []⟩, true)) := by show _ = _; rw [stR_of HX.out, ← HE.out, if_pos h0]
    have MC0 := rmay_calls (fun B => w.heap.size < B) ⟨5, 0, 0, [], []⟩ (.slice none 0 0) (.slice none 0 0) W2 IV.out
    rw [HM.out] at MC0
    unfold rowS at MC0
    dsimp only at MC0
    have MC : Hid (Calls Try.prog 29 _ W2 _) := MC0
    clear MC0 h0
    go_wp2_with fail
    refine EC.out.mono ?_
    rintro x w8 ⟨rfl, hw8⟩
    have hw8' := hw8.symm
    subst hw8'
    clear hw8 EC
    go_wp2_with fail
    refine MC.out.mono ?_
    rintro x w9 ⟨rfl, hb9⟩
    have M9 : Hid (RMid w w9 g h q l1 e1 (.int .i64 (5)) (.int .i64 (0)) (.int .i64 (0)) (.slice none 0 0) (.slice none 0 0)) := M0.out.blw hb9
    have I9 : Hid (IsV (fun B => w.heap.size < B) w9 (.slice none 0 0) (.slice none 0 0) ⟨5, 0, 0, [], []⟩) := IV.out.below hb9
    clear hb9 MC o0 o1 o2 o3 o4
    obtain ⟨a0, a1, a2, a3, a4⟩ := M9.out.own
    obtain ⟨b0, b1, b2, b3, b4⟩ := M9.out.res
    have f0 := M9.out.rfr 0
    have f1 := M9.out.rfr 1
    have f2 := M9.out.rfr 2
    have f3 := M9.out.rfr 3
    have f4 := M9.out.rfr 4
    go_wp2_with fail
    refine bodyPost_ret (ret10 _ (g := w.heap.size) rfl rfl (set5_at M9.out.res (.int .i64 (5)) (.int .i64 (0)) (.int .i64 (0)) (.slice none 0 0) (.slice none 0 0))) rfl ?_
    rw [HS.out]
    exact RMid.fin (x := ⟨5, 0, 0, [], []⟩) M9.out I9.out
  · have dE : (E != 0) = true := by simpa using h0
    have HS : Hid (stR l = (zS, false)) := by show _ = _; rw [stR_of HX.out, ← HE.out, if_neg h0]
    clear h0 o0 o1 o2 o3 o4
    go_wp2_with fail
    refine EC.out.mono ?_
    rintro x w8 ⟨rfl, hw8⟩
    have hw8' := hw8.symm
    subst hw8'
    clear hw8 EC
    obtain ⟨b0, b1, b2, b3, b4⟩ := M0.out.res
    have f0 := M0.out.rfr 0
    have f1 := M0.out.rfr 1
    have f2 := M0.out.rfr 2
    have f3 := M0.out.rfr 3
    have f4 := M0.out.rfr 4
    go_wp2_with fail
    refine bodyPost_ret (ret10 _ (g := w.heap.size) rfl rfl (set5_at M0.out.res (.int .i64 0) (.int .i64 0) (.int .i64 0) (.slice none 0 0) (.slice none 0 0))) rfl ?_
    rw [HS.out]
    exact M0.out.fin0
set_option maxHeartbeats 4000000 in
set_option maxRecDepth 100000 in
theorem rstep7_calls (w : World) (v : Value) (l : List UInt8) (hv : Lib.HoldsBytes w v l) (hl : l.length ≤ 140737488351232) (l1 : List UInt8) (e1 : Int) (hk : sNum 8 l 0 = (7, l1, e1)) :
    Calls Try.prog 10 #[v] w (StP w (stR l)) := by
  have HR : Hid (rdS l 0 = rdF 1 7 l1 e1) := by
    show _ = _
    unfold rdS
    rw [hk]
    rfl
  have HOK : Hid (WfS (rdS l 0).1 ∧ ((rdS l 0).2.2 = 0 → mayB (rdS l 0).1 = true)) := rdS_ok l 0
  have OC : Hid (Calls Try.prog 24 #[v] (w.alloc (.cells #[.int .i64 0, .int .i64 0, .int .i64 0, .slice none 0 0, .slice none 0 0] 28)) _) := ropen2_calls v l _ (holds_below hv (bel1 w _)) hl (by simp)
  have HNC : Hid (∀ W g h, RT W g h l 0 → Calls Try.prog 25 #[.pointer (some ⟨g, 0, none⟩), .int .i64 8] W (Rr W g h (.int .i64 7) l1 e1)) := fun W g h r => by
    have := rnum_rt W g h l 0 8 r
    rwa [hk] at this
  obtain ⟨k', x', b', rfl⟩ : ∃ a m c, v = .slice a m c := by obtain ⟨p, cap, rfl, q1, q2⟩ := hv; exact ⟨_, _, _, rfl⟩
  have hW0 : Hid ((w.alloc (.cells #[.int .i64 0, .int .i64 0, .int .i64 0, .slice none 0 0, .slice none 0 0] 28)).heap.size = w.heap.size + 1) := by show _ = _; simp
  clear hv hl hk
  go_enter Try.func10, Try.ntmps10
  go_wp2_with fail
  refine OC.out.mono ?_
  rintro x w1 ⟨g, h, rfl, hg1, hg2, hh, r1, b1⟩
  have HB1 : Hid (Below w.heap.size w w1) := (bel1 w _).trans (b1.mono (by have := hW0.out; omega))
  have R0 : Hid (At5 w1 w.heap.size 0 (.int .i64 0) (.int .i64 0) (.int .i64 0) (.slice none 0 0) (.slice none 0 0) ∧ ∀ o, w1.frozen? ⟨w.heap.size, o, none⟩ = false) := ⟨(box_at w (.int .i64 0) (.int .i64 0) (.int .i64 0) (.slice none 0 0) (.slice none 0 0)).below b1, fun o => (b1.frozen (p := ⟨w.heap.size, o, none⟩) (show w.heap.size < _ by have := hW0.out; omega)).trans (fresh w _ o)⟩
  have HG : Hid (w.heap.size < g ∧ g < w1.heap.size ∧ h < g) := by have := hW0.out; show _ ∧ _; omega
  have NC1 : Hid (Calls Try.prog 25 #[.pointer (some ⟨g, 0, none⟩), .int .i64 8] w1 _) := HNC.out w1 g h r1
  clear hg1 hg2 hh r1 b1 HNC OC
  go_wp2_with fail
  refine NC1.out.mono ?_
  rintro x w2 ⟨rfl, r2, k2⟩
  have M0 : Hid (RMid w (w2.alloc (.cells #[.int .i64 7, .int .i64 0, .int .i64 0, .slice none 0 0, .slice none 0 0] 28)) g h w2.heap.size l1 e1 (.int .i64 7) (.int .i64 0) (.int .i64 0) (.slice none 0 0) (.slice none 0 0)) := by
    have hz := k2.2.2.2.1
    have hG := HG.out
    have hb2 := bel1 w2 (.cells #[.int .i64 7, .int .i64 0, .int .i64 0, .slice none 0 0, .slice none 0 0] 28)
    exact ⟨hG.1, hG.2.2, by omega, by simp, (R0.out.1.kb k2 (by omega)).below hb2, fun o => (hb2.frozen (show w.heap.size < w2.heap.size by omega)).trans ((k2.frozen (a := ⟨w.heap.size, o, none⟩) (show w.heap.size < w1.heap.size by omega) (show w.heap.size ≠ g by omega)).trans (R0.out.2 o)), box_at w2 _ _ _ _ _, fun o => fresh w2 _ o, r2.keep (hb2.block g (by omega)) (hb2.block h (by omega)), HB1.out.trans ((k2.below (by omega) HB1.out.size).trans (hb2.mono (by omega)))⟩
  obtain ⟨W2, hW2⟩ : ∃ W2, W2 = w2.alloc (.cells #[.int .i64 7, .int .i64 0, .int .i64 0, .slice none 0 0, .slice none 0 0] 28) := ⟨_, rfl⟩
  obtain ⟨q, hq⟩ : ∃ q, q = w2.heap.size := ⟨_, rfl⟩
  rw [← hW2, ← hq] at M0
  have HW2 : Hid (W2 = _) := hW2
  have HQ : Hid (q = w2.heap.size) := hq
  clear r2 k2 hW2 hq NC1
  go_upto_region 3 with fail
  rw [← HW2.out, ← HQ.out]
  obtain ⟨o0, o1, o2, o3, o4⟩ := M0.out.own
  go_upto_region 19 with fail
  have IV : Hid (IsV (fun B => w.heap.size < B) W2 (.slice none 0 0) (.slice none 0 0) ⟨7, 0, 0, [], []⟩) := isv_nil _ _ _ _ _
  have EC : Hid (Calls Try.prog 28 #[.pointer (some ⟨g, 0, none⟩)] W2 _) := rend_rt W2 g h l1 e1 M0.out.rt
  have HX : Hid (rdS l 0 = (⟨7, 0, 0, [], []⟩, l1, e1)) := by show _ = _; rw [HR.out]; unfold rdF; rw [if_neg (by decide), if_neg (by decide), if_neg (by decide), if_neg (by decide), if_pos rfl]
  obtain ⟨E, hE⟩ : ∃ E, E = en l1 e1 := ⟨_, rfl⟩
  rw [← hE] at EC
  have HE : Hid (E = en l1 e1) := hE
  clear hE
  by_cases h0 : E = 0
  · have dE : (E != 0) = false := by simpa using h0
    have HM : Hid (mayB ⟨7, 0, 0, [], []⟩ = true) := by show _ = _; have h := HOK.out.2; rw [HX.out] at h; exact h (en_zero (HE.out.symm.trans h0))
    have HS : Hid (stR l = (⟨7, 0, 0, [], []⟩, true)) := by show _ = _; rw [stR_of HX.out, ← HE.out, if_pos h0]
    have MC0 := rmay_calls (fun B => w.heap.size < B) ⟨7, 0, 0, [], []⟩ (.slice none 0 0) (.slice none 0 0) W2 IV.out
    rw [HM.out] at MC0
    unfold rowS at MC0
    dsimp only at MC0
    have MC : Hid (Calls Try.prog 29 _ W2 _) := MC0
    clear MC0 h0
    go_wp2_with fail
    refine EC.out.mono ?_
    rintro x w8 ⟨rfl, hw8⟩
    have hw8' := hw8.symm
    subst hw8'
    clear hw8 EC
    go_wp2_with fail
    refine MC.out.mono ?_
    rintro x w9 ⟨rfl, hb9⟩
    have M9 : Hid (RMid w w9 g h q l1 e1 (.int .i64 (7)) (.int .i64 (0)) (.int .i64 (0)) (.slice none 0 0) (.slice none 0 0)) := M0.out.blw hb9
    have I9 : Hid (IsV (fun B => w.heap.size < B) w9 (.slice none 0 0) (.slice none 0 0) ⟨7, 0, 0, [], []⟩) := IV.out.below hb9
    clear hb9 MC o0 o1 o2 o3 o4
    obtain ⟨a0, a1, a2, a3, a4⟩ := M9.out.own
    obtain ⟨b0, b1, b2, b3, b4⟩ := M9.out.res
    have f0 := M9.out.rfr 0
    have f1 := M9.out.rfr 1
    have f2 := M9.out.rfr 2
    have f3 := M9.out.rfr 3
    have f4 := M9.out.rfr 4
    go_wp2_with fail
    refine bodyPost_ret (ret10 _ (g := w.heap.size) rfl rfl (set5_at M9.out.res (.int .i64 (7)) (.int .i64 (0)) (.int .i64 (0)) (.slice none 0 0) (.slice none 0 0))) rfl ?_
    rw [HS.out]
    exact RMid.fin (x := ⟨7, 0, 0, [], []⟩) M9.out I9.out
  · have dE : (E != 0) = true := by simpa using h0
    have HS : Hid (stR l = (zS, false)) := by show _ = _; rw [stR_of HX.out, ← HE.out, if_neg h0]
    clear h0 o0 o1 o2 o3 o4
    go_wp2_with fail
    refine EC.out.mono ?_
    rintro x w8 ⟨rfl, hw8⟩
    have hw8' := hw8.symm
    subst hw8'
    clear hw8 EC
    obtain ⟨b0, b1, b2, b3, b4⟩ := M0.out.res
    have f0 := M0.out.rfr 0
    have f1 := M0.out.rfr 1
    have f2 := M0.out.rfr 2
    have f3 := M0.out.rfr 3
    have f4 := M0.out.rfr 4
    go_wp2_with fail
    refine bodyPost_ret (ret10 _ (g := w.heap.size) rfl rfl (set5_at M0.out.res (.int .i64 0) (.int .i64 0) (.int .i64 0) (.slice none 0 0) (.slice none 0 0))) rfl ?_
    rw [HS.out]
    exact M0.out.fin0
set_option maxHeartbeats 4000000 in
set_option maxRecDepth 100000 in
theorem rstep0_calls (w : World) (v : Value) (l : List UInt8) (hv : Lib.HoldsBytes w v l) (hl : l.length ≤ 140737488351232) (l1 : List UInt8) (e1 : Int) (hk : sNum 8 l 0 = (0, l1, e1)) :
    Calls Try.prog 10 #[v] w (StP w (stR l)) := by
  have HR : Hid (rdS l 0 = rdF 0 0 l1 e1) := by
    show _ = _
    unfold rdS
    rw [hk]
    rfl
  have HOK : Hid (WfS (rdS l 0).1 ∧ ((rdS l 0).2.2 = 0 → mayB (rdS l 0).1 = true)) := rdS_ok l 0
  have OC : Hid (Calls Try.prog 24 #[v] (w.alloc (.cells #[.int .i64 0, .int .i64 0, .int .i64 0, .slice none 0 0, .slice none 0 0] 28)) _) := ropen2_calls v l _ (holds_below hv (bel1 w _)) hl (by simp)
  have HNC : Hid (∀ W g h, RT W g h l 0 → Calls Try.prog 25 #[.pointer (some ⟨g, 0, none⟩), .int .i64 8] W (Rr W g h (.int .i64 0) l1 e1)) := fun W g h r => by
    have := rnum_rt W g h l 0 8 r
    rwa [hk] at this
  obtain ⟨k', x', b', rfl⟩ : ∃ a m c, v = .slice a m c := by obtain ⟨p, cap, rfl, q1, q2⟩ := hv; exact ⟨_, _, _, rfl⟩
  have hW0 : Hid ((w.alloc (.cells #[.int .i64 0, .int .i64 0, .int .i64 0, .slice none 0 0, .slice none 0 0] 28)).heap.size = w.heap.size + 1) := by show _ = _; simp
  clear hv hl hk
  go_enter Try.func10, Try.ntmps10
  go_wp2_with fail
  refine OC.out.mono ?_
  rintro x w1 ⟨g, h, rfl, hg1, hg2, hh, r1, b1⟩
  have HB1 : Hid (Below w.heap.size w w1) := (bel1 w _).trans (b1.mono (by have := hW0.out; omega))
  have R0 : Hid (At5 w1 w.heap.size 0 (.int .i64 0) (.int .i64 0) (.int .i64 0) (.slice none 0 0) (.slice none 0 0) ∧ ∀ o, w1.frozen? ⟨w.heap.size, o, none⟩ = false) := ⟨(box_at w (.int .i64 0) (.int .i64 0) (.int .i64 0) (.slice none 0 0) (.slice none 0 0)).below b1, fun o => (b1.frozen (p := ⟨w.heap.size, o, none⟩) (show w.heap.size < _ by have := hW0.out; omega)).trans (fresh w _ o)⟩
  have HG : Hid (w.heap.size < g ∧ g < w1.heap.size ∧ h < g) := by have := hW0.out; show _ ∧ _; omega
  have NC1 : Hid (Calls Try.prog 25 #[.pointer (some ⟨g, 0, none⟩), .int .i64 8] w1 _) := HNC.out w1 g h r1
  clear hg1 hg2 hh r1 b1 HNC OC
  go_wp2_with fail
  refine NC1.out.mono ?_
  rintro x w2 ⟨rfl, r2, k2⟩
  have M0 : Hid (RMid w (w2.alloc (.cells #[.int .i64 0, .int .i64 0, .int .i64 0, .slice none 0 0, .slice none 0 0] 28)) g h w2.heap.size l1 e1 (.int .i64 0) (.int .i64 0) (.int .i64 0) (.slice none 0 0) (.slice none 0 0)) := by
    have hz := k2.2.2.2.1
    have hG := HG.out
    have hb2 := bel1 w2 (.cells #[.int .i64 0, .int .i64 0, .int .i64 0, .slice none 0 0, .slice none 0 0] 28)
    exact ⟨hG.1, hG.2.2, by omega, by simp, (R0.out.1.kb k2 (by omega)).below hb2, fun o => (hb2.frozen (show w.heap.size < w2.heap.size by omega)).trans ((k2.frozen (a := ⟨w.heap.size, o, none⟩) (show w.heap.size < w1.heap.size by omega) (show w.heap.size ≠ g by omega)).trans (R0.out.2 o)), box_at w2 _ _ _ _ _, fun o => fresh w2 _ o, r2.keep (hb2.block g (by omega)) (hb2.block h (by omega)), HB1.out.trans ((k2.below (by omega) HB1.out.size).trans (hb2.mono (by omega)))⟩
  obtain ⟨W2, hW2⟩ : ∃ W2, W2 = w2.alloc (.cells #[.int .i64 0, .int .i64 0, .int .i64 0, .slice none 0 0, .slice none 0 0] 28) := ⟨_, rfl⟩
  obtain ⟨q, hq⟩ : ∃ q, q = w2.heap.size := ⟨_, rfl⟩
  rw [← hW2, ← hq] at M0
  have HW2 : Hid (W2 = _) := hW2
  have HQ : Hid (q = w2.heap.size) := hq
  clear r2 k2 hW2 hq NC1
  go_upto_region 3 with fail
  rw [← HW2.out, ← HQ.out]
  obtain ⟨o0, o1, o2, o3, o4⟩ := M0.out.own
  go_upto_region 19 with fail
  have IV : Hid (IsV (fun B => w.heap.size < B) W2 (.slice none 0 0) (.slice none 0 0) ⟨0, 0, 0, [], []⟩) := isv_nil _ _ _ _ _
  have EC : Hid (Calls Try.prog 28 #[.pointer (some ⟨g, 0, none⟩)] W2 _) := rend_rt W2 g h l1 e1 M0.out.rt
  have HS0 : Hid (stR l = (zS, false)) := by
    show _ = _
    have e0 : rdF 0 0 l1 e1 = (⟨0, 0, 0, [], []⟩, flL l1 e1, flE e1 3) := by unfold rdF; rw [if_neg (by decide), if_neg (by decide), if_neg (by decide), if_neg (by decide), if_neg (by decide)]
    rw [stR_of (HR.out.trans e0)]
    exact if_neg fun hc => absurd (en_zero hc) (flE_ne (by decide))
  obtain ⟨E, hE⟩ : ∃ E, E = en l1 e1 := ⟨_, rfl⟩
  rw [← hE] at EC
  have HE : Hid (E = en l1 e1) := hE
  clear hE
  by_cases h0 : E = 0
  · have dE : (E != 0) = false := by simpa using h0
    have MC0 := rmay_calls (fun B => w.heap.size < B) ⟨0, 0, 0, [], []⟩ (.slice none 0 0) (.slice none 0 0) W2 IV.out
    rw [show mayB ⟨0, 0, 0, [], []⟩ = false by decide] at MC0
    unfold rowS at MC0
    dsimp only at MC0
    have MC : Hid (Calls Try.prog 29 _ W2 _) := MC0
    clear MC0 h0
    go_wp2_with fail
    refine EC.out.mono ?_
    rintro x w8 ⟨rfl, hw8⟩
    have hw8' := hw8.symm
    subst hw8'
    clear hw8 EC
    go_wp2_with fail
    refine MC.out.mono ?_
    rintro x w9 ⟨rfl, hb9⟩
    have M9 : Hid (RMid w w9 g h q l1 e1 (.int .i64 0) (.int .i64 0) (.int .i64 0) (.slice none 0 0) (.slice none 0 0)) := M0.out.blw hb9
    clear hb9 MC o0 o1 o2 o3 o4
    obtain ⟨b0, b1, b2, b3, b4⟩ := M9.out.res
    have f0 := M9.out.rfr 0
    have f1 := M9.out.rfr 1
    have f2 := M9.out.rfr 2
    have f3 := M9.out.rfr 3
    have f4 := M9.out.rfr 4
    go_wp2_with fail
    refine bodyPost_ret (ret10 _ (g := w.heap.size) rfl rfl (set5_at M9.out.res (.int .i64 0) (.int .i64 0) (.int .i64 0) (.slice none 0 0) (.slice none 0 0))) rfl ?_
    rw [HS0.out]
    exact M9.out.fin0
  · have dE : (E != 0) = true := by simpa using h0
    have HS : Hid (stR l = (zS, false)) := HS0.out
    clear h0 o0 o1 o2 o3 o4
    go_wp2_with fail
    refine EC.out.mono ?_
    rintro x w8 ⟨rfl, hw8⟩
    have hw8' := hw8.symm
    subst hw8'
    clear hw8 EC
    obtain ⟨b0, b1, b2, b3, b4⟩ := M0.out.res
    have f0 := M0.out.rfr 0
    have f1 := M0.out.rfr 1
    have f2 := M0.out.rfr 2
    have f3 := M0.out.rfr 3
    have f4 := M0.out.rfr 4
    go_wp2_with fail
    refine bodyPost_ret (ret10 _ (g := w.heap.size) rfl rfl (set5_at M0.out.res (.int .i64 0) (.int .i64 0) (.int .i64 0) (.slice none 0 0) (.slice none 0 0))) rfl ?_
    rw [HS.out]
    exact M0.out.fin0
set_option maxHeartbeats 4000000 in
set_option maxRecDepth 100000 in
theorem rstep2_calls (w : World) (v : Value) (l : List UInt8) (hv : Lib.HoldsBytes w v l) (hl : l.length ≤ 140737488351232) (l1 : List UInt8) (e1 : Int) (hk : sNum 8 l 0 = (2, l1, e1)) :
    Calls Try.prog 10 #[v] w (StP w (stR l)) := by
  have HR : Hid (rdS l 0 = rdF 3 2 l1 e1) := by
    show _ = _
    unfold rdS
    rw [hk]
    rfl
  have HOK : Hid (WfS (rdS l 0).1 ∧ ((rdS l 0).2.2 = 0 → mayB (rdS l 0).1 = true)) := rdS_ok l 0
  have OC : Hid (Calls Try.prog 24 #[v] (w.alloc (.cells #[.int .i64 0, .int .i64 0, .int .i64 0, .slice none 0 0, .slice none 0 0] 28)) _) := ropen2_calls v l _ (holds_below hv (bel1 w _)) hl (by simp)
  have HNC : Hid (∀ W g h, RT W g h l 0 → Calls Try.prog 25 #[.pointer (some ⟨g, 0, none⟩), .int .i64 8] W (Rr W g h (.int .i64 2) l1 e1)) := fun W g h r => by
    have := rnum_rt W g h l 0 8 r
    rwa [hk] at this
  obtain ⟨k', x', b', rfl⟩ : ∃ a m c, v = .slice a m c := by obtain ⟨p, cap, rfl, q1, q2⟩ := hv; exact ⟨_, _, _, rfl⟩
  have hW0 : Hid ((w.alloc (.cells #[.int .i64 0, .int .i64 0, .int .i64 0, .slice none 0 0, .slice none 0 0] 28)).heap.size = w.heap.size + 1) := by show _ = _; simp
  clear hv hl hk
  have IS0 := fun W g h (r : RT W g h l1 e1) => rnum_rt W g h l1 e1 255 r
  unfold rdF at HR
  rw [if_neg (by decide), if_pos rfl] at HR
  generalize (sNum 255 l1 e1).1 = X at IS0 HR
  generalize (sNum 255 l1 e1).2 = q2 at IS0 HR
  obtain ⟨l3, e3⟩ := q2
  dsimp only at IS0 HR
  have IS : Hid (∀ W g h, RT W g h l1 e1 → Calls Try.prog 25 #[.pointer (some ⟨g, 0, none⟩), .int .i64 255] W (Rr W g h (.int .i64 X) l3 e3)) := IS0
  clear IS0
  go_enter Try.func10, Try.ntmps10
  go_wp2_with fail
  refine OC.out.mono ?_
  rintro x w1 ⟨g, h, rfl, hg1, hg2, hh, r1, b1⟩
  have HB1 : Hid (Below w.heap.size w w1) := (bel1 w _).trans (b1.mono (by have := hW0.out; omega))
  have R0 : Hid (At5 w1 w.heap.size 0 (.int .i64 0) (.int .i64 0) (.int .i64 0) (.slice none 0 0) (.slice none 0 0) ∧ ∀ o, w1.frozen? ⟨w.heap.size, o, none⟩ = false) := ⟨(box_at w (.int .i64 0) (.int .i64 0) (.int .i64 0) (.slice none 0 0) (.slice none 0 0)).below b1, fun o => (b1.frozen (p := ⟨w.heap.size, o, none⟩) (show w.heap.size < _ by have := hW0.out; omega)).trans (fresh w _ o)⟩
  have HG : Hid (w.heap.size < g ∧ g < w1.heap.size ∧ h < g) := by have := hW0.out; show _ ∧ _; omega
  have NC1 : Hid (Calls Try.prog 25 #[.pointer (some ⟨g, 0, none⟩), .int .i64 8] w1 _) := HNC.out w1 g h r1
  clear hg1 hg2 hh r1 b1 HNC OC
  go_wp2_with fail
  refine NC1.out.mono ?_
  rintro x w2 ⟨rfl, r2, k2⟩
  have M0 : Hid (RMid w (w2.alloc (.cells #[.int .i64 2, .int .i64 0, .int .i64 0, .slice none 0 0, .slice none 0 0] 28)) g h w2.heap.size l1 e1 (.int .i64 2) (.int .i64 0) (.int .i64 0) (.slice none 0 0) (.slice none 0 0)) := by
    have hz := k2.2.2.2.1
    have hG := HG.out
    have hb2 := bel1 w2 (.cells #[.int .i64 2, .int .i64 0, .int .i64 0, .slice none 0 0, .slice none 0 0] 28)
    exact ⟨hG.1, hG.2.2, by omega, by simp, (R0.out.1.kb k2 (by omega)).below hb2, fun o => (hb2.frozen (show w.heap.size < w2.heap.size by omega)).trans ((k2.frozen (a := ⟨w.heap.size, o, none⟩) (show w.heap.size < w1.heap.size by omega) (show w.heap.size ≠ g by omega)).trans (R0.out.2 o)), box_at w2 _ _ _ _ _, fun o => fresh w2 _ o, r2.keep (hb2.block g (by omega)) (hb2.block h (by omega)), HB1.out.trans ((k2.below (by omega) HB1.out.size).trans (hb2.mono (by omega)))⟩
  obtain ⟨W2, hW2⟩ : ∃ W2, W2 = w2.alloc (.cells #[.int .i64 2, .int .i64 0, .int .i64 0, .slice none 0 0, .slice none 0 0] 28) := ⟨_, rfl⟩
  obtain ⟨q, hq⟩ : ∃ q, q = w2.heap.size := ⟨_, rfl⟩
  rw [← hW2, ← hq] at M0
  have HW2 : Hid (W2 = _) := hW2
  have HQ : Hid (q = w2.heap.size) := hq
  clear r2 k2 hW2 hq NC1
  go_upto_region 3 with fail
  rw [← HW2.out, ← HQ.out]
  obtain ⟨o0, o1, o2, o3, o4⟩ := M0.out.own
  have CC : Hid (Calls Try.prog 25 #[.pointer (some ⟨g, 0, none⟩), .int .i64 255] W2 (Rr W2 g h (.int .i64 X) l3 e3)) := IS.out W2 g h M0.out.rt
  go_wp2_with fail
  refine CC.out.mono ?_
  rintro x w3 ⟨rfl, s3, k3⟩
  have N3 : Hid (RMid w w3 g h q l3 e3 (.int .i64 2) (.int .i64 0) (.int .i64 0) (.slice none 0 0) (.slice none 0 0)) := M0.out.step s3 k3
  clear s3 k3 o0 o1 o2 o3 o4 CC
  obtain ⟨o0, o1, o2, o3, o4⟩ := N3.out.own
  have y := N3.out.ofr 1
  have M3 : Hid (RMid w (w3.setCell ⟨q, 1, none⟩ (.int .i64 X)) g h q l3 e3 (.int .i64 2) (.int .i64 X) (.int .i64 0) (.slice none 0 0) (.slice none 0 0)) := N3.out.put (.int .i64 X) (N3.out.own.set1 _)
  obtain ⟨W3, hW3⟩ : ∃ W, W = w3.setCell ⟨q, 1, none⟩ (.int .i64 X) := ⟨_, rfl⟩
  rw [← hW3] at M3
  have HW3 : Hid (W3 = w3.setCell ⟨q, 1, none⟩ (.int .i64 X)) := hW3
  clear hW3
  go_upto_region 19 with fail
  rw [← HW3.out]
  clear y o0 o1 o2 o3 o4
  obtain ⟨o0, o1, o2, o3, o4⟩ := M3.out.own
  have IV : Hid (IsV (fun B => w.heap.size < B) W3 (.slice none 0 0) (.slice none 0 0) ⟨2, X, 0, [], []⟩) := isv_nil _ _ _ _ _
  have EC : Hid (Calls Try.prog 28 #[.pointer (some ⟨g, 0, none⟩)] W3 _) := rend_rt W3 g h l3 e3 M3.out.rt
  have HX : Hid (rdS l 0 = (⟨2, X, 0, [], []⟩, l3, e3)) := HR.out
  obtain ⟨E, hE⟩ : ∃ E, E = en l3 e3 := ⟨_, rfl⟩
  rw [← hE] at EC
  have HE : Hid (E = en l3 e3) := hE
  clear hE
  by_cases h0 : E = 0
  · have dE : (E != 0) = false := by simpa using h0
    have HM : Hid (mayB ⟨2, X, 0, [], []⟩ = true) := by show _ = _; have h := HOK.out.2; rw [HX.out] at h; exact h (en_zero (HE.out.symm.trans h0))
    have HS : Hid (stR l = (⟨2, X, 0, [], []⟩, true)) := by show _ = _; rw [stR_of HX.out, ← HE.out, if_pos h0]
    have MC0 := rmay_calls (fun B => w.heap.size < B) ⟨2, X, 0, [], []⟩ (.slice none 0 0) (.slice none 0 0) W3 IV.out
    rw [HM.out] at MC0
    unfold rowS at MC0
    dsimp only at MC0
    have MC : Hid (Calls Try.prog 29 _ W3 _) := MC0
    clear MC0 h0
    go_wp2_with fail
    refine EC.out.mono ?_
    rintro x w8 ⟨rfl, hw8⟩
    have hw8' := hw8.symm
    subst hw8'
    clear hw8 EC
    go_wp2_with fail
    refine MC.out.mono ?_
    rintro x w9 ⟨rfl, hb9⟩
    have M9 : Hid (RMid w w9 g h q l3 e3 (.int .i64 (2)) (.int .i64 (X)) (.int .i64 (0)) (.slice none 0 0) (.slice none 0 0)) := M3.out.blw hb9
    have I9 : Hid (IsV (fun B => w.heap.size < B) w9 (.slice none 0 0) (.slice none 0 0) ⟨2, X, 0, [], []⟩) := IV.out.below hb9
    clear hb9 MC o0 o1 o2 o3 o4
    obtain ⟨a0, a1, a2, a3, a4⟩ := M9.out.own
    obtain ⟨b0, b1, b2, b3, b4⟩ := M9.out.res
    have f0 := M9.out.rfr 0
    have f1 := M9.out.rfr 1
    have f2 := M9.out.rfr 2
    have f3 := M9.out.rfr 3
    have f4 := M9.out.rfr 4
    go_wp2_with fail
    refine bodyPost_ret (ret10 _ (g := w.heap.size) rfl rfl (set5_at M9.out.res (.int .i64 (2)) (.int .i64 (X)) (.int .i64 (0)) (.slice none 0 0) (.slice none 0 0))) rfl ?_
    rw [HS.out]
    exact RMid.fin (x := ⟨2, X, 0, [], []⟩) M9.out I9.out
  · have dE : (E != 0) = true := by simpa using h0
    have HS : Hid (stR l = (zS, false)) := by show _ = _; rw [stR_of HX.out, ← HE.out, if_neg h0]
    clear h0 o0 o1 o2 o3 o4
    go_wp2_with fail
    refine EC.out.mono ?_
    rintro x w8 ⟨rfl, hw8⟩
    have hw8' := hw8.symm
    subst hw8'
    clear hw8 EC
    obtain ⟨b0, b1, b2, b3, b4⟩ := M3.out.res
    have f0 := M3.out.rfr 0
    have f1 := M3.out.rfr 1
    have f2 := M3.out.rfr 2
    have f3 := M3.out.rfr 3
    have f4 := M3.out.rfr 4
    go_wp2_with fail
    refine bodyPost_ret (ret10 _ (g := w.heap.size) rfl rfl (set5_at M3.out.res (.int .i64 0) (.int .i64 0) (.int .i64 0) (.slice none 0 0) (.slice none 0 0))) rfl ?_
    rw [HS.out]
    exact M3.out.fin0
set_option maxHeartbeats 4000000 in
set_option maxRecDepth 100000 in
theorem rstep3_calls (w : World) (v : Value) (l : List UInt8) (hv : Lib.HoldsBytes w v l) (hl : l.length ≤ 140737488351232) (l1 : List UInt8) (e1 : Int) (hk : sNum 8 l 0 = (3, l1, e1)) :
    Calls Try.prog 10 #[v] w (StP w (stR l)) := by
  have HR : Hid (rdS l 0 = rdF 9 3 l1 e1) := by
    show _ = _
    unfold rdS
    rw [hk]
    rfl
  have HOK : Hid (WfS (rdS l 0).1 ∧ ((rdS l 0).2.2 = 0 → mayB (rdS l 0).1 = true)) := rdS_ok l 0
  have OC : Hid (Calls Try.prog 24 #[v] (w.alloc (.cells #[.int .i64 0, .int .i64 0, .int .i64 0, .slice none 0 0, .slice none 0 0] 28)) _) := ropen2_calls v l _ (holds_below hv (bel1 w _)) hl (by simp)
  have HNC : Hid (∀ W g h, RT W g h l 0 → Calls Try.prog 25 #[.pointer (some ⟨g, 0, none⟩), .int .i64 8] W (Rr W g h (.int .i64 3) l1 e1)) := fun W g h r => by
    have := rnum_rt W g h l 0 8 r
    rwa [hk] at this
  obtain ⟨k', x', b', rfl⟩ : ∃ a m c, v = .slice a m c := by obtain ⟨p, cap, rfl, q1, q2⟩ := hv; exact ⟨_, _, _, rfl⟩
  have hW0 : Hid ((w.alloc (.cells #[.int .i64 0, .int .i64 0, .int .i64 0, .slice none 0 0, .slice none 0 0] 28)).heap.size = w.heap.size + 1) := by show _ = _; simp
  clear hv hl hk
  have IS0 := fun W g h (r : RT W g h l1 e1) => rnum_rt W g h l1 e1 1099511627776 r
  unfold rdF at HR
  rw [if_neg (by decide), if_neg (by decide), if_pos rfl] at HR
  generalize (sNum 1099511627776 l1 e1).1 = X at IS0 HR
  generalize (sNum 1099511627776 l1 e1).2 = q2 at IS0 HR
  obtain ⟨l3, e3⟩ := q2
  dsimp only at IS0 HR
  have IS : Hid (∀ W g h, RT W g h l1 e1 → Calls Try.prog 25 #[.pointer (some ⟨g, 0, none⟩), .int .i64 1099511627776] W (Rr W g h (.int .i64 X) l3 e3)) := IS0
  clear IS0
  go_enter Try.func10, Try.ntmps10
  go_wp2_with fail
  refine OC.out.mono ?_
  rintro x w1 ⟨g, h, rfl, hg1, hg2, hh, r1, b1⟩
  have HB1 : Hid (Below w.heap.size w w1) := (bel1 w _).trans (b1.mono (by have := hW0.out; omega))
  have R0 : Hid (At5 w1 w.heap.size 0 (.int .i64 0) (.int .i64 0) (.int .i64 0) (.slice none 0 0) (.slice none 0 0) ∧ ∀ o, w1.frozen? ⟨w.heap.size, o, none⟩ = false) := ⟨(box_at w (.int .i64 0) (.int .i64 0) (.int .i64 0) (.slice none 0 0) (.slice none 0 0)).below b1, fun o => (b1.frozen (p := ⟨w.heap.size, o, none⟩) (show w.heap.size < _ by have := hW0.out; omega)).trans (fresh w _ o)⟩
  have HG : Hid (w.heap.size < g ∧ g < w1.heap.size ∧ h < g) := by have := hW0.out; show _ ∧ _; omega
  have NC1 : Hid (Calls Try.prog 25 #[.pointer (some ⟨g, 0, none⟩), .int .i64 8] w1 _) := HNC.out w1 g h r1
  clear hg1 hg2 hh r1 b1 HNC OC
  go_wp2_with fail
  refine NC1.out.mono ?_
  rintro x w2 ⟨rfl, r2, k2⟩
  have M0 : Hid (RMid w (w2.alloc (.cells #[.int .i64 3, .int .i64 0, .int .i64 0, .slice none 0 0, .slice none 0 0] 28)) g h w2.heap.size l1 e1 (.int .i64 3) (.int .i64 0) (.int .i64 0) (.slice none 0 0) (.slice none 0 0)) := by
    have hz := k2.2.2.2.1
    have hG := HG.out
    have hb2 := bel1 w2 (.cells #[.int .i64 3, .int .i64 0, .int .i64 0, .slice none 0 0, .slice none 0 0] 28)
    exact ⟨hG.1, hG.2.2, by omega, by simp, (R0.out.1.kb k2 (by omega)).below hb2, fun o => (hb2.frozen (show w.heap.size < w2.heap.size by omega)).trans ((k2.frozen (a := ⟨w.heap.size, o, none⟩) (show w.heap.size < w1.heap.size by omega) (show w.heap.size ≠ g by omega)).trans (R0.out.2 o)), box_at w2 _ _ _ _ _, fun o => fresh w2 _ o, r2.keep (hb2.block g (by omega)) (hb2.block h (by omega)), HB1.out.trans ((k2.below (by omega) HB1.out.size).trans (hb2.mono (by omega)))⟩
  obtain ⟨W2, hW2⟩ : ∃ W2, W2 = w2.alloc (.cells #[.int .i64 3, .int .i64 0, .int .i64 0, .slice none 0 0, .slice none 0 0] 28) := ⟨_, rfl⟩
  obtain ⟨q, hq⟩ : ∃ q, q = w2.heap.size := ⟨_, rfl⟩
  rw [← hW2, ← hq] at M0
  have HW2 : Hid (W2 = _) := hW2
  have HQ : Hid (q = w2.heap.size) := hq
  clear r2 k2 hW2 hq NC1
  go_upto_region 3 with fail
  rw [← HW2.out, ← HQ.out]
  obtain ⟨o0, o1, o2, o3, o4⟩ := M0.out.own
  have CC : Hid (Calls Try.prog 25 #[.pointer (some ⟨g, 0, none⟩), .int .i64 1099511627776] W2 (Rr W2 g h (.int .i64 X) l3 e3)) := IS.out W2 g h M0.out.rt
  go_wp2_with fail
  refine CC.out.mono ?_
  rintro x w3 ⟨rfl, s3, k3⟩
  have N3 : Hid (RMid w w3 g h q l3 e3 (.int .i64 3) (.int .i64 0) (.int .i64 0) (.slice none 0 0) (.slice none 0 0)) := M0.out.step s3 k3
  clear s3 k3 o0 o1 o2 o3 o4 CC
  obtain ⟨o0, o1, o2, o3, o4⟩ := N3.out.own
  have y := N3.out.ofr 2
  have M3 : Hid (RMid w (w3.setCell ⟨q, 2, none⟩ (.int .i64 X)) g h q l3 e3 (.int .i64 3) (.int .i64 0) (.int .i64 X) (.slice none 0 0) (.slice none 0 0)) := N3.out.put (.int .i64 X) (N3.out.own.set2 _)
  obtain ⟨W3, hW3⟩ : ∃ W, W = w3.setCell ⟨q, 2, none⟩ (.int .i64 X) := ⟨_, rfl⟩
  rw [← hW3] at M3
  have HW3 : Hid (W3 = w3.setCell ⟨q, 2, none⟩ (.int .i64 X)) := hW3
  clear hW3
  go_upto_region 19 with fail
  rw [← HW3.out]
  clear y o0 o1 o2 o3 o4
  obtain ⟨o0, o1, o2, o3, o4⟩ := M3.out.own
  have IV : Hid (IsV (fun B => w.heap.size < B) W3 (.slice none 0 0) (.slice none 0 0) ⟨3, 0, X, [], []⟩) := isv_nil _ _ _ _ _
  have EC : Hid (Calls Try.prog 28 #[.pointer (some ⟨g, 0, none⟩)] W3 _) := rend_rt W3 g h l3 e3 M3.out.rt
  have HX : Hid (rdS l 0 = (⟨3, 0, X, [], []⟩, l3, e3)) := HR.out
  obtain ⟨E, hE⟩ : ∃ E, E = en l3 e3 := ⟨_, rfl⟩
  rw [← hE] at EC
  have HE : Hid (E = en l3 e3) := hE
  clear hE
  by_cases h0 : E = 0
  · have dE : (E != 0) = false := by simpa using h0
    have HM : Hid (mayB ⟨3, 0, X, [], []⟩ = true) := by show _ = _; have h := HOK.out.2; rw [HX.out] at h; exact h (en_zero (HE.out.symm.trans h0))
    have HS : Hid (stR l = (⟨3, 0, X, [], []⟩, true)) := by show _ = _; rw [stR_of HX.out, ← HE.out, if_pos h0]
    have MC0 := rmay_calls (fun B => w.heap.size < B) ⟨3, 0, X, [], []⟩ (.slice none 0 0) (.slice none 0 0) W3 IV.out
    rw [HM.out] at MC0
    unfold rowS at MC0
    dsimp only at MC0
    have MC : Hid (Calls Try.prog 29 _ W3 _) := MC0
    clear MC0 h0
    go_wp2_with fail
    refine EC.out.mono ?_
    rintro x w8 ⟨rfl, hw8⟩
    have hw8' := hw8.symm
    subst hw8'
    clear hw8 EC
    go_wp2_with fail
    refine MC.out.mono ?_
    rintro x w9 ⟨rfl, hb9⟩
    have M9 : Hid (RMid w w9 g h q l3 e3 (.int .i64 (3)) (.int .i64 (0)) (.int .i64 (X)) (.slice none 0 0) (.slice none 0 0)) := M3.out.blw hb9
    have I9 : Hid (IsV (fun B => w.heap.size < B) w9 (.slice none 0 0) (.slice none 0 0) ⟨3, 0, X, [], []⟩) := IV.out.below hb9
    clear hb9 MC o0 o1 o2 o3 o4
    obtain ⟨a0, a1, a2, a3, a4⟩ := M9.out.own
    obtain ⟨b0, b1, b2, b3, b4⟩ := M9.out.res
    have f0 := M9.out.rfr 0
    have f1 := M9.out.rfr 1
    have f2 := M9.out.rfr 2
    have f3 := M9.out.rfr 3
    have f4 := M9.out.rfr 4
    go_wp2_with fail
    refine bodyPost_ret (ret10 _ (g := w.heap.size) rfl rfl (set5_at M9.out.res (.int .i64 (3)) (.int .i64 (0)) (.int .i64 (X)) (.slice none 0 0) (.slice none 0 0))) rfl ?_
    rw [HS.out]
    exact RMid.fin (x := ⟨3, 0, X, [], []⟩) M9.out I9.out
  · have dE : (E != 0) = true := by simpa using h0
    have HS : Hid (stR l = (zS, false)) := by show _ = _; rw [stR_of HX.out, ← HE.out, if_neg h0]
    clear h0 o0 o1 o2 o3 o4
    go_wp2_with fail
    refine EC.out.mono ?_
    rintro x w8 ⟨rfl, hw8⟩
    have hw8' := hw8.symm
    subst hw8'
    clear hw8 EC
    obtain ⟨b0, b1, b2, b3, b4⟩ := M3.out.res
    have f0 := M3.out.rfr 0
    have f1 := M3.out.rfr 1
    have f2 := M3.out.rfr 2
    have f3 := M3.out.rfr 3
    have f4 := M3.out.rfr 4
    go_wp2_with fail
    refine bodyPost_ret (ret10 _ (g := w.heap.size) rfl rfl (set5_at M3.out.res (.int .i64 0) (.int .i64 0) (.int .i64 0) (.slice none 0 0) (.slice none 0 0))) rfl ?_
    rw [HS.out]
    exact M3.out.fin0
set_option maxHeartbeats 4000000 in
set_option maxRecDepth 100000 in
theorem rstep6_calls (w : World) (v : Value) (l : List UInt8) (hv : Lib.HoldsBytes w v l) (hl : l.length ≤ 140737488351232) (l1 : List UInt8) (e1 : Int) (hk : sNum 8 l 0 = (6, l1, e1)) :
    Calls Try.prog 10 #[v] w (StP w (stR l)) := by
  have HR : Hid (rdS l 0 = rdF 9 6 l1 e1) := by
    show _ = _
    unfold rdS
    rw [hk]
    rfl
  have HOK : Hid (WfS (rdS l 0).1 ∧ ((rdS l 0).2.2 = 0 → mayB (rdS l 0).1 = true)) := rdS_ok l 0
  have OC : Hid (Calls Try.prog 24 #[v] (w.alloc (.cells #[.int .i64 0, .int .i64 0, .int .i64 0, .slice none 0 0, .slice none 0 0] 28)) _) := ropen2_calls v l _ (holds_below hv (bel1 w _)) hl (by simp)
  have HNC : Hid (∀ W g h, RT W g h l 0 → Calls Try.prog 25 #[.pointer (some ⟨g, 0, none⟩), .int .i64 8] W (Rr W g h (.int .i64 6) l1 e1)) := fun W g h r => by
    have := rnum_rt W g h l 0 8 r
    rwa [hk] at this
  obtain ⟨k', x', b', rfl⟩ : ∃ a m c, v = .slice a m c := by obtain ⟨p, cap, rfl, q1, q2⟩ := hv; exact ⟨_, _, _, rfl⟩
  have hW0 : Hid ((w.alloc (.cells #[.int .i64 0, .int .i64 0, .int .i64 0, .slice none 0 0, .slice none 0 0] 28)).heap.size = w.heap.size + 1) := by show _ = _; simp
  clear hv hl hk
  have IS0 := fun W g h (r : RT W g h l1 e1) => rnum_rt W g h l1 e1 1099511627776 r
  unfold rdF at HR
  rw [if_neg (by decide), if_neg (by decide), if_pos rfl] at HR
  generalize (sNum 1099511627776 l1 e1).1 = X at IS0 HR
  generalize (sNum 1099511627776 l1 e1).2 = q2 at IS0 HR
  obtain ⟨l3, e3⟩ := q2
  dsimp only at IS0 HR
  have IS : Hid (∀ W g h, RT W g h l1 e1 → Calls Try.prog 25 #[.pointer (some ⟨g, 0, none⟩), .int .i64 1099511627776] W (Rr W g h (.int .i64 X) l3 e3)) := IS0
  clear IS0
  go_enter Try.func10, Try.ntmps10
  go_wp2_with fail
  refine OC.out.mono ?_
  rintro x w1 ⟨g, h, rfl, hg1, hg2, hh, r1, b1⟩
  have HB1 : Hid (Below w.heap.size w w1) := (bel1 w _).trans (b1.mono (by have := hW0.out; omega))
  have R0 : Hid (At5 w1 w.heap.size 0 (.int .i64 0) (.int .i64 0) (.int .i64 0) (.slice none 0 0) (.slice none 0 0) ∧ ∀ o, w1.frozen? ⟨w.heap.size, o, none⟩ = false) := ⟨(box_at w (.int .i64 0) (.int .i64 0) (.int .i64 0) (.slice none 0 0) (.slice none 0 0)).below b1, fun o => (b1.frozen (p := ⟨w.heap.size, o, none⟩) (show w.heap.size < _ by have := hW0.out; omega)).trans (fresh w _ o)⟩
  have HG : Hid (w.heap.size < g ∧ g < w1.heap.size ∧ h < g) := by have := hW0.out; show _ ∧ _; omega
  have NC1 : Hid (Calls Try.prog 25 #[.pointer (some ⟨g, 0, none⟩), .int .i64 8] w1 _) := HNC.out w1 g h r1
  clear hg1 hg2 hh r1 b1 HNC OC
  go_wp2_with fail
  refine NC1.out.mono ?_
  rintro x w2 ⟨rfl, r2, k2⟩
  have M0 : Hid (RMid w (w2.alloc (.cells #[.int .i64 6, .int .i64 0, .int .i64 0, .slice none 0 0, .slice none 0 0] 28)) g h w2.heap.size l1 e1 (.int .i64 6) (.int .i64 0) (.int .i64 0) (.slice none 0 0) (.slice none 0 0)) := by
    have hz := k2.2.2.2.1
    have hG := HG.out
    have hb2 := bel1 w2 (.cells #[.int .i64 6, .int .i64 0, .int .i64 0, .slice none 0 0, .slice none 0 0] 28)
    exact ⟨hG.1, hG.2.2, by omega, by simp, (R0.out.1.kb k2 (by omega)).below hb2, fun o => (hb2.frozen (show w.heap.size < w2.heap.size by omega)).trans ((k2.frozen (a := ⟨w.heap.size, o, none⟩) (show w.heap.size < w1.heap.size by omega) (show w.heap.size ≠ g by omega)).trans (R0.out.2 o)), box_at w2 _ _ _ _ _, fun o => fresh w2 _ o, r2.keep (hb2.block g (by omega)) (hb2.block h (by omega)), HB1.out.trans ((k2.below (by omega) HB1.out.size).trans (hb2.mono (by omega)))⟩
  obtain ⟨W2, hW2⟩ : ∃ W2, W2 = w2.alloc (.cells #[.int .i64 6, .int .i64 0, .int .i64 0, .slice none 0 0, .slice none 0 0] 28) := ⟨_, rfl⟩
  obtain ⟨q, hq⟩ : ∃ q, q = w2.heap.size := ⟨_, rfl⟩
  rw [← hW2, ← hq] at M0
  have HW2 : Hid (W2 = _) := hW2
  have HQ : Hid (q = w2.heap.size) := hq
  clear r2 k2 hW2 hq NC1
  go_upto_region 3 with fail
  rw [← HW2.out, ← HQ.out]
  obtain ⟨o0, o1, o2, o3, o4⟩ := M0.out.own
  have CC : Hid (Calls Try.prog 25 #[.pointer (some ⟨g, 0, none⟩), .int .i64 1099511627776] W2 (Rr W2 g h (.int .i64 X) l3 e3)) := IS.out W2 g h M0.out.rt
  go_wp2_with fail
  refine CC.out.mono ?_
  rintro x w3 ⟨rfl, s3, k3⟩
  have N3 : Hid (RMid w w3 g h q l3 e3 (.int .i64 6) (.int .i64 0) (.int .i64 0) (.slice none 0 0) (.slice none 0 0)) := M0.out.step s3 k3
  clear s3 k3 o0 o1 o2 o3 o4 CC
  obtain ⟨o0, o1, o2, o3, o4⟩ := N3.out.own
  have y := N3.out.ofr 2
  have M3 : Hid (RMid w (w3.setCell ⟨q, 2, none⟩ (.int .i64 X)) g h q l3 e3 (.int .i64 6) (.int .i64 0) (.int .i64 X) (.slice none 0 0) (.slice none 0 0)) := N3.out.put (.int .i64 X) (N3.out.own.set2 _)
  obtain ⟨W3, hW3⟩ : ∃ W, W = w3.setCell ⟨q, 2, none⟩ (.int .i64 X) := ⟨_, rfl⟩
  rw [← hW3] at M3
  have HW3 : Hid (W3 = w3.setCell ⟨q, 2, none⟩ (.int .i64 X)) := hW3
  clear hW3
  go_upto_region 19 with fail
  rw [← HW3.out]
  clear y o0 o1 o2 o3 o4
  obtain ⟨o0, o1, o2, o3, o4⟩ := M3.out.own
  have IV : Hid (IsV (fun B => w.heap.size < B) W3 (.slice none 0 0) (.slice none 0 0) ⟨6, 0, X, [], []⟩) := isv_nil _ _ _ _ _
  have EC : Hid (Calls Try.prog 28 #[.pointer (some ⟨g, 0, none⟩)] W3 _) := rend_rt W3 g h l3 e3 M3.out.rt
  have HX : Hid (rdS l 0 = (⟨6, 0, X, [], []⟩, l3, e3)) := HR.out
  obtain ⟨E, hE⟩ : ∃ E, E = en l3 e3 := ⟨_, rfl⟩
  rw [← hE] at EC
  have HE : Hid (E = en l3 e3) := hE
  clear hE
  by_cases h0 : E = 0
  · have dE : (E != 0) = false := by simpa using h0
    have HM : Hid (mayB ⟨6, 0, X, [], []⟩ = true) := by show _ = _; have h := HOK.out.2; rw [HX.out] at h; exact h (en_zero (HE.out.symm.trans h0))
    have HS : Hid (stR l = (⟨6, 0, X, [], []⟩, true)) := by show _ = _; rw [stR_of HX.out, ← HE.out, if_pos h0]
    have MC0 := rmay_calls (fun B => w.heap.size < B) ⟨6, 0, X, [], []⟩ (.slice none 0 0) (.slice none 0 0) W3 IV.out
    rw [HM.out] at MC0
    unfold rowS at MC0
    dsimp only at MC0
    have MC : Hid (Calls Try.prog 29 _ W3 _) := MC0
    clear MC0 h0
    go_wp2_with fail
    refine EC.out.mono ?_
    rintro x w8 ⟨rfl, hw8⟩
    have hw8' := hw8.symm
    subst hw8'
    clear hw8 EC
    go_wp2_with fail
    refine MC.out.mono ?_
    rintro x w9 ⟨rfl, hb9⟩
    have M9 : Hid (RMid w w9 g h q l3 e3 (.int .i64 (6)) (.int .i64 (0)) (.int .i64 (X)) (.slice none 0 0) (.slice none 0 0)) := M3.out.blw hb9
    have I9 : Hid (IsV (fun B => w.heap.size < B) w9 (.slice none 0 0) (.slice none 0 0) ⟨6, 0, X, [], []⟩) := IV.out.below hb9
    clear hb9 MC o0 o1 o2 o3 o4
    obtain ⟨a0, a1, a2, a3, a4⟩ := M9.out.own
    obtain ⟨b0, b1, b2, b3, b4⟩ := M9.out.res
    have f0 := M9.out.rfr 0
    have f1 := M9.out.rfr 1
    have f2 := M9.out.rfr 2
    have f3 := M9.out.rfr 3
    have f4 := M9.out.rfr 4
    go_wp2_with fail
    refine bodyPost_ret (ret10 _ (g := w.heap.size) rfl rfl (set5_at M9.out.res (.int .i64 (6)) (.int .i64 (0)) (.int .i64 (X)) (.slice none 0 0) (.slice none 0 0))) rfl ?_
    rw [HS.out]
    exact RMid.fin (x := ⟨6, 0, X, [], []⟩) M9.out I9.out
  · have dE : (E != 0) = true := by simpa using h0
    have HS : Hid (stR l = (zS, false)) := by show _ = _; rw [stR_of HX.out, ← HE.out, if_neg h0]
    clear h0 o0 o1 o2 o3 o4
    go_wp2_with fail
    refine EC.out.mono ?_
    rintro x w8 ⟨rfl, hw8⟩
    have hw8' := hw8.symm
    subst hw8'
    clear hw8 EC
    obtain ⟨b0, b1, b2, b3, b4⟩ := M3.out.res
    have f0 := M3.out.rfr 0
    have f1 := M3.out.rfr 1
    have f2 := M3.out.rfr 2
    have f3 := M3.out.rfr 3
    have f4 := M3.out.rfr 4
    go_wp2_with fail
    refine bodyPost_ret (ret10 _ (g := w.heap.size) rfl rfl (set5_at M3.out.res (.int .i64 0) (.int .i64 0) (.int .i64 0) (.slice none 0 0) (.slice none 0 0))) rfl ?_
    rw [HS.out]
    exact M3.out.fin0
set_option maxHeartbeats 4000000 in
set_option maxRecDepth 100000 in
theorem rstep8_calls (w : World) (v : Value) (l : List UInt8) (hv : Lib.HoldsBytes w v l) (hl : l.length ≤ 140737488351232) (l1 : List UInt8) (e1 : Int) (hk : sNum 8 l 0 = (8, l1, e1)) :
    Calls Try.prog 10 #[v] w (StP w (stR l)) := by
  have HR : Hid (rdS l 0 = rdF 9 8 l1 e1) := by
    show _ = _
    unfold rdS
    rw [hk]
    rfl
  have HOK : Hid (WfS (rdS l 0).1 ∧ ((rdS l 0).2.2 = 0 → mayB (rdS l 0).1 = true)) := rdS_ok l 0
  have OC : Hid (Calls Try.prog 24 #[v] (w.alloc (.cells #[.int .i64 0, .int .i64 0, .int .i64 0, .slice none 0 0, .slice none 0 0] 28)) _) := ropen2_calls v l _ (holds_below hv (bel1 w _)) hl (by simp)
  have HNC : Hid (∀ W g h, RT W g h l 0 → Calls Try.prog 25 #[.pointer (some ⟨g, 0, none⟩), .int .i64 8] W (Rr W g h (.int .i64 8) l1 e1)) := fun W g h r => by
    have := rnum_rt W g h l 0 8 r
    rwa [hk] at this
  obtain ⟨k', x', b', rfl⟩ : ∃ a m c, v = .slice a m c := by obtain ⟨p, cap, rfl, q1, q2⟩ := hv; exact ⟨_, _, _, rfl⟩
  have hW0 : Hid ((w.alloc (.cells #[.int .i64 0, .int .i64 0, .int .i64 0, .slice none 0 0, .slice none 0 0] 28)).heap.size = w.heap.size + 1) := by show _ = _; simp
  clear hv hl hk
  have IS0 := fun W g h (r : RT W g h l1 e1) => rnum_rt W g h l1 e1 1099511627776 r
  unfold rdF at HR
  rw [if_neg (by decide), if_neg (by decide), if_pos rfl] at HR
  generalize (sNum 1099511627776 l1 e1).1 = X at IS0 HR
  generalize (sNum 1099511627776 l1 e1).2 = q2 at IS0 HR
  obtain ⟨l3, e3⟩ := q2
  dsimp only at IS0 HR
  have IS : Hid (∀ W g h, RT W g h l1 e1 → Calls Try.prog 25 #[.pointer (some ⟨g, 0, none⟩), .int .i64 1099511627776] W (Rr W g h (.int .i64 X) l3 e3)) := IS0
  clear IS0
  go_enter Try.func10, Try.ntmps10
  go_wp2_with fail
  refine OC.out.mono ?_
  rintro x w1 ⟨g, h, rfl, hg1, hg2, hh, r1, b1⟩
  have HB1 : Hid (Below w.heap.size w w1) := (bel1 w _).trans (b1.mono (by have := hW0.out; omega))
  have R0 : Hid (At5 w1 w.heap.size 0 (.int .i64 0) (.int .i64 0) (.int .i64 0) (.slice none 0 0) (.slice none 0 0) ∧ ∀ o, w1.frozen? ⟨w.heap.size, o, none⟩ = false) := ⟨(box_at w (.int .i64 0) (.int .i64 0) (.int .i64 0) (.slice none 0 0) (.slice none 0 0)).below b1, fun o => (b1.frozen (p := ⟨w.heap.size, o, none⟩) (show w.heap.size < _ by have := hW0.out; omega)).trans (fresh w _ o)⟩
  have HG : Hid (w.heap.size < g ∧ g < w1.heap.size ∧ h < g) := by have := hW0.out; show _ ∧ _; omega
  have NC1 : Hid (Calls Try.prog 25 #[.pointer (some ⟨g, 0, none⟩), .int .i64 8] w1 _) := HNC.out w1 g h r1
  clear hg1 hg2 hh r1 b1 HNC OC
  go_wp2_with fail
  refine NC1.out.mono ?_
  rintro x w2 ⟨rfl, r2, k2⟩
  have M0 : Hid (RMid w (w2.alloc (.cells #[.int .i64 8, .int .i64 0, .int .i64 0, .slice none 0 0, .slice none 0 0] 28)) g h w2.heap.size l1 e1 (.int .i64 8) (.int .i64 0) (.int .i64 0) (.slice none 0 0) (.slice none 0 0)) := by
    have hz := k2.2.2.2.1
    have hG := HG.out
    have hb2 := bel1 w2 (.cells #[.int .i64 8, .int .i64 0, .int .i64 0, .slice none 0 0, .slice none 0 0] 28)
    exact ⟨hG.1, hG.2.2, by omega, by simp, (R0.out.1.kb k2 (by omega)).below hb2, fun o => (hb2.frozen (show w.heap.size < w2.heap.size by omega)).trans ((k2.frozen (a := ⟨w.heap.size, o, none⟩) (show w.heap.size < w1.heap.size by omega) (show w.heap.size ≠ g by omega)).trans (R0.out.2 o)), box_at w2 _ _ _ _ _, fun o => fresh w2 _ o, r2.keep (hb2.block g (by omega)) (hb2.block h (by omega)), HB1.out.trans ((k2.below (by omega) HB1.out.size).trans (hb2.mono (by omega)))⟩
  obtain ⟨W2, hW2⟩ : ∃ W2, W2 = w2.alloc (.cells #[.int .i64 8, .int .i64 0, .int .i64 0, .slice none 0 0, .slice none 0 0] 28) := ⟨_, rfl⟩
  obtain ⟨q, hq⟩ : ∃ q, q = w2.heap.size := ⟨_, rfl⟩
  rw [← hW2, ← hq] at M0
  have HW2 : Hid (W2 = _) := hW2
  have HQ : Hid (q = w2.heap.size) := hq
  clear r2 k2 hW2 hq NC1
  go_upto_region 3 with fail
  rw [← HW2.out, ← HQ.out]
  obtain ⟨o0, o1, o2, o3, o4⟩ := M0.out.own
  have CC : Hid (Calls Try.prog 25 #[.pointer (some ⟨g, 0, none⟩), .int .i64 1099511627776] W2 (Rr W2 g h (.int .i64 X) l3 e3)) := IS.out W2 g h M0.out.rt
  go_wp2_with fail
  refine CC.out.mono ?_
  rintro x w3 ⟨rfl, s3, k3⟩
  have N3 : Hid (RMid w w3 g h q l3 e3 (.int .i64 8) (.int .i64 0) (.int .i64 0) (.slice none 0 0) (.slice none 0 0)) := M0.out.step s3 k3
  clear s3 k3 o0 o1 o2 o3 o4 CC
  obtain ⟨o0, o1, o2, o3, o4⟩ := N3.out.own
  have y := N3.out.ofr 2
  have M3 : Hid (RMid w (w3.setCell ⟨q, 2, none⟩ (.int .i64 X)) g h q l3 e3 (.int .i64 8) (.int .i64 0) (.int .i64 X) (.slice none 0 0) (.slice none 0 0)) := N3.out.put (.int .i64 X) (N3.out.own.set2 _)
  obtain ⟨W3, hW3⟩ : ∃ W, W = w3.setCell ⟨q, 2, none⟩ (.int .i64 X) := ⟨_, rfl⟩
  rw [← hW3] at M3
  have HW3 : Hid (W3 = w3.setCell ⟨q, 2, none⟩ (.int .i64 X)) := hW3
  clear hW3
  go_upto_region 19 with fail
  rw [← HW3.out]
  clear y o0 o1 o2 o3 o4
  obtain ⟨o0, o1, o2, o3, o4⟩ := M3.out.own
  have IV : Hid (IsV (fun B => w.heap.size < B) W3 (.slice none 0 0) (.slice none 0 0) ⟨8, 0, X, [], []⟩) := isv_nil _ _ _ _ _
  have EC : Hid (Calls Try.prog 28 #[.pointer (some ⟨g, 0, none⟩)] W3 _) := rend_rt W3 g h l3 e3 M3.out.rt
  have HX : Hid (rdS l 0 = (⟨8, 0, X, [], []⟩, l3, e3)) := HR.out
  obtain ⟨E, hE⟩ : ∃ E, E = en l3 e3 := ⟨_, rfl⟩
  rw [← hE] at EC
  have HE : Hid (E = en l3 e3) := hE
  clear hE
  by_cases h0 : E = 0
  · have dE : (E != 0) = false := by simpa using h0
    have HM : Hid (mayB ⟨8, 0, X, [], []⟩ = true) := by show _ = _; have h := HOK.out.2; rw [HX.out] at h; exact h (en_zero (HE.out.symm.trans h0))
    have HS : Hid (stR l = (⟨8, 0, X, [], []⟩, true)) := by show _ = _; rw [stR_of HX.out, ← HE.out, if_pos h0]
    have MC0 := rmay_calls (fun B => w.heap.size < B) ⟨8, 0, X, [], []⟩ (.slice none 0 0) (.slice none 0 0) W3 IV.out
    rw [HM.out] at MC0
    unfold rowS at MC0
    dsimp only at MC0
    have MC : Hid (Calls Try.prog 29 _ W3 _) := MC0
    clear MC0 h0
    go_wp2_with fail
    refine EC.out.mono ?_
    rintro x w8 ⟨rfl, hw8⟩
    have hw8' := hw8.symm
    subst hw8'
    clear hw8 EC
    go_wp2_with fail
    refine MC.out.mono ?_
    rintro x w9 ⟨rfl, hb9⟩
    have M9 : Hid (RMid w w9 g h q l3 e3 (.int .i64 (8)) (.int .i64 (0)) (.int .i64 (X)) (.slice none 0 0) (.slice none 0 0)) := M3.out.blw hb9
    have I9 : Hid (IsV (fun B => w.heap.size < B) w9 (.slice none 0 0) (.slice none 0 0) ⟨8, 0, X, [], []⟩) := IV.out.below hb9
    clear hb9 MC o0 o1 o2 o3 o4
    obtain ⟨a0, a1, a2, a3, a4⟩ := M9.out.own
    obtain ⟨b0, b1, b2, b3, b4⟩ := M9.out.res
    have f0 := M9.out.rfr 0
    have f1 := M9.out.rfr 1
    have f2 := M9.out.rfr 2
    have f3 := M9.out.rfr 3
    have f4 := M9.out.rfr 4
    go_wp2_with fail
    refine bodyPost_ret (ret10 _ (g := w.heap.size) rfl rfl (set5_at M9.out.res (.int .i64 (8)) (.int .i64 (0)) (.int .i64 (X)) (.slice none 0 0) (.slice none 0 0))) rfl ?_
    rw [HS.out]
    exact RMid.fin (x := ⟨8, 0, X, [], []⟩) M9.out I9.out
  · have dE : (E != 0) = true := by simpa using h0
    have HS : Hid (stR l = (zS, false)) := by show _ = _; rw [stR_of HX.out, ← HE.out, if_neg h0]
    clear h0 o0 o1 o2 o3 o4
    go_wp2_with fail
    refine EC.out.mono ?_
    rintro x w8 ⟨rfl, hw8⟩
    have hw8' := hw8.symm
    subst hw8'
    clear hw8 EC
    obtain ⟨b0, b1, b2, b3, b4⟩ := M3.out.res
    have f0 := M3.out.rfr 0
    have f1 := M3.out.rfr 1
    have f2 := M3.out.rfr 2
    have f3 := M3.out.rfr 3
    have f4 := M3.out.rfr 4
    go_wp2_with fail
    refine bodyPost_ret (ret10 _ (g := w.heap.size) rfl rfl (set5_at M3.out.res (.int .i64 0) (.int .i64 0) (.int .i64 0) (.slice none 0 0) (.slice none 0 0))) rfl ?_
    rw [HS.out]
    exact M3.out.fin0
set_option maxHeartbeats 4000000 in
set_option maxRecDepth 100000 in
theorem rstep1_calls (w : World) (v : Value) (l : List UInt8) (hv : Lib.HoldsBytes w v l) (hl : l.length ≤ 140737488351232) (l1 : List UInt8) (e1 : Int) (hk : sNum 8 l 0 = (1, l1, e1)) :
    Calls Try.prog 10 #[v] w (StP w (stR l)) := by
  have HR : Hid (rdS l 0 = rdF 7 1 l1 e1) := by
    show _ = _
    unfold rdS
    rw [hk]
    rfl
  have HOK : Hid (WfS (rdS l 0).1 ∧ ((rdS l 0).2.2 = 0 → mayB (rdS l 0).1 = true)) := rdS_ok l 0
  have OC : Hid (Calls Try.prog 24 #[v] (w.alloc (.cells #[.int .i64 0, .int .i64 0, .int .i64 0, .slice none 0 0, .slice none 0 0] 28)) _) := ropen2_calls v l _ (holds_below hv (bel1 w _)) hl (by simp)
  have HNC : Hid (∀ W g h, RT W g h l 0 → Calls Try.prog 25 #[.pointer (some ⟨g, 0, none⟩), .int .i64 8] W (Rr W g h (.int .i64 1) l1 e1)) := fun W g h r => by
    have := rnum_rt W g h l 0 8 r
    rwa [hk] at this
  obtain ⟨k', x', b', rfl⟩ : ∃ a m c, v = .slice a m c := by obtain ⟨p, cap, rfl, q1, q2⟩ := hv; exact ⟨_, _, _, rfl⟩
  have hW0 : Hid ((w.alloc (.cells #[.int .i64 0, .int .i64 0, .int .i64 0, .slice none 0 0, .slice none 0 0] 28)).heap.size = w.heap.size + 1) := by show _ = _; simp
  clear hv hl hk
  have IS0 := fun W g h (r : RT W g h l1 e1) => rnum_rt W g h l1 e1 255 r
  unfold rdF at HR
  rw [if_pos rfl] at HR
  generalize (sNum 255 l1 e1).1 = X at IS0 HR
  generalize (sNum 255 l1 e1).2 = q2 at IS0 HR
  obtain ⟨l3, e3⟩ := q2
  dsimp only at IS0 HR
  have IS : Hid (∀ W g h, RT W g h l1 e1 → Calls Try.prog 25 #[.pointer (some ⟨g, 0, none⟩), .int .i64 255] W (Rr W g h (.int .i64 X) l3 e3)) := IS0
  clear IS0
  have T0 := fun W g h (r : RT W g h l3 e3) => rtext_rt W g h l3 e3 16384 r
  have TL := sText_le 16384 (by decide) l3 e3
  generalize (sText 16384 l3 e3).1 = Y at T0 TL HR
  generalize (sText 16384 l3 e3).2 = q2 at T0 HR
  obtain ⟨l5, e5⟩ := q2
  dsimp only at T0 HR
  have TS : Hid (∀ W g h, RT W g h l3 e3 → Calls Try.prog 26 #[.pointer (some ⟨g, 0, none⟩), .int .i64 16384] W (Rr W g h (.string (str Y)) l5 e5)) := T0
  have HTL : Hid ((Y.length : Int) ≤ 16384) := TL
  clear T0 TL
  go_enter Try.func10, Try.ntmps10
  go_wp2_with fail
  refine OC.out.mono ?_
  rintro x w1 ⟨g, h, rfl, hg1, hg2, hh, r1, b1⟩
  have HB1 : Hid (Below w.heap.size w w1) := (bel1 w _).trans (b1.mono (by have := hW0.out; omega))
  have R0 : Hid (At5 w1 w.heap.size 0 (.int .i64 0) (.int .i64 0) (.int .i64 0) (.slice none 0 0) (.slice none 0 0) ∧ ∀ o, w1.frozen? ⟨w.heap.size, o, none⟩ = false) := ⟨(box_at w (.int .i64 0) (.int .i64 0) (.int .i64 0) (.slice none 0 0) (.slice none 0 0)).below b1, fun o => (b1.frozen (p := ⟨w.heap.size, o, none⟩) (show w.heap.size < _ by have := hW0.out; omega)).trans (fresh w _ o)⟩
  have HG : Hid (w.heap.size < g ∧ g < w1.heap.size ∧ h < g) := by have := hW0.out; show _ ∧ _; omega
  have NC1 : Hid (Calls Try.prog 25 #[.pointer (some ⟨g, 0, none⟩), .int .i64 8] w1 _) := HNC.out w1 g h r1
  clear hg1 hg2 hh r1 b1 HNC OC
  go_wp2_with fail
  refine NC1.out.mono ?_
  rintro x w2 ⟨rfl, r2, k2⟩
  have M0 : Hid (RMid w (w2.alloc (.cells #[.int .i64 1, .int .i64 0, .int .i64 0, .slice none 0 0, .slice none 0 0] 28)) g h w2.heap.size l1 e1 (.int .i64 1) (.int .i64 0) (.int .i64 0) (.slice none 0 0) (.slice none 0 0)) := by
    have hz := k2.2.2.2.1
    have hG := HG.out
    have hb2 := bel1 w2 (.cells #[.int .i64 1, .int .i64 0, .int .i64 0, .slice none 0 0, .slice none 0 0] 28)
    exact ⟨hG.1, hG.2.2, by omega, by simp, (R0.out.1.kb k2 (by omega)).below hb2, fun o => (hb2.frozen (show w.heap.size < w2.heap.size by omega)).trans ((k2.frozen (a := ⟨w.heap.size, o, none⟩) (show w.heap.size < w1.heap.size by omega) (show w.heap.size ≠ g by omega)).trans (R0.out.2 o)), box_at w2 _ _ _ _ _, fun o => fresh w2 _ o, r2.keep (hb2.block g (by omega)) (hb2.block h (by omega)), HB1.out.trans ((k2.below (by omega) HB1.out.size).trans (hb2.mono (by omega)))⟩
  obtain ⟨W2, hW2⟩ : ∃ W2, W2 = w2.alloc (.cells #[.int .i64 1, .int .i64 0, .int .i64 0, .slice none 0 0, .slice none 0 0] 28) := ⟨_, rfl⟩
  obtain ⟨q, hq⟩ : ∃ q, q = w2.heap.size := ⟨_, rfl⟩
  rw [← hW2, ← hq] at M0
  have HW2 : Hid (W2 = _) := hW2
  have HQ : Hid (q = w2.heap.size) := hq
  clear r2 k2 hW2 hq NC1
  go_upto_region 3 with fail
  rw [← HW2.out, ← HQ.out]
  obtain ⟨o0, o1, o2, o3, o4⟩ := M0.out.own
  have CC : Hid (Calls Try.prog 25 #[.pointer (some ⟨g, 0, none⟩), .int .i64 255] W2 (Rr W2 g h (.int .i64 X) l3 e3)) := IS.out W2 g h M0.out.rt
  go_wp2_with fail
  refine CC.out.mono ?_
  rintro x w3 ⟨rfl, s3, k3⟩
  have N3 : Hid (RMid w w3 g h q l3 e3 (.int .i64 1) (.int .i64 0) (.int .i64 0) (.slice none 0 0) (.slice none 0 0)) := M0.out.step s3 k3
  clear s3 k3 o0 o1 o2 o3 o4 CC
  obtain ⟨o0, o1, o2, o3, o4⟩ := N3.out.own
  have y := N3.out.ofr 1
  have M3 : Hid (RMid w (w3.setCell ⟨q, 1, none⟩ (.int .i64 X)) g h q l3 e3 (.int .i64 1) (.int .i64 X) (.int .i64 0) (.slice none 0 0) (.slice none 0 0)) := N3.out.put (.int .i64 X) (N3.out.own.set1 _)
  obtain ⟨W3, hW3⟩ : ∃ W, W = w3.setCell ⟨q, 1, none⟩ (.int .i64 X) := ⟨_, rfl⟩
  rw [← hW3] at M3
  have HW3 : Hid (W3 = w3.setCell ⟨q, 1, none⟩ (.int .i64 X)) := hW3
  clear hW3
  go_upto_region 6 with fail
  rw [← HW3.out]
  clear y o0 o1 o2 o3 o4
  obtain ⟨o0, o1, o2, o3, o4⟩ := M3.out.own
  have TT : Hid (Calls Try.prog 26 #[.pointer (some ⟨g, 0, none⟩), .int .i64 16384] W3 (Rr W3 g h (.string (str Y)) l5 e5)) := TS.out W3 g h M3.out.rt
  go_wp2_with fail
  refine TT.out.mono ?_
  rintro x w5 ⟨rfl, s5, k5⟩
  have N5 : Hid (RMid w w5 g h q l5 e5 (.int .i64 1) (.int .i64 X) (.int .i64 0) (.slice none 0 0) (.slice none 0 0)) := M3.out.step s5 k5
  obtain ⟨cap, w6, hcv, hl6, hb6⟩ := conv_hl Y w5 (by have := HTL.out; omega)
  have N6 : Hid (RMid w w6 g h q l5 e5 (.int .i64 1) (.int .i64 X) (.int .i64 0) (.slice none 0 0) (.slice none 0 0)) := N5.out.blw hb6
  have HL6 : Hid (HL eb (fun B => B = w5.heap.size) w6 (.slice (some ⟨w5.heap.size, 0, none⟩) Y.length cap) Y) := hl6
  have HQ5 : Hid (w.heap.size < w5.heap.size ∧ q < w5.heap.size) := ⟨by have := N5.out.g0; have := N5.out.gq; have := N5.out.q1; omega, N5.out.q1⟩
  clear s5 k5 o0 o1 o2 o3 o4 TT hl6 hb6
  obtain ⟨o0, o1, o2, o3, o4⟩ := N6.out.own
  have y := N6.out.ofr 3
  have M6 : Hid (RMid w (w6.setCell ⟨q, 3, none⟩ (.slice (some ⟨w5.heap.size, 0, none⟩) Y.length cap)) g h q l5 e5 (.int .i64 1) (.int .i64 X) (.int .i64 0) (.slice (some ⟨w5.heap.size, 0, none⟩) Y.length cap) (.slice none 0 0)) := N6.out.put _ (N6.out.own.set3 _)
  have I6 : Hid (HL eb (fun B => w.heap.size < B) (w6.setCell ⟨q, 3, none⟩ (.slice (some ⟨w5.heap.size, 0, none⟩) Y.length cap)) (.slice (some ⟨w5.heap.size, 0, none⟩) Y.length cap) Y) := HL6.out.keep fun B hB _ => by
    have hB' : B = w5.heap.size := hB
    have := HQ5.out
    exact ⟨Below.heap_setCell _ _ _ _ (show B ≠ q by omega), by omega⟩
  obtain ⟨W6, hW6⟩ : ∃ W, W = w6.setCell ⟨q, 3, none⟩ (.slice (some ⟨w5.heap.size, 0, none⟩) Y.length cap) := ⟨_, rfl⟩
  rw [← hW6] at M6 I6
  have HW6 : Hid (W6 = w6.setCell ⟨q, 3, none⟩ (.slice (some ⟨w5.heap.size, 0, none⟩) Y.length cap)) := hW6
  clear hW6
  go_upto_region 19 with fail
  rw [← HW6.out]
  clear y o0 o1 o2 o3 o4
  obtain ⟨o0, o1, o2, o3, o4⟩ := M6.out.own
  have IV : Hid (IsV (fun B => w.heap.size < B) W6 (.slice (some ⟨w5.heap.size, 0, none⟩) Y.length cap) (.slice none 0 0) ⟨1, X, 0, Y, []⟩) := ⟨I6.out, HL.nil _ _ _⟩
  have EC : Hid (Calls Try.prog 28 #[.pointer (some ⟨g, 0, none⟩)] W6 _) := rend_rt W6 g h l5 e5 M6.out.rt
  have HX : Hid (rdS l 0 = (⟨1, X, 0, Y, []⟩, l5, e5)) := HR.out
  obtain ⟨E, hE⟩ : ∃ E, E = en l5 e5 := ⟨_, rfl⟩
  rw [← hE] at EC
  have HE : Hid (E = en l5 e5) := hE
  clear hE
  by_cases h0 : E = 0
  · have dE : (E != 0) = false := by simpa using h0
    have HM : Hid (mayB ⟨1, X, 0, Y, []⟩ = true) := by show _ = _; have h := HOK.out.2; rw [HX.out] at h; exact h (en_zero (HE.out.symm.trans h0))
    have HS : Hid (stR l = (⟨1, X, 0, Y, []⟩, true)) := by show _ = _; rw [stR_of HX.out, ← HE.out, if_pos h0]
    have MC0 := rmay_calls (fun B => w.heap.size < B) ⟨1, X, 0, Y, []⟩ (.slice (some ⟨w5.heap.size, 0, none⟩) Y.length cap) (.slice none 0 0) W6 IV.out
    rw [HM.out] at MC0
    unfold rowS at MC0
    dsimp only at MC0
    have MC : Hid (Calls Try.prog 29 _ W6 _) := MC0
    clear MC0 h0
    go_wp2_with fail
    refine EC.out.mono ?_
    rintro x w8 ⟨rfl, hw8⟩
    have hw8' := hw8.symm
    subst hw8'
    clear hw8 EC
    go_wp2_with fail
    refine MC.out.mono ?_
    rintro x w9 ⟨rfl, hb9⟩
    have M9 : Hid (RMid w w9 g h q l5 e5 (.int .i64 (1)) (.int .i64 (X)) (.int .i64 (0)) (.slice (some ⟨w5.heap.size, 0, none⟩) Y.length cap) (.slice none 0 0)) := M6.out.blw hb9
    have I9 : Hid (IsV (fun B => w.heap.size < B) w9 (.slice (some ⟨w5.heap.size, 0, none⟩) Y.length cap) (.slice none 0 0) ⟨1, X, 0, Y, []⟩) := IV.out.below hb9
    clear hb9 MC o0 o1 o2 o3 o4
    obtain ⟨a0, a1, a2, a3, a4⟩ := M9.out.own
    obtain ⟨b0, b1, b2, b3, b4⟩ := M9.out.res
    have f0 := M9.out.rfr 0
    have f1 := M9.out.rfr 1
    have f2 := M9.out.rfr 2
    have f3 := M9.out.rfr 3
    have f4 := M9.out.rfr 4
    go_wp2_with fail
    refine bodyPost_ret (ret10 _ (g := w.heap.size) rfl rfl (set5_at M9.out.res (.int .i64 (1)) (.int .i64 (X)) (.int .i64 (0)) (.slice (some ⟨w5.heap.size, 0, none⟩) Y.length cap) (.slice none 0 0))) rfl ?_
    rw [HS.out]
    exact RMid.fin (x := ⟨1, X, 0, Y, []⟩) M9.out I9.out
  · have dE : (E != 0) = true := by simpa using h0
    have HS : Hid (stR l = (zS, false)) := by show _ = _; rw [stR_of HX.out, ← HE.out, if_neg h0]
    clear h0 o0 o1 o2 o3 o4
    go_wp2_with fail
    refine EC.out.mono ?_
    rintro x w8 ⟨rfl, hw8⟩
    have hw8' := hw8.symm
    subst hw8'
    clear hw8 EC
    obtain ⟨b0, b1, b2, b3, b4⟩ := M6.out.res
    have f0 := M6.out.rfr 0
    have f1 := M6.out.rfr 1
    have f2 := M6.out.rfr 2
    have f3 := M6.out.rfr 3
    have f4 := M6.out.rfr 4
    go_wp2_with fail
    refine bodyPost_ret (ret10 _ (g := w.heap.size) rfl rfl (set5_at M6.out.res (.int .i64 0) (.int .i64 0) (.int .i64 0) (.slice none 0 0) (.slice none 0 0))) rfl ?_
    rw [HS.out]
    exact M6.out.fin0
set_option maxHeartbeats 4000000 in
set_option maxRecDepth 100000 in
theorem rstep4_calls (w : World) (v : Value) (l : List UInt8) (hv : Lib.HoldsBytes w v l) (hl : l.length ≤ 140737488351232) (l1 : List UInt8) (e1 : Int) (hk : sNum 8 l 0 = (4, l1, e1)) :
    Calls Try.prog 10 #[v] w (StP w (stR l)) := by
  have HR : Hid (rdS l 0 = rdF 17 4 l1 e1) := by
    show _ = _
    unfold rdS
    rw [hk]
    rfl
  have HOK : Hid (WfS (rdS l 0).1 ∧ ((rdS l 0).2.2 = 0 → mayB (rdS l 0).1 = true)) := rdS_ok l 0
  have OC : Hid (Calls Try.prog 24 #[v] (w.alloc (.cells #[.int .i64 0, .int .i64 0, .int .i64 0, .slice none 0 0, .slice none 0 0] 28)) _) := ropen2_calls v l _ (holds_below hv (bel1 w _)) hl (by simp)
  have HNC : Hid (∀ W g h, RT W g h l 0 → Calls Try.prog 25 #[.pointer (some ⟨g, 0, none⟩), .int .i64 8] W (Rr W g h (.int .i64 4) l1 e1)) := fun W g h r => by
    have := rnum_rt W g h l 0 8 r
    rwa [hk] at this
  obtain ⟨k', x', b', rfl⟩ : ∃ a m c, v = .slice a m c := by obtain ⟨p, cap, rfl, q1, q2⟩ := hv; exact ⟨_, _, _, rfl⟩
  have hW0 : Hid ((w.alloc (.cells #[.int .i64 0, .int .i64 0, .int .i64 0, .slice none 0 0, .slice none 0 0] 28)).heap.size = w.heap.size + 1) := by show _ = _; simp
  clear hv hl hk
  have IS0 := fun W g h (r : RT W g h l1 e1) => rnum_rt W g h l1 e1 64 r
  have n0 := sNum_nat 64 l1 e1
  have nle := sNum_le 64 (by decide) l1 e1
  unfold rdF at HR
  rw [if_neg (by decide), if_neg (by decide), if_neg (by decide), if_pos rfl] at HR
  generalize (sNum 64 l1 e1).1 = X at IS0 n0 nle HR
  generalize (sNum 64 l1 e1).2 = q2 at IS0 HR
  obtain ⟨l3, e3⟩ := q2
  dsimp only at IS0 HR
  obtain ⟨N, rfl⟩ := Int.eq_ofNat_of_zero_le n0
  rw [Int.toNat_natCast] at HR
  have HN : Hid (N ≤ 64) := by show _ ≤ _; omega
  have hNb : (N : Int) ≤ 64 := by have := HN.out; omega
  have IS : Hid (∀ W g h, RT W g h l1 e1 → Calls Try.prog 25 #[.pointer (some ⟨g, 0, none⟩), .int .i64 64] W (Rr W g h (.int .i64 (N : Int)) l3 e3)) := IS0
  clear IS0 n0 nle
  go_enter Try.func10, Try.ntmps10
  go_wp2_with fail
  refine OC.out.mono ?_
  rintro x w1 ⟨g, h, rfl, hg1, hg2, hh, r1, b1⟩
  have HB1 : Hid (Below w.heap.size w w1) := (bel1 w _).trans (b1.mono (by have := hW0.out; omega))
  have R0 : Hid (At5 w1 w.heap.size 0 (.int .i64 0) (.int .i64 0) (.int .i64 0) (.slice none 0 0) (.slice none 0 0) ∧ ∀ o, w1.frozen? ⟨w.heap.size, o, none⟩ = false) := ⟨(box_at w (.int .i64 0) (.int .i64 0) (.int .i64 0) (.slice none 0 0) (.slice none 0 0)).below b1, fun o => (b1.frozen (p := ⟨w.heap.size, o, none⟩) (show w.heap.size < _ by have := hW0.out; omega)).trans (fresh w _ o)⟩
  have HG : Hid (w.heap.size < g ∧ g < w1.heap.size ∧ h < g) := by have := hW0.out; show _ ∧ _; omega
  have NC1 : Hid (Calls Try.prog 25 #[.pointer (some ⟨g, 0, none⟩), .int .i64 8] w1 _) := HNC.out w1 g h r1
  clear hg1 hg2 hh r1 b1 HNC OC
  go_wp2_with fail
  refine NC1.out.mono ?_
  rintro x w2 ⟨rfl, r2, k2⟩
  have M0 : Hid (RMid w (w2.alloc (.cells #[.int .i64 4, .int .i64 0, .int .i64 0, .slice none 0 0, .slice none 0 0] 28)) g h w2.heap.size l1 e1 (.int .i64 4) (.int .i64 0) (.int .i64 0) (.slice none 0 0) (.slice none 0 0)) := by
    have hz := k2.2.2.2.1
    have hG := HG.out
    have hb2 := bel1 w2 (.cells #[.int .i64 4, .int .i64 0, .int .i64 0, .slice none 0 0, .slice none 0 0] 28)
    exact ⟨hG.1, hG.2.2, by omega, by simp, (R0.out.1.kb k2 (by omega)).below hb2, fun o => (hb2.frozen (show w.heap.size < w2.heap.size by omega)).trans ((k2.frozen (a := ⟨w.heap.size, o, none⟩) (show w.heap.size < w1.heap.size by omega) (show w.heap.size ≠ g by omega)).trans (R0.out.2 o)), box_at w2 _ _ _ _ _, fun o => fresh w2 _ o, r2.keep (hb2.block g (by omega)) (hb2.block h (by omega)), HB1.out.trans ((k2.below (by omega) HB1.out.size).trans (hb2.mono (by omega)))⟩
  obtain ⟨W2, hW2⟩ : ∃ W2, W2 = w2.alloc (.cells #[.int .i64 4, .int .i64 0, .int .i64 0, .slice none 0 0, .slice none 0 0] 28) := ⟨_, rfl⟩
  obtain ⟨q, hq⟩ : ∃ q, q = w2.heap.size := ⟨_, rfl⟩
  rw [← hW2, ← hq] at M0
  have HW2 : Hid (W2 = _) := hW2
  have HQ : Hid (q = w2.heap.size) := hq
  clear r2 k2 hW2 hq NC1
  go_upto_region 3 with fail
  rw [← HW2.out, ← HQ.out]
  obtain ⟨o0, o1, o2, o3, o4⟩ := M0.out.own
  have CC : Hid (Calls Try.prog 25 #[.pointer (some ⟨g, 0, none⟩), .int .i64 64] W2 (Rr W2 g h (.int .i64 (N : Int)) l3 e3)) := IS.out W2 g h M0.out.rt
  go_wp2_with fail
  refine CC.out.mono ?_
  rintro x w3 ⟨rfl, s3, k3⟩
  have N3 : Hid (RMid w w3 g h q l3 e3 (.int .i64 4) (.int .i64 0) (.int .i64 0) (.slice none 0 0) (.slice none 0 0)) := M0.out.step s3 k3
  have HJ0 : Hid ((e3 = 0 → rdK N l3 e3 = ([] ++ (rdK (N - 0) l3 e3).1, (rdK (N - 0) l3 e3).2)) ∧ (e3 ≠ 0 → (rdK N l3 e3).2.2 ≠ 0)) := ⟨fun _ => by simp, fun h => by rw [rdK_err _ _ _ h]; exact h⟩
  clear s3 k3 o0 o1 o2 o3 o4 CC
  go_wp2_with fail
  go_loopw [7] (fun i wr => ∃ (j : Nat) (acc : List Int) (pa : Option Addr) (ca : Nat) (lj : List UInt8) (ej : Int), j ≤ N ∧ i = .int .i64 (j : Int) ∧ Hid (acc.length = j) ∧ Hid (RMid w wr g h q lj ej (.int .i64 4) (.int .i64 0) (.int .i64 0) (.slice none 0 0) (.slice pa j ca)) ∧ Hid (wr.ownsRow (q + 1) 3 1 (.slice pa j ca) j (acc.map ei)) ∧ Hid ((ej = 0 → rdK N l3 e3 = (acc ++ (rdK (N - j) lj ej).1, (rdK (N - j) lj ej).2)) ∧ (ej ≠ 0 → (rdK N l3 e3).2.2 ≠ 0))) (fun i _ => N - (intOf i).toNat)
  case atStart => exact ⟨0, [], none, 0, l3, e3, Nat.zero_le _, rfl, rfl, N3, World.ownsRow_nil _ _ _ _, HJ0⟩
  case round =>
    obtain ⟨j, acc, pa, ca, lj, ej, hj, rfl, HA, HMM, HO, HJ⟩ := hrel
    obtain ⟨o0, o1, o2, o3, o4⟩ := HMM.out.own
    have RE : Hid (Calls Try.prog 27 #[.pointer (some ⟨g, 0, none⟩)] wr _) := rerr_rt wr g h lj ej HMM.out.rt
    by_cases he : ej = 0
    · by_cases hlt : j < N
      · subst he
        have hjl : (j : Int) < (N : Int) := by omega
        have NC0 := rnum_rt wr.drew g h lj 0 1099511627776 (HMM.out.rt.keep rfl rfl)
        obtain ⟨m, hm⟩ : ∃ m, N - j = m + 1 := ⟨N - j - 1, by omega⟩
        have HJ2 : Hid (rdK N l3 e3 = (acc ++ ((sNum 1099511627776 lj 0).1 :: (rdK m (sNum 1099511627776 lj 0).2.1 (sNum 1099511627776 lj 0).2.2).1), (rdK m (sNum 1099511627776 lj 0).2.1 (sNum 1099511627776 lj 0).2.2).2)) := by show _ = _; rw [HJ.out.1 rfl, hm]; rfl
        have HMm : Hid (N - (j + 1) = m) := by show _ = _; omega
        generalize (sNum 1099511627776 lj 0).1 = X at NC0 HJ2
        generalize (sNum 1099511627776 lj 0).2.1 = l6 at NC0 HJ2
        generalize (sNum 1099511627776 lj 0).2.2 = e6 at NC0 HJ2
        have NC : Hid (Calls Try.prog 25 #[.pointer (some ⟨g, 0, none⟩), .int .i64 1099511627776] wr.drew (Rr wr.drew g h (.int .i64 X) l6 e6)) := NC0
        have HJ3 : Hid ((e6 = 0 → rdK N l3 e3 = ((acc ++ [X]) ++ (rdK (N - (j + 1)) l6 e6).1, (rdK (N - (j + 1)) l6 e6).2)) ∧ (e6 ≠ 0 → (rdK N l3 e3).2.2 ≠ 0)) := ⟨fun _ => by rw [HMm.out, HJ2.out, List.append_assoc]; rfl, fun h => by rw [HJ2.out]; dsimp only; rw [rdK_err _ _ _ h]; exact h⟩
        clear NC0 hm hj
        go_wp2_with fail
        refine RE.out.mono ?_
        rintro x w4 ⟨rfl, hw4⟩
        have hw4' := hw4.symm
        subst hw4'
        clear hw4 RE
        go_upto_region 18 with fail
        have od4 : wr.drew.cell? ⟨q, 4, none⟩ = some (.slice pa j ca) := o4
        refine wp_region_held_drew (S := (fun _ => True)) (by kernel_rfl) trivial (fun hHeld => ?_)
        change wpAnyH _ _ _ _ _ _ _ _ (World.drew _)
        refine wpAnyH_take (i := 0) (oi := { dst := some 50, op := Go.Op.fieldAddr 28 (Go.Operand.tmp 5) 4, type := 0, pos := "ref.go:72", after := #[], guard := none }) (v := ?_) rfl (by kernel_rfl) (by kernel_rfl) (by kernel_rfl) (fun _ _ _ h => h) (Or.inl ⟨by rfl, ?_⟩) hHeld ?_
        rotate_left 1
        · (intro w hSw; (try dsimp only at hSw); go_simp <;> with_reducible rfl)
        simp only [Act.put, List.setIfInBounds_toArray, List.set_cons_zero, List.set_cons_succ]
        refine wpAnyH_take (i := 2) (oi := { dst := some 52, op := Go.Op.move (Go.Operand.tmp 4), type := 45, pos := "ref.go:72", after := #[], guard := none }) (v := ?_) rfl (by kernel_rfl) (by kernel_rfl) (by kernel_rfl) (fun _ _ _ h => h) (Or.inl ⟨by rfl, ?_⟩) hHeld ?_
        rotate_left 1
        · (intro w hSw; (try dsimp only at hSw); go_simp <;> with_reducible rfl)
        simp only [Act.put, List.setIfInBounds_toArray, List.set_cons_zero, List.set_cons_succ]
        refine wpAnyH_ready (rs := [1, 3]) (by kernel_rfl) (by simp) ?_
        refine AllReadyH.cons (o := { dst := some 51, op := Go.Op.load 26 (Go.Operand.tmp 50), type := 26, pos := "ref.go:72", after := #[{ on := 0, ground := Go.Ground.data }], guard := none }) rfl (fun K hK => ?_) (AllReadyH.cons (o := { dst := some 53, op := Go.Op.call { callee := Go.Callee.value (Go.Operand.func 25), args := #[Go.Operand.tmp 52, Go.Operand.const (Go.Value.int Go.IntKind.i64 1099511627776)], argTypes := #[45, 3] }, type := 3, pos := "ref.go:72", after := #[{ on := 2, ground := Go.Ground.data }], guard := none }) rfl (fun K hK => ?_) AllReadyH.nil)
        · go_simp
          clear hHeld
          refine hK.out _ _ (trivial) (fun hHeld => ?_)
          clear hK K
          refine wpAnyH_ready (rs := [3]) (by kernel_rfl) (by simp) ?_
          refine AllReadyH.cons (o := { dst := some 53, op := Go.Op.call { callee := Go.Callee.value (Go.Operand.func 25), args := #[Go.Operand.tmp 52, Go.Operand.const (Go.Value.int Go.IntKind.i64 1099511627776)], argTypes := #[45, 3] }, type := 3, pos := "ref.go:72", after := #[{ on := 2, ground := Go.Ground.data }], guard := none }) rfl (fun K hK => ?_) AllReadyH.nil
          go_simp
          refine NC.out.mono ?_
          rintro e w7 ⟨rfl, s7, k7⟩
          have N7 : Hid (RMid w w7 g h q l6 e6 (.int .i64 4) (.int .i64 0) (.int .i64 0) (.slice none 0 0) (.slice pa j ca)) := (HMM.out.blw ((Below.refl _ wr).drew)).step s7 k7
          have O7 : w7.ownsRow (q + 1) 3 1 (.slice pa j ca) j (acc.map ei) := row_kept HO.out (fun B hB => k7.2.2.2.2 B (World.ownsRow.lt HO.out B hB).2 (by have := (World.ownsRow.lt HO.out B hB).1; have := HMM.out.gq; omega))
          obtain ⟨u', w8, hr8, ho8, hb8, hk8⟩ := int_app (src := w7.heap.size) X (row_kept O7 (fun B hB => (bel1 w7 (.cells #[.int .i64 X] 3)).block B (World.ownsRow.lt O7 B hB).2)) (by simp) (by have := N7.out.q1; simp; omega) (by have := HN.out; omega)
          have N8 : Hid (RMid w w8 g h q l6 e6 (.int .i64 4) (.int .i64 0) (.int .i64 0) (.slice none 0 0) (.slice pa j ca)) := N7.out.blw2 (q + 1) (by have := N7.out.q1; omega) ((((bel1 w7 (.cells #[.int .i64 X] 3)).mono (by have := N7.out.q1; omega))).trans hb8)
          have O8 : Hid (w8.ownsRow (q + 1) 3 1 u' (j + 1) ((acc ++ [X]).map ei)) := by rw [List.map_append]; exact ho8
          obtain ⟨g', ca', rfl⟩ := ownsRow_succ O8.out
          have p4 := N7.out.own.2.2.2.2
          have p4a : (w7.alloc (.cells #[.int .i64 X] 3)).cell? ⟨q, 4, none⟩ = some (.slice pa j ca) := ((bel1 w7 _).cell (p := ⟨q, 4, none⟩) N7.out.q1).trans p4
          have p8 := N8.out.own.2.2.2.2
          have y8 := N8.out.ofr 4
          clear s7 k7 ho8 hb8 hk8 O7
          clear hHeld
          refine hK.out _ _ (trivial) (fun hHeld => ?_)
          clear hK K
          refine wpAnyH_ready (rs := [4]) (by kernel_rfl) (by simp) ?_
          refine AllReadyH.cons (o := { dst := some 54, op := Go.Op.buildSlice 26 1 #[(0, Go.Operand.tmp 53)], type := 26, pos := "ref.go:72", after := #[{ on := 3, ground := Go.Ground.data }], guard := none }) rfl (fun K hK => ?_) AllReadyH.nil
          go_simp
          clear hHeld
          refine hK.out _ _ (trivial) (fun hHeld => ?_)
          clear hK K
          refine wpAnyH_ready (rs := [5]) (by kernel_rfl) (by simp) ?_
          refine AllReadyH.cons (o := { dst := some 55, op := Go.Op.call { callee := Go.Callee.builtin Go.Builtin.append, args := #[Go.Operand.tmp 51, Go.Operand.tmp 54], argTypes := #[26, 26] }, type := 26, pos := "ref.go:72", after := #[{ on := 1, ground := Go.Ground.data }, { on := 4, ground := Go.Ground.data }, { on := 3, ground := Go.Ground.chain }], guard := none }) rfl (fun K hK => ?_) AllReadyH.nil
          rw [if_pos (by rfl)]
          refine Lib.wp_append_run _ _ _ 26 26 rfl _ _ rfl rfl _ _ (hr8 _) ?_
          clear hHeld
          refine hK.out _ _ (trivial) (fun hHeld => ?_)
          clear hK K
          refine wpAnyH_take (i := 6) (oi := { dst := some 56, op := Go.Op.fieldAddr 28 (Go.Operand.tmp 5) 4, type := 0, pos := "ref.go:72", after := #[{ on := 0, ground := Go.Ground.phase }, { on := 1, ground := Go.Ground.phase }, { on := 2, ground := Go.Ground.phase }, { on := 3, ground := Go.Ground.phase }, { on := 4, ground := Go.Ground.phase }, { on := 5, ground := Go.Ground.phase }], guard := none }) (v := ?_) rfl (by kernel_rfl) (by kernel_rfl) (by kernel_rfl) (fun _ _ _ h => h) (Or.inl ⟨by rfl, ?_⟩) hHeld ?_
          rotate_left 1
          · (intro w hSw; (try dsimp only at hSw); go_simp <;> with_reducible rfl)
          simp only [Act.put, List.setIfInBounds_toArray, List.set_cons_zero, List.set_cons_succ]
          refine wpAnyH_ready (rs := [7]) (by kernel_rfl) (by simp) ?_
          refine AllReadyH.cons (o := { dst := none, op := Go.Op.store 26 (Go.Operand.tmp 56) (Go.Operand.tmp 55), type := 0, pos := "ref.go:72", after := #[{ on := 6, ground := Go.Ground.data }, { on := 5, ground := Go.Ground.data }, { on := 5, ground := Go.Ground.chain }, { on := 0, ground := Go.Ground.phase }, { on := 1, ground := Go.Ground.phase }, { on := 2, ground := Go.Ground.phase }, { on := 3, ground := Go.Ground.phase }, { on := 4, ground := Go.Ground.phase }, { on := 5, ground := Go.Ground.phase }], guard := none }) rfl (fun K hK => ?_) AllReadyH.nil
          go_simp
          clear hHeld
          refine hK.out _ _ (trivial) (fun hHeld => ?_)
          clear hK K
          refine wpAnyH_done (by kernel_rfl) ?_ _
          generalize hW9 : w8.setCell ⟨q, 4, none⟩ _ = W9
          have M9 : Hid (RMid w W9 g h q l6 e6 (.int .i64 4) (.int .i64 0) (.int .i64 0) (.slice none 0 0) (.slice (some ⟨g', 0, none⟩) (j + 1) ca')) := by rw [← hW9]; exact N8.out.put _ (N8.out.own.set4 _)
          have O9 : Hid (W9.ownsRow (q + 1) 3 1 (.slice (some ⟨g', 0, none⟩) (j + 1) ca') (j + 1) ((acc ++ [X]).map ei)) := by rw [← hW9]; exact row_kept O8.out fun B hB => Below.heap_setCell _ _ _ _ (show B ≠ q by have := (World.ownsRow.lt O8.out B hB).1; omega)
          clear hW9 p4 p4a p8 y8
          go_wp2_with fail
          refine ⟨⟨j + 1, acc ++ [X], some ⟨g', 0, none⟩, ca', l6, e6, hlt, by rw [Int.natCast_add]; rfl, (by show _ = _; rw [List.length_append, HA.out]; rfl), M9, O9, HJ3⟩, ?_⟩
          simp only [intOf]
          omega
        · go_simp
          refine NC.out.mono ?_
          rintro e w7 ⟨rfl, s7, k7⟩
          have N7 : Hid (RMid w w7 g h q l6 e6 (.int .i64 4) (.int .i64 0) (.int .i64 0) (.slice none 0 0) (.slice pa j ca)) := (HMM.out.blw ((Below.refl _ wr).drew)).step s7 k7
          have O7 : w7.ownsRow (q + 1) 3 1 (.slice pa j ca) j (acc.map ei) := row_kept HO.out (fun B hB => k7.2.2.2.2 B (World.ownsRow.lt HO.out B hB).2 (by have := (World.ownsRow.lt HO.out B hB).1; have := HMM.out.gq; omega))
          obtain ⟨u', w8, hr8, ho8, hb8, hk8⟩ := int_app (src := w7.heap.size) X (row_kept O7 (fun B hB => (bel1 w7 (.cells #[.int .i64 X] 3)).block B (World.ownsRow.lt O7 B hB).2)) (by simp) (by have := N7.out.q1; simp; omega) (by have := HN.out; omega)
          have N8 : Hid (RMid w w8 g h q l6 e6 (.int .i64 4) (.int .i64 0) (.int .i64 0) (.slice none 0 0) (.slice pa j ca)) := N7.out.blw2 (q + 1) (by have := N7.out.q1; omega) ((((bel1 w7 (.cells #[.int .i64 X] 3)).mono (by have := N7.out.q1; omega))).trans hb8)
          have O8 : Hid (w8.ownsRow (q + 1) 3 1 u' (j + 1) ((acc ++ [X]).map ei)) := by rw [List.map_append]; exact ho8
          obtain ⟨g', ca', rfl⟩ := ownsRow_succ O8.out
          have p4 := N7.out.own.2.2.2.2
          have p4a : (w7.alloc (.cells #[.int .i64 X] 3)).cell? ⟨q, 4, none⟩ = some (.slice pa j ca) := ((bel1 w7 _).cell (p := ⟨q, 4, none⟩) N7.out.q1).trans p4
          have p8 := N8.out.own.2.2.2.2
          have y8 := N8.out.ofr 4
          clear s7 k7 ho8 hb8 hk8 O7
          clear hHeld
          refine hK.out _ _ (trivial) (fun hHeld => ?_)
          clear hK K
          refine wpAnyH_ready (rs := [1, 4]) (by kernel_rfl) (by simp) ?_
          refine AllReadyH.cons (o := { dst := some 51, op := Go.Op.load 26 (Go.Operand.tmp 50), type := 26, pos := "ref.go:72", after := #[{ on := 0, ground := Go.Ground.data }], guard := none }) rfl (fun K hK => ?_) (AllReadyH.cons (o := { dst := some 54, op := Go.Op.buildSlice 26 1 #[(0, Go.Operand.tmp 53)], type := 26, pos := "ref.go:72", after := #[{ on := 3, ground := Go.Ground.data }], guard := none }) rfl (fun K hK => ?_) AllReadyH.nil)
          · go_simp
            clear hHeld
            refine hK.out _ _ (trivial) (fun hHeld => ?_)
            clear hK K
            refine wpAnyH_ready (rs := [4]) (by kernel_rfl) (by simp) ?_
            refine AllReadyH.cons (o := { dst := some 54, op := Go.Op.buildSlice 26 1 #[(0, Go.Operand.tmp 53)], type := 26, pos := "ref.go:72", after := #[{ on := 3, ground := Go.Ground.data }], guard := none }) rfl (fun K hK => ?_) AllReadyH.nil
            go_simp
            clear hHeld
            refine hK.out _ _ (trivial) (fun hHeld => ?_)
            clear hK K
            refine wpAnyH_ready (rs := [5]) (by kernel_rfl) (by simp) ?_
            refine AllReadyH.cons (o := { dst := some 55, op := Go.Op.call { callee := Go.Callee.builtin Go.Builtin.append, args := #[Go.Operand.tmp 51, Go.Operand.tmp 54], argTypes := #[26, 26] }, type := 26, pos := "ref.go:72", after := #[{ on := 1, ground := Go.Ground.data }, { on := 4, ground := Go.Ground.data }, { on := 3, ground := Go.Ground.chain }], guard := none }) rfl (fun K hK => ?_) AllReadyH.nil
            rw [if_pos (by rfl)]
            refine Lib.wp_append_run _ _ _ 26 26 rfl _ _ rfl rfl _ _ (hr8 _) ?_
            clear hHeld
            refine hK.out _ _ (trivial) (fun hHeld => ?_)
            clear hK K
            refine wpAnyH_take (i := 6) (oi := { dst := some 56, op := Go.Op.fieldAddr 28 (Go.Operand.tmp 5) 4, type := 0, pos := "ref.go:72", after := #[{ on := 0, ground := Go.Ground.phase }, { on := 1, ground := Go.Ground.phase }, { on := 2, ground := Go.Ground.phase }, { on := 3, ground := Go.Ground.phase }, { on := 4, ground := Go.Ground.phase }, { on := 5, ground := Go.Ground.phase }], guard := none }) (v := ?_) rfl (by kernel_rfl) (by kernel_rfl) (by kernel_rfl) (fun _ _ _ h => h) (Or.inl ⟨by rfl, ?_⟩) hHeld ?_
            rotate_left 1
            · (intro w hSw; (try dsimp only at hSw); go_simp <;> with_reducible rfl)
            simp only [Act.put, List.setIfInBounds_toArray, List.set_cons_zero, List.set_cons_succ]
            refine wpAnyH_ready (rs := [7]) (by kernel_rfl) (by simp) ?_
            refine AllReadyH.cons (o := { dst := none, op := Go.Op.store 26 (Go.Operand.tmp 56) (Go.Operand.tmp 55), type := 0, pos := "ref.go:72", after := #[{ on := 6, ground := Go.Ground.data }, { on := 5, ground := Go.Ground.data }, { on := 5, ground := Go.Ground.chain }, { on := 0, ground := Go.Ground.phase }, { on := 1, ground := Go.Ground.phase }, { on := 2, ground := Go.Ground.phase }, { on := 3, ground := Go.Ground.phase }, { on := 4, ground := Go.Ground.phase }, { on := 5, ground := Go.Ground.phase }], guard := none }) rfl (fun K hK => ?_) AllReadyH.nil
            go_simp
            clear hHeld
            refine hK.out _ _ (trivial) (fun hHeld => ?_)
            clear hK K
            refine wpAnyH_done (by kernel_rfl) ?_ _
            generalize hW9 : w8.setCell ⟨q, 4, none⟩ _ = W9
            have M9 : Hid (RMid w W9 g h q l6 e6 (.int .i64 4) (.int .i64 0) (.int .i64 0) (.slice none 0 0) (.slice (some ⟨g', 0, none⟩) (j + 1) ca')) := by rw [← hW9]; exact N8.out.put _ (N8.out.own.set4 _)
            have O9 : Hid (W9.ownsRow (q + 1) 3 1 (.slice (some ⟨g', 0, none⟩) (j + 1) ca') (j + 1) ((acc ++ [X]).map ei)) := by rw [← hW9]; exact row_kept O8.out fun B hB => Below.heap_setCell _ _ _ _ (show B ≠ q by have := (World.ownsRow.lt O8.out B hB).1; omega)
            clear hW9 p4 p4a p8 y8
            go_wp2_with fail
            refine ⟨⟨j + 1, acc ++ [X], some ⟨g', 0, none⟩, ca', l6, e6, hlt, by rw [Int.natCast_add]; rfl, (by show _ = _; rw [List.length_append, HA.out]; rfl), M9, O9, HJ3⟩, ?_⟩
            simp only [intOf]
            omega
          · go_simp
            clear hHeld
            refine hK.out _ _ (trivial) (fun hHeld => ?_)
            clear hK K
            refine wpAnyH_ready (rs := [1]) (by kernel_rfl) (by simp) ?_
            refine AllReadyH.cons (o := { dst := some 51, op := Go.Op.load 26 (Go.Operand.tmp 50), type := 26, pos := "ref.go:72", after := #[{ on := 0, ground := Go.Ground.data }], guard := none }) rfl (fun K hK => ?_) AllReadyH.nil
            go_simp
            clear hHeld
            refine hK.out _ _ (trivial) (fun hHeld => ?_)
            clear hK K
            refine wpAnyH_ready (rs := [5]) (by kernel_rfl) (by simp) ?_
            refine AllReadyH.cons (o := { dst := some 55, op := Go.Op.call { callee := Go.Callee.builtin Go.Builtin.append, args := #[Go.Operand.tmp 51, Go.Operand.tmp 54], argTypes := #[26, 26] }, type := 26, pos := "ref.go:72", after := #[{ on := 1, ground := Go.Ground.data }, { on := 4, ground := Go.Ground.data }, { on := 3, ground := Go.Ground.chain }], guard := none }) rfl (fun K hK => ?_) AllReadyH.nil
            rw [if_pos (by rfl)]
            refine Lib.wp_append_run _ _ _ 26 26 rfl _ _ rfl rfl _ _ (hr8 _) ?_
            clear hHeld
            refine hK.out _ _ (trivial) (fun hHeld => ?_)
            clear hK K
            refine wpAnyH_take (i := 6) (oi := { dst := some 56, op := Go.Op.fieldAddr 28 (Go.Operand.tmp 5) 4, type := 0, pos := "ref.go:72", after := #[{ on := 0, ground := Go.Ground.phase }, { on := 1, ground := Go.Ground.phase }, { on := 2, ground := Go.Ground.phase }, { on := 3, ground := Go.Ground.phase }, { on := 4, ground := Go.Ground.phase }, { on := 5, ground := Go.Ground.phase }], guard := none }) (v := ?_) rfl (by kernel_rfl) (by kernel_rfl) (by kernel_rfl) (fun _ _ _ h => h) (Or.inl ⟨by rfl, ?_⟩) hHeld ?_
            rotate_left 1
            · (intro w hSw; (try dsimp only at hSw); go_simp <;> with_reducible rfl)
            simp only [Act.put, List.setIfInBounds_toArray, List.set_cons_zero, List.set_cons_succ]
            refine wpAnyH_ready (rs := [7]) (by kernel_rfl) (by simp) ?_
            refine AllReadyH.cons (o := { dst := none, op := Go.Op.store 26 (Go.Operand.tmp 56) (Go.Operand.tmp 55), type := 0, pos := "ref.go:72", after := #[{ on := 6, ground := Go.Ground.data }, { on := 5, ground := Go.Ground.data }, { on := 5, ground := Go.Ground.chain }, { on := 0, ground := Go.Ground.phase }, { on := 1, ground := Go.Ground.phase }, { on := 2, ground := Go.Ground.phase }, { on := 3, ground := Go.Ground.phase }, { on := 4, ground := Go.Ground.phase }, { on := 5, ground := Go.Ground.phase }], guard := none }) rfl (fun K hK => ?_) AllReadyH.nil
            go_simp
            clear hHeld
            refine hK.out _ _ (trivial) (fun hHeld => ?_)
            clear hK K
            refine wpAnyH_done (by kernel_rfl) ?_ _
            generalize hW9 : w8.setCell ⟨q, 4, none⟩ _ = W9
            have M9 : Hid (RMid w W9 g h q l6 e6 (.int .i64 4) (.int .i64 0) (.int .i64 0) (.slice none 0 0) (.slice (some ⟨g', 0, none⟩) (j + 1) ca')) := by rw [← hW9]; exact N8.out.put _ (N8.out.own.set4 _)
            have O9 : Hid (W9.ownsRow (q + 1) 3 1 (.slice (some ⟨g', 0, none⟩) (j + 1) ca') (j + 1) ((acc ++ [X]).map ei)) := by rw [← hW9]; exact row_kept O8.out fun B hB => Below.heap_setCell _ _ _ _ (show B ≠ q by have := (World.ownsRow.lt O8.out B hB).1; omega)
            clear hW9 p4 p4a p8 y8
            go_wp2_with fail
            refine ⟨⟨j + 1, acc ++ [X], some ⟨g', 0, none⟩, ca', l6, e6, hlt, by rw [Int.natCast_add]; rfl, (by show _ = _; rw [List.length_append, HA.out]; rfl), M9, O9, HJ3⟩, ?_⟩
            simp only [intOf]
            omega
      · obtain rfl : j = N := by omega
        subst he
        have HX0 : rdK j l3 e3 = (acc, lj, 0) := by rw [HJ.out.1 rfl, Nat.sub_self]; simp [rdK]
        have IV : Hid (IsV (fun B => w.heap.size < B) wr (.slice none 0 0) (.slice pa j ca) ⟨4, 0, 0, [], acc⟩) := ⟨HL.nil _ _ _, (ints_hl (by have h := HO.out; rwa [← HA.out] at h ⊢)).all fun B hB _ => by have hB' : q + 1 ≤ B := hB; have := HMM.out.g0; have := HMM.out.gq; omega⟩
        have HX : Hid (rdS l 0 = (⟨4, 0, 0, [], acc⟩, lj, 0)) := by show _ = _; rw [HR.out, HX0]
        clear HX0 hj RE
        go_upto_region 19 with fail
        have EC : Hid (Calls Try.prog 28 #[.pointer (some ⟨g, 0, none⟩)] wr _) := rend_rt wr g h lj 0 HMM.out.rt
        skip
        obtain ⟨E, hE⟩ : ∃ E, E = en lj 0 := ⟨_, rfl⟩
        rw [← hE] at EC
        have HE : Hid (E = en lj 0) := hE
        clear hE
        by_cases h0 : E = 0
        · have dE : (E != 0) = false := by simpa using h0
          have HM : Hid (mayB ⟨4, 0, 0, [], acc⟩ = true) := by show _ = _; have h := HOK.out.2; rw [HX.out] at h; exact h (en_zero (HE.out.symm.trans h0))
          have HS : Hid (stR l = (⟨4, 0, 0, [], acc⟩, true)) := by show _ = _; rw [stR_of HX.out, ← HE.out, if_pos h0]
          have MC0 := rmay_calls (fun B => w.heap.size < B) ⟨4, 0, 0, [], acc⟩ (.slice none 0 0) (.slice pa j ca) wr IV.out
          rw [HM.out] at MC0
          unfold rowS at MC0
          dsimp only at MC0
          have MC : Hid (Calls Try.prog 29 _ wr _) := MC0
          clear MC0 h0
          go_wp2_with fail
          refine EC.out.mono ?_
          rintro x w8 ⟨rfl, hw8⟩
          have hw8' := hw8.symm
          subst hw8'
          clear hw8 EC
          go_wp2_with fail
          refine MC.out.mono ?_
          rintro x w9 ⟨rfl, hb9⟩
          have M9 : Hid (RMid w w9 g h q lj 0 (.int .i64 (4)) (.int .i64 (0)) (.int .i64 (0)) (.slice none 0 0) (.slice pa j ca)) := HMM.out.blw hb9
          have I9 : Hid (IsV (fun B => w.heap.size < B) w9 (.slice none 0 0) (.slice pa j ca) ⟨4, 0, 0, [], acc⟩) := IV.out.below hb9
          clear hb9 MC o0 o1 o2 o3 o4
          obtain ⟨a0, a1, a2, a3, a4⟩ := M9.out.own
          obtain ⟨b0, b1, b2, b3, b4⟩ := M9.out.res
          have f0 := M9.out.rfr 0
          have f1 := M9.out.rfr 1
          have f2 := M9.out.rfr 2
          have f3 := M9.out.rfr 3
          have f4 := M9.out.rfr 4
          go_wp2_with fail
          refine bodyPost_ret (ret10 _ (g := w.heap.size) rfl rfl (set5_at M9.out.res (.int .i64 (4)) (.int .i64 (0)) (.int .i64 (0)) (.slice none 0 0) (.slice pa j ca))) rfl ?_
          rw [HS.out]
          exact RMid.fin (x := ⟨4, 0, 0, [], acc⟩) M9.out I9.out
        · have dE : (E != 0) = true := by simpa using h0
          have HS : Hid (stR l = (zS, false)) := by show _ = _; rw [stR_of HX.out, ← HE.out, if_neg h0]
          clear h0 o0 o1 o2 o3 o4
          go_wp2_with fail
          refine EC.out.mono ?_
          rintro x w8 ⟨rfl, hw8⟩
          have hw8' := hw8.symm
          subst hw8'
          clear hw8 EC
          obtain ⟨b0, b1, b2, b3, b4⟩ := HMM.out.res
          have f0 := HMM.out.rfr 0
          have f1 := HMM.out.rfr 1
          have f2 := HMM.out.rfr 2
          have f3 := HMM.out.rfr 3
          have f4 := HMM.out.rfr 4
          go_wp2_with fail
          refine bodyPost_ret (ret10 _ (g := w.heap.size) rfl rfl (set5_at HMM.out.res (.int .i64 0) (.int .i64 0) (.int .i64 0) (.slice none 0 0) (.slice none 0 0))) rfl ?_
          rw [HS.out]
          exact HMM.out.fin0
    · have HS : Hid (stR l = (zS, false)) := by
        show _ = _
        have h1 := HJ.out.2 he
        rw [stR_of HR.out]
        exact if_neg fun hc => h1 (en_zero hc)
      have EC : Hid (Calls Try.prog 28 #[.pointer (some ⟨g, 0, none⟩)] wr _) := rend_rt wr g h lj ej HMM.out.rt
      obtain ⟨E, hE⟩ : ∃ E, E = en lj ej := ⟨_, rfl⟩
      have hen : E ≠ 0 := fun hc => he (en_zero (hE.symm.trans hc))
      rw [← hE] at EC
      have dE : (E != 0) = true := by simpa using hen
      have d0 : (ej == 0) = false := by simpa using he
      clear hE hen he o0 o1 o2 o3 o4
      obtain ⟨b0, b1, b2, b3, b4⟩ := HMM.out.res
      have f0 := HMM.out.rfr 0
      have f1 := HMM.out.rfr 1
      have f2 := HMM.out.rfr 2
      have f3 := HMM.out.rfr 3
      have f4 := HMM.out.rfr 4
      by_cases hlt : j < N
      · have hjl : (j : Int) < (N : Int) := by omega
        go_wp2_with fail
        refine RE.out.mono ?_
        rintro x w4 ⟨rfl, hw4⟩
        have hw4' := hw4.symm
        subst hw4'
        clear hw4 RE
        go_wp2_with fail
        refine EC.out.mono ?_
        rintro x w8 ⟨rfl, hw8⟩
        have hw8' := hw8.symm
        subst hw8'
        clear hw8 EC
        go_wp2_with fail
        refine bodyPost_ret (ret10 _ (g := w.heap.size) rfl rfl (set5_at HMM.out.res (.int .i64 0) (.int .i64 0) (.int .i64 0) (.slice none 0 0) (.slice none 0 0))) rfl ?_
        rw [HS.out]
        exact HMM.out.fin0
      · obtain rfl : j = N := by omega
        go_wp2_with fail
        refine EC.out.mono ?_
        rintro x w8 ⟨rfl, hw8⟩
        have hw8' := hw8.symm
        subst hw8'
        clear hw8 EC
        go_wp2_with fail
        refine bodyPost_ret (ret10 _ (g := w.heap.size) rfl rfl (set5_at HMM.out.res (.int .i64 0) (.int .i64 0) (.int .i64 0) (.slice none 0 0) (.slice none 0 0))) rfl ?_
        rw [HS.out]
        exact HMM.out.fin0
theorem rstep_calls (w : World) (v : Value) (l : List UInt8) (hv : Lib.HoldsBytes w v l) (hl : l.length ≤ 140737488351232) :
    Calls Try.prog 10 #[v] w (StP w (stR l)) := by
  have h0 := sNum_nat 8 l 0
  have h1 := sNum_le 8 (by decide) l 0
  obtain ⟨k, l1, e1, hk⟩ : ∃ k l1 e1, sNum 8 l 0 = (k, l1, e1) := ⟨_, _, _, rfl⟩
  rw [hk] at h0 h1
  dsimp only at h0 h1
  have hk9 : k = 0 ∨ k = 1 ∨ k = 2 ∨ k = 3 ∨ k = 4 ∨ k = 5 ∨ k = 6 ∨ k = 7 ∨ k = 8 := by omega
  rcases hk9 with rfl | rfl | rfl | rfl | rfl | rfl | rfl | rfl | rfl
  · exact rstep0_calls w v l hv hl _ _ hk
  · exact rstep1_calls w v l hv hl _ _ hk
  · exact rstep2_calls w v l hv hl _ _ hk
  · exact rstep3_calls w v l hv hl _ _ hk
  · exact rstep4_calls w v l hv hl _ _ hk
  · exact rstep5_calls w v l hv hl _ _ hk
  · exact rstep6_calls w v l hv hl _ _ hk
  · exact rstep7_calls w v l hv hl _ _ hk
  · exact rstep8_calls w v l hv hl _ _ hk
end Go.Proofs.Ytimiklekajelfaa
