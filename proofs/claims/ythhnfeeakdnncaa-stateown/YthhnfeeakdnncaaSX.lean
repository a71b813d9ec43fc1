/- The walk of StateOwn. -/
import Derived.Test.YthhnfeeakdnncaaSR
import Derived.Test.YthhnfeeakdnncaaSV
import Derived.Test.YthhnfeeakdnncaaSW
namespace Go.Proofs.Ythhnfeeakdnncaa
open Go.ChangeShapes Go.WideShapes Go.ChangeAt Go.RowKit
/-- Blocks of what a call made: from lo on, of those that are there in w1, such that may be written. -/
def okk (lo : Nat) (w1 : World) (B : Nat) : Prop := Free lo w1 B ∧ B < w1.heap.size
theorem Ps.later {lo : Nat} {w1 W W' : World} {n : Nat} {c : Array Value} {s : Sta} (h : Ps (okk lo w1) W n c s) (_hl : w1.heap.size ≤ W.heap.size) (hb : Below W.heap.size W W') : Ps (okk lo w1) W' n c s := h.keep (fun _ _ h => h) fun B hB _ => hb.block B hB
/-- Two clones that lie apart. -/
structure Own2 (n g : Nat) (w : World) (cs : Array Value) (s : Sta) (W : World) (g3 g4 : Nat) (c1 c2 : Array Value) (ok1 ok2 : Nat → Prop) : Prop where
  bel : Below g w W
  hz : g ≤ W.heap.size
  rs : W.heap[g]? = some (.cells cs 33 (0, 0))
  r3 : W.heap[g3]? = some (.cells c1 33 (0, 0))
  r4 : W.heap[g4]? = some (.cells c2 33 (0, 0))
  p1 : Ps ok1 W n c1 s
  p2 : Ps ok2 W n c2 s
  fz : ∀ B, ok1 B → ∀ p, W.frozen? ⟨B, p, none⟩ = false
  ap : ∀ B, ok1 B → ¬ ok2 B ∧ B ≠ g3 ∧ B ≠ g4 ∧ g + 1 ≤ B
theorem own_mk {n g : Nat} {w : World} {cs : Array Value} {s : Sta} {V w1 w2 : World} {g3 g4 lo1 lo2 : Nat} {c1 c2 : Array Value} (hB : Below g w V) (hz : g ≤ V.heap.size) (hR : V.heap[g]? = some (.cells cs 33 (0, 0))) (h3 : V.heap[g3]? = some (.cells zS 33 (0, 0))) (h4 : V.heap[g4]? = some (.cells zS 33 (0, 0))) (ne : g3 ≠ g4)
    (P1 : Ps (okk lo1 w1) V n c1 s) (T1 : Below w1.heap.size w1 V) (P2 : Ps (okk lo2 w2) V n c2 s) (T2 : Below w2.heap.size w2 V) (O12 : w1.heap.size ≤ lo2) (O31 : g3 < lo1 ∨ w1.heap.size ≤ g3) (O41 : g4 < lo1 ∨ w1.heap.size ≤ g4) (O32 : g3 < lo2 ∨ w2.heap.size ≤ g3) (O42 : g4 < lo2 ∨ w2.heap.size ≤ g4) (L1 : g + 1 ≤ lo1) (hg3 : g < g3) (hg4 : g < g4) :
    Own2 n g w cs s ((V.setRow g3 c1).setRow g4 c2) g3 g4 c1 c2 (okk lo1 w1) (okk lo2 w2) := by
  have k3 := setRow_kb V g3 c1
  have k4 := setRow_kb (V.setRow g3 c1) g4 c2
  have hs3 : (V.setRow g3 c1).heap.size = V.heap.size := setRow_size _ _ _
  have s1 := T1.size
  have s2 := T2.size
  have blk : ∀ B, B < V.heap.size → B ≠ g3 → B ≠ g4 → ((V.setRow g3 c1).setRow g4 c2).heap[B]? = V.heap[B]? := fun B hB a b => (ne_blk k4 (by rw [hs3]; exact hB) b).trans (ne_blk k3 hB a)
  have n1 : ∀ B, okk lo1 w1 B → B ≠ g3 ∧ B ≠ g4 := fun B h => ⟨by have := h.1.1; have := h.2; omega, by have := h.1.1; have := h.2; omega⟩
  have n2 : ∀ B, okk lo2 w2 B → B ≠ g3 ∧ B ≠ g4 := fun B h => ⟨by have := h.1.1; have := h.2; omega, by have := h.1.1; have := h.2; omega⟩
  exact { bel := below_setRow (below_setRow hB (Nat.le_of_lt hg3) _) (Nat.le_of_lt hg4) _, hz := by rw [setRow_size, setRow_size]; exact hz,
          rs := (blk g (Array.getElem?_eq_some_iff.1 hR).1 (Nat.ne_of_lt hg3) (Nat.ne_of_lt hg4)).trans hR,
          r3 := (ne_blk k4 (by rw [hs3]; exact (Array.getElem?_eq_some_iff.1 h3).1) ne).trans (setRow_heap V g3 zS c1 33 (0, 0) h3),
          r4 := setRow_heap _ g4 zS c2 33 (0, 0) ((ne_blk k3 (Array.getElem?_eq_some_iff.1 h4).1 (Ne.symm ne)).trans h4),
          p1 := P1.keep (fun _ _ h => h) fun B hB h => blk B hB (n1 B h).1 (n1 B h).2,
          p2 := P2.keep (fun _ _ h => h) fun B hB h => blk B hB (n2 B h).1 (n2 B h).2,
          fz := fun B h p => (World.frozen?_of_block (w := w1) (a := ⟨B, p, none⟩) ((blk B (by have := h.2; omega) (n1 B h).1 (n1 B h).2).trans (T1.block B h.2))).trans (h.1.2 p),
          ap := fun B h => ⟨fun h' => by have := h'.1.1; have := h.2; omega, (n1 B h).1, (n1 B h).2, by have := h.1.1; omega⟩ }
/-- Of the blocks that are ok numbers may have turned into others; nothing else. -/
structure Turn (ok : Nat → Prop) (W W' : World) : Prop where
  os : W'.os = W.os
  tape : W'.tape = W.tape
  output : W'.output = W.output
  size : W'.heap.size = W.heap.size
  out : ∀ B, ¬ ok B → W'.heap[B]? = W.heap[B]?
  cell : ∀ a v, W.cell? a = some v → W'.cell? a = some v ∨ ∃ x y, v = .int .i64 x ∧ W'.cell? a = some (.int .i64 y)
  fz : ∀ a, W'.frozen? a = W.frozen? a
theorem Turn.refl (ok : Nat → Prop) (W : World) : Turn ok W W := ⟨rfl, rfl, rfl, rfl, fun _ _ => rfl, fun _ _ h => .inl h, fun _ => rfl⟩
theorem Turn.set {ok : Nat → Prop} {W W' : World} (h : Turn ok W W') {B p : Nat} {x : Int} (y : Int) (hB : ok B) (hc : W'.cell? ⟨B, p, none⟩ = some (.int .i64 x)) : Turn ok W (W'.setCell ⟨B, p, none⟩ (.int .i64 y)) := by
  refine ⟨h.os, h.tape, h.output, by rw [← h.size]; simp [World.setCell], fun B' hB' => (Below.heap_setCell _ _ _ _ (fun e => hB' (by rw [e]; exact hB))).trans (h.out B' hB'), fun a v hv => ?_, fun a => (World.frozen?_setCell _ _ _ _).trans (h.fz a)⟩
  by_cases ha : a = ⟨B, p, none⟩
  · subst ha
    have e : (W'.setCell ⟨B, p, none⟩ (.int .i64 y)).cell? ⟨B, p, none⟩ = some (.int .i64 y) := World.cell?_setCell_same _ _ _ hc
    rcases h.cell _ v hv with h1 | ⟨a, b, h1, _⟩
    · rw [hc] at h1
      cases h1
      exact .inr ⟨_, _, rfl, e⟩
    · exact .inr ⟨a, y, h1, e⟩
  · have e : (W'.setCell ⟨B, p, none⟩ (.int .i64 y)).cell? a = W'.cell? a := World.cell?_setCell_other W' _ _ _ (fun e => ha e.symm)
    rw [e]
    exact h.cell a v hv
theorem Turn.int {ok : Nat → Prop} {W W' : World} (h : Turn ok W W') {a : Addr} {x : Int} (hc : W.cell? a = some (.int .i64 x)) : ∃ y, W'.cell? a = some (.int .i64 y) := by
  rcases h.cell a _ hc with h1 | ⟨_, y, _, h1⟩
  · exact ⟨x, h1⟩
  · exact ⟨y, h1⟩
theorem Turn.slice {ok : Nat → Prop} {W W' : World} (h : Turn ok W W') {a : Addr} {l : Option Addr} {m c : Nat} (hc : W.cell? a = some (.slice l m c)) : W'.cell? a = some (.slice l m c) := by
  rcases h.cell a _ hc with h1 | ⟨_, _, h2, _⟩
  · exact h1
  · cases h2
theorem IsP.len {ok : Nat → Prop} {w : World} : ∀ {n : Nat} {k x b : Int} {s : ByteArray} {a : Option Addr} {m c : Nat} {t : Tv}, IsP ok w n (.agg #[.int .i64 k, .int .i64 x, .int .u64 b, .string s, .slice a m c]) t → m ≤ 9223372036854775807
  | 0, _, _, _, _, _, _, _, _, h => h.elim
  | n + 1, k, x, b, s, a, m, c, .mk k' x' b' s' l, ⟨a', c', hv, hf, hr⟩ => by
    simp only [Value.agg.injEq, Array.mk.injEq, List.cons.injEq, and_true, Value.slice.injEq] at hv
    obtain ⟨_, _, _, _, rfl, rfl, rfl⟩ := hv
    exact Nat.le_trans hf.n1 hf.c1
theorem IsP.list {ok : Nat → Prop} {w : World} : ∀ {n : Nat} {k x b : Int} {s : ByteArray} {a : Option Addr} {m c : Nat} {t : Tv}, IsP ok w n (.agg #[.int .i64 k, .int .i64 x, .int .u64 b, .string s, .slice a m c]) t → ∀ i, i < m → ∃ B o z, a = some ⟨B, o, none⟩ ∧ ok B ∧ w.cell? ⟨B, o + i * 5 + 1, none⟩ = some (.int .i64 z)
  | 0, _, _, _, _, _, _, _, _, h => h.elim
  | n + 1, k, x, b, s, a, m, c, .mk k' x' b' s' l, ⟨a', c', hv, hf, hr⟩ => fun i hi => by
    simp only [Value.agg.injEq, Array.mk.injEq, List.cons.injEq, and_true, Value.slice.injEq] at hv
    obtain ⟨_, _, _, _, rfl, rfl, rfl⟩ := hv
    obtain ⟨B, o, c0, c1, c2, c3, c4, ha, hB, h5, hi'⟩ := hr i _ (List.getElem?_eq_getElem hi)
    obtain ⟨_, z, _, _, _, _, _, _, rfl, _, _, _⟩ := hi'.is.shape
    exact ⟨B, o, z, ha, hB, h5.2.1⟩
set_option maxHeartbeats 8000000 in
set_option maxRecDepth 100000 in
theorem own_walk (n : Nat) (cs : Array Value) (s : Sta) (w : World) (h : Rs w n cs s) (sm : SmS n s) : Calls Try.prog 3 #[.agg cs] w fun e w' => e = .returned (.bool true) ∧ Below w.heap.size w w' := by
  obtain ⟨ta, tc, t1, t2⟩ := h.tm
  obtain ⟨ua, uc, us, u1, u2, u3, u4⟩ := h.up
  have hi33 := info33s cs h.size
  have hi33l : (Try.prog.info? 33).map (·.size) = some cs.toList.length := by rw [Array.length_toList]; exact hi33
  have H : Hid (Rs w n cs s) := h
  have r0 : (w.alloc (.cells cs 33)).heap[w.heap.size]? = some (.cells cs 33 (0, 0)) := heap_alloc_new w _
  by_cases hfew : s.tm.length ≤ 60 ∧ s.up.length ≤ 60
  case neg =>
    have KF := fun W => few_no cs ta ua s.tm.length tc s.up.length uc W t1 u1 hfew
    clear hfew t2 u2 u3 u4 h sm
    go_enter Try.func3, Try.ntmps3
    go_wp2_with (refine wpList_load_row rfl 33 _ rfl w.heap.size rfl 33 cs (0, 0) _ r0 Try.underlying33 rfl hi33 ?_)
    refine (KF _).mono ?_
    rintro e w1 ⟨rfl, hb1⟩
    have b1 : Hid (Below w.heap.size w w1) := bel2 (bel1 _ _) hb1
    clear hb1 KF
    go_wp2_with fail
    refine (awake_calls _).mono ?_
    rintro e w2 ⟨rfl, hb2⟩
    have b2 : Hid (Below w.heap.size w w2) := bel2 b1.out hb2
    clear hb2
    go_wp2_with fail
    go_ret
    exact ⟨rfl, b2.out⟩
  have KF := fun W => few_yes cs ta ua s.tm.length tc s.up.length uc W t1 u1 (by omega) (by omega)
  have KC : Hid (∀ W, Below w.heap.size w W → Calls Try.prog 6 #[.agg cs] W (ClS n W s)) := fun W hB => sclone_calls n cs s W (h.below hB) sm (by omega) (by omega)
  have KS : Hid (∀ (ds : Array Value) W, Rs W n ds s → Rs W n cs s → Calls Try.prog 7 #[.agg ds, .agg cs] W fun e w' => e = .returned (.bool true) ∧ Below W.heap.size W w') := fun ds W a b => ssame_calls n ds cs s W a b (by omega) (by omega)
  have HF : Hid (s.tm.length ≤ 60 ∧ s.up.length ≤ 60) := hfew
  clear hfew t1 t2 u1 u2 u3 u4 h sm
  go_enter Try.func3, Try.ntmps3
  go_wp2_with (refine wpList_load_row rfl 33 _ rfl w.heap.size rfl 33 cs (0, 0) _ r0 Try.underlying33 rfl hi33 ?_)
  refine (KF _).mono ?_
  rintro e W0 ⟨rfl, hb1⟩
  have HBW0 : Hid (Below w.heap.size w W0) := bel2 (bel1 _ _) hb1
  have HRW0 : Hid (W0.heap[w.heap.size]? = some (.cells cs 33 (0, 0))) := row_below hb1 r0
  have HZW0 : Hid (w.heap.size ≤ W0.heap.size) := HBW0.out.size
  clear hb1 KF r0
  go_upto_region 3 with fail
  generalize hG : w.heap.size = g at *
  have HG : Hid (w.heap.size = g) := hG
  clear hG
  go_cut [3, 4] (fun s3 s4 wc => ∃ g3 g4 c1 c2 ok1 ok2, s3 = .pointer (some ⟨g3, 0, none⟩) ∧ s4 = .pointer (some ⟨g4, 0, none⟩) ∧ Hid (Own2 n g w cs s wc g3 g4 c1 c2 ok1 ok2))
  case first =>
    refine wp_region_held_drew (S := (fun w' => w'.rangeAt g 0 cs.toList)) (by kernel_rfl) (lies_range (Lies.row HRW0.out)) (fun hHeld => ?_)
    change wpAnyH _ _ _ _ _ _ _ _ (World.drew W0)
    have HBV : Hid (Below g w (World.drew W0)) := HBW0.out.drew
    have HRV : Hid ((World.drew W0).heap[g]? = some (.cells cs 33 (0, 0))) := HRW0.out
    have HZV : Hid (g ≤ (World.drew W0).heap.size) := HZW0.out
    generalize World.drew W0 = V at HBV HRV HZV hHeld ⊢
    refine wpAnyH_take (i := 0) (oi := { dst := some 12, op := Go.Op.load 33 (Go.Operand.tmp 1), type := 33, pos := "law.go:80", after := #[], guard := none }) (v := _) rfl (by kernel_rfl) (by kernel_rfl) (by kernel_rfl) (fun _ _ _ h => h) (yieldsIf_load_mid rfl 33 _ rfl g 0 rfl cs.toList _ (fun w h => h) Try.underlying33 rfl hi33l) hHeld ?_
    simp only [Act.put, List.setIfInBounds_toArray, List.set_cons_zero, List.set_cons_succ]
    refine wpAnyH_take (i := 2) (oi := { dst := some 14, op := Go.Op.load 33 (Go.Operand.tmp 1), type := 33, pos := "law.go:80", after := #[], guard := none }) (v := _) rfl (by kernel_rfl) (by kernel_rfl) (by kernel_rfl) (fun _ _ _ h => h) (yieldsIf_load_mid rfl 33 _ rfl g 0 rfl cs.toList _ (fun w h => h) Try.underlying33 rfl hi33l) hHeld ?_
    simp only [Act.put, List.setIfInBounds_toArray, List.set_cons_zero, List.set_cons_succ]
    refine wpAnyH_ready (rs := [1, 4, 5]) (by kernel_rfl) (by simp) ?_
    refine (AllReadyH.cons (o := { dst := some 13, op := Go.Op.call { callee := Go.Callee.value (Go.Operand.func 6), args := #[Go.Operand.tmp 12], argTypes := #[33] }, type := 33, pos := "law.go:80", after := #[{ on := 0, ground := Go.Ground.data }], guard := none }) rfl (fun K hK => ?_) (AllReadyH.cons (o := { dst := some 3, op := Go.Op.alloc 33, type := 0, pos := "law.go:80", after := #[], guard := none }) rfl (fun K hK => ?_) (AllReadyH.cons (o := { dst := some 4, op := Go.Op.alloc 33, type := 0, pos := "law.go:80", after := #[], guard := none }) rfl (fun K hK => ?_) AllReadyH.nil)))
    · go_simp
      refine (KC.out V HBV.out).mono ?_
      rintro e w1 ⟨⟨c2, rfl, h1⟩, hb⟩
      have HBw1 : Hid (Below g w w1) := blt HBV.out HZV.out hb
      have HZw1 : Hid (g ≤ w1.heap.size) := Nat.le_trans HZV.out (Below.size hb)
      have HRw1 : Hid (w1.heap[g]? = some (.cells cs 33 (0, 0))) := row_below hb HRV.out
      have P1w1 : Hid (Ps (okk V.heap.size w1) w1 n c2 s) := h1.keep (fun B hB hf => ⟨hf, hB⟩) (fun _ _ _ => rfl)
      have T1w1 : Hid (Below w1.heap.size w1 w1) := Below.refl _ _
      have Xc2 : Hid (c2.size = 31 ∧ ∀ (j : Nat) (v : Value), c2[j]? = some v → v.oneCell' = true) := ⟨h1.size, h1.one⟩
      have L1 : Hid (g + 1 ≤ V.heap.size) := (Array.getElem?_eq_some_iff.1 HRV.out).1
      clear h1 hb hHeld
      refine hK.out _ _ (lies_range (Lies.row HRw1.out)) (fun hHeld => ?_)
      clear hK K
      refine wpAnyH_ready (rs := [3, 4, 5]) (by kernel_rfl) (by simp) ?_
      refine (AllReadyH.cons (o := { dst := some 15, op := Go.Op.call { callee := Go.Callee.value (Go.Operand.func 6), args := #[Go.Operand.tmp 14], argTypes := #[33] }, type := 33, pos := "law.go:80", after := #[{ on := 2, ground := Go.Ground.data }, { on := 1, ground := Go.Ground.chain }], guard := none }) rfl (fun K hK => ?_) (AllReadyH.cons (o := { dst := some 3, op := Go.Op.alloc 33, type := 0, pos := "law.go:80", after := #[], guard := none }) rfl (fun K hK => ?_) (AllReadyH.cons (o := { dst := some 4, op := Go.Op.alloc 33, type := 0, pos := "law.go:80", after := #[], guard := none }) rfl (fun K hK => ?_) AllReadyH.nil)))
      · go_simp
        refine (KC.out w1 HBw1.out).mono ?_
        rintro e w3 ⟨⟨c4, rfl, h1⟩, hb⟩
        have HBw3 : Hid (Below g w w3) := blt HBw1.out HZw1.out hb
        have HZw3 : Hid (g ≤ w3.heap.size) := Nat.le_trans HZw1.out (Below.size hb)
        have HRw3 : Hid (w3.heap[g]? = some (.cells cs 33 (0, 0))) := row_below hb HRw1.out
        have P1w3 : Hid (Ps (okk V.heap.size w1) w3 n c2 s) := P1w1.out.later T1w1.out.size hb
        have T1w3 : Hid (Below w1.heap.size w1 w3) := bel2 T1w1.out hb
        have P2w3 : Hid (Ps (okk w1.heap.size w3) w3 n c4 s) := h1.keep (fun B hB hf => ⟨hf, hB⟩) (fun _ _ _ => rfl)
        have T2w3 : Hid (Below w3.heap.size w3 w3) := Below.refl _ _
        have Xc4 : Hid (c4.size = 31 ∧ ∀ (j : Nat) (v : Value), c4[j]? = some v → v.oneCell' = true) := ⟨h1.size, h1.one⟩
        have O12 : Hid (w1.heap.size ≤ w1.heap.size) := T1w1.out.size
        clear h1 hb hHeld
        refine hK.out _ _ (lies_range (Lies.row HRw3.out)) (fun hHeld => ?_)
        clear hK K
        refine wpAnyH_ready (rs := [4, 5]) (by kernel_rfl) (by simp) ?_
        refine (AllReadyH.cons (o := { dst := some 3, op := Go.Op.alloc 33, type := 0, pos := "law.go:80", after := #[], guard := none }) rfl (fun K hK => ?_) (AllReadyH.cons (o := { dst := some 4, op := Go.Op.alloc 33, type := 0, pos := "law.go:80", after := #[], guard := none }) rfl (fun K hK => ?_) AllReadyH.nil))
        · go_simp
          refine hK.out _ _ (lies_range (Lies.row (row_below (bel1 w3 _) HRw3.out))) (fun hHeld => ?_)
          clear hK K hHeld
          change wpAnyH _ _ _ _ _ _ _ _ (w3.alloc (.cells zS 33))
          have hb := bel1 w3 (.cells zS 33)
          have nn : (w3.alloc (.cells zS 33)).heap[w3.heap.size]? = some (.cells zS 33 (0, 0)) := heap_alloc_new w3 _
          generalize w3.alloc (.cells zS 33) = V5 at hb nn ⊢
          have HBV5 : Hid (Below g w V5) := blt HBw3.out HZw3.out hb
          have HZV5 : Hid (g ≤ V5.heap.size) := Nat.le_trans HZw3.out (Below.size hb)
          have HRV5 : Hid (V5.heap[g]? = some (.cells cs 33 (0, 0))) := row_below hb HRw3.out
          have P1V5 : Hid (Ps (okk V.heap.size w1) V5 n c2 s) := P1w3.out.later T1w3.out.size hb
          have T1V5 : Hid (Below w1.heap.size w1 V5) := bel2 T1w3.out hb
          have P2V5 : Hid (Ps (okk w1.heap.size w3) V5 n c4 s) := P2w3.out.later T2w3.out.size hb
          have T2V5 : Hid (Below w3.heap.size w3 V5) := bel2 T2w3.out hb
          have N3V5 : Hid (V5.heap[w3.heap.size]? = some (.cells zS 33 (0, 0))) := nn
          have L3 : Hid (g < w3.heap.size) := (Array.getElem?_eq_some_iff.1 HRw3.out).1
          have O31 : Hid (w3.heap.size < V.heap.size ∨ w1.heap.size ≤ w3.heap.size) := .inr T1w3.out.size
          have O32 : Hid (w3.heap.size < w1.heap.size ∨ w3.heap.size ≤ w3.heap.size) := .inr T2w3.out.size
          have hHeld : (fun w' => w'.rangeAt g 0 cs.toList) V5 := lies_range (Lies.row HRV5.out)
          clear hb nn
          refine wpAnyH_ready (rs := [5]) (by kernel_rfl) (by simp) ?_
          refine (AllReadyH.cons (o := { dst := some 4, op := Go.Op.alloc 33, type := 0, pos := "law.go:80", after := #[], guard := none }) rfl (fun K hK => ?_) AllReadyH.nil)
          · go_simp
            refine hK.out _ _ (lies_range (Lies.row (row_below (bel1 V5 _) HRV5.out))) (fun hHeld => ?_)
            clear hK K hHeld
            change wpAnyH _ _ _ _ _ _ _ _ (V5.alloc (.cells zS 33))
            have hb := bel1 V5 (.cells zS 33)
            have nn : (V5.alloc (.cells zS 33)).heap[V5.heap.size]? = some (.cells zS 33 (0, 0)) := heap_alloc_new V5 _
            generalize V5.alloc (.cells zS 33) = V6 at hb nn ⊢
            have HBV6 : Hid (Below g w V6) := blt HBV5.out HZV5.out hb
            have HZV6 : Hid (g ≤ V6.heap.size) := Nat.le_trans HZV5.out (Below.size hb)
            have HRV6 : Hid (V6.heap[g]? = some (.cells cs 33 (0, 0))) := row_below hb HRV5.out
            have N3V6 : Hid (V6.heap[w3.heap.size]? = some (.cells zS 33 (0, 0))) := row_below hb N3V5.out
            have P1V6 : Hid (Ps (okk V.heap.size w1) V6 n c2 s) := P1V5.out.later T1V5.out.size hb
            have T1V6 : Hid (Below w1.heap.size w1 V6) := bel2 T1V5.out hb
            have P2V6 : Hid (Ps (okk w1.heap.size w3) V6 n c4 s) := P2V5.out.later T2V5.out.size hb
            have T2V6 : Hid (Below w3.heap.size w3 V6) := bel2 T2V5.out hb
            have N4V6 : Hid (V6.heap[V5.heap.size]? = some (.cells zS 33 (0, 0))) := nn
            have L4 : Hid (g < V5.heap.size) := (Array.getElem?_eq_some_iff.1 HRV5.out).1
            have NE : Hid (w3.heap.size ≠ V5.heap.size) := Nat.ne_of_lt (Array.getElem?_eq_some_iff.1 N3V5.out).1
            have O41 : Hid (V5.heap.size < V.heap.size ∨ w1.heap.size ≤ V5.heap.size) := .inr T1V5.out.size
            have O42 : Hid (V5.heap.size < w1.heap.size ∨ w3.heap.size ≤ V5.heap.size) := .inr T2V5.out.size
            have hHeld : (fun w' => w'.rangeAt g 0 cs.toList) V6 := lies_range (Lies.row HRV6.out)
            clear hb nn
            have hne : (w3.heap.size) ≠ (V5.heap.size) := NE.out
            have hg3 : g ≠ (w3.heap.size) := Nat.ne_of_lt L3.out
            have hg4 : g ≠ (V5.heap.size) := Nat.ne_of_lt L4.out
            refine wpAnyH_ready (rs := [6]) (by kernel_rfl) (by simp) ?_
            refine AllReadyH.cons (o := { dst := none, op := Go.Op.store 33 (Go.Operand.tmp 3) (Go.Operand.tmp 13), type := 0, pos := "law.go:80", after := #[{ on := 4, ground := Go.Ground.data }, { on := 1, ground := Go.Ground.data }, { on := 3, ground := Go.Ground.chain }, { on := 0, ground := Go.Ground.phase }, { on := 1, ground := Go.Ground.phase }, { on := 2, ground := Go.Ground.textOnly Go.Departure.lateStores }, { on := 3, ground := Go.Ground.textOnly Go.Departure.lateStoresUnsure }, { on := 4, ground := Go.Ground.phase }, { on := 5, ground := Go.Ground.phase }], guard := none }) rfl (fun K hK => ?_) AllReadyH.nil
            rw [if_pos (by rfl)]
            refine wp_store_row 33 _ _ rfl (w3.heap.size) c2 rfl rfl 33 zS N3V6.out (info33s c2 Xc2.out.1) Xc2.out.1.symm (all_one Xc2.out.2) ?_
            refine hK.out _ _ (lies_range (Lies.row (show (V6.setRow (w3.heap.size) c2).heap[g]? = some (.cells cs 33 (0, 0)) from (setRow_other V6 (w3.heap.size) g c2 hg3).trans HRV6.out))) (fun hHeld => ?_)
            clear hK K
            simp only [Act.put]
            refine wpAnyH_ready (rs := [7]) (by kernel_rfl) (by simp) ?_
            refine AllReadyH.cons (o := { dst := none, op := Go.Op.store 33 (Go.Operand.tmp 4) (Go.Operand.tmp 15), type := 0, pos := "law.go:80", after := #[{ on := 5, ground := Go.Ground.data }, { on := 3, ground := Go.Ground.data }, { on := 6, ground := Go.Ground.chain }, { on := 0, ground := Go.Ground.phase }, { on := 1, ground := Go.Ground.phase }, { on := 2, ground := Go.Ground.phase }, { on := 3, ground := Go.Ground.phase }, { on := 4, ground := Go.Ground.phase }, { on := 5, ground := Go.Ground.phase }, { on := 6, ground := Go.Ground.phase }], guard := none }) rfl (fun K hK => ?_) AllReadyH.nil
            rw [if_pos (by rfl)]
            refine wp_store_row 33 _ _ rfl (V5.heap.size) c4 rfl rfl 33 zS ((setRow_other V6 (w3.heap.size) (V5.heap.size) c2 (Ne.symm hne)).trans N4V6.out) (info33s c4 Xc4.out.1) Xc4.out.1.symm (all_one Xc4.out.2) ?_
            refine hK.out _ _ (lies_range (Lies.row (show ((V6.setRow (w3.heap.size) c2).setRow (V5.heap.size) c4).heap[g]? = some (.cells cs 33 (0, 0)) from (setRow_other (V6.setRow (w3.heap.size) c2) (V5.heap.size) g c4 hg4).trans ((setRow_other V6 (w3.heap.size) g c2 hg3).trans HRV6.out)))) (fun hHeld => ?_)
            clear hK K
            simp only [Act.put]
            refine wpAnyH_done (by kernel_rfl) ?_ _
            go_wp2_with fail
            go_meet
            case rel => exact ⟨w3.heap.size, V5.heap.size, c2, c4, okk V.heap.size w1, okk w1.heap.size w3, rfl, rfl, own_mk HBV6.out HZV6.out HRV6.out N3V6.out N4V6.out hne P1V6.out T1V6.out P2V6.out T2V6.out O12.out O31.out O41.out O32.out O42.out L1.out L3.out L4.out⟩
        · go_simp
          refine hK.out _ _ (lies_range (Lies.row (row_below (bel1 w3 _) HRw3.out))) (fun hHeld => ?_)
          clear hK K hHeld
          change wpAnyH _ _ _ _ _ _ _ _ (w3.alloc (.cells zS 33))
          have hb := bel1 w3 (.cells zS 33)
          have nn : (w3.alloc (.cells zS 33)).heap[w3.heap.size]? = some (.cells zS 33 (0, 0)) := heap_alloc_new w3 _
          generalize w3.alloc (.cells zS 33) = V7 at hb nn ⊢
          have HBV7 : Hid (Below g w V7) := blt HBw3.out HZw3.out hb
          have HZV7 : Hid (g ≤ V7.heap.size) := Nat.le_trans HZw3.out (Below.size hb)
          have HRV7 : Hid (V7.heap[g]? = some (.cells cs 33 (0, 0))) := row_below hb HRw3.out
          have P1V7 : Hid (Ps (okk V.heap.size w1) V7 n c2 s) := P1w3.out.later T1w3.out.size hb
          have T1V7 : Hid (Below w1.heap.size w1 V7) := bel2 T1w3.out hb
          have P2V7 : Hid (Ps (okk w1.heap.size w3) V7 n c4 s) := P2w3.out.later T2w3.out.size hb
          have T2V7 : Hid (Below w3.heap.size w3 V7) := bel2 T2w3.out hb
          have N4V7 : Hid (V7.heap[w3.heap.size]? = some (.cells zS 33 (0, 0))) := nn
          have L4 : Hid (g < w3.heap.size) := (Array.getElem?_eq_some_iff.1 HRw3.out).1
          have O41 : Hid (w3.heap.size < V.heap.size ∨ w1.heap.size ≤ w3.heap.size) := .inr T1w3.out.size
          have O42 : Hid (w3.heap.size < w1.heap.size ∨ w3.heap.size ≤ w3.heap.size) := .inr T2w3.out.size
          have hHeld : (fun w' => w'.rangeAt g 0 cs.toList) V7 := lies_range (Lies.row HRV7.out)
          clear hb nn
          refine wpAnyH_ready (rs := [4]) (by kernel_rfl) (by simp) ?_
          refine (AllReadyH.cons (o := { dst := some 3, op := Go.Op.alloc 33, type := 0, pos := "law.go:80", after := #[], guard := none }) rfl (fun K hK => ?_) AllReadyH.nil)
          · go_simp
            refine hK.out _ _ (lies_range (Lies.row (row_below (bel1 V7 _) HRV7.out))) (fun hHeld => ?_)
            clear hK K hHeld
            change wpAnyH _ _ _ _ _ _ _ _ (V7.alloc (.cells zS 33))
            have hb := bel1 V7 (.cells zS 33)
            have nn : (V7.alloc (.cells zS 33)).heap[V7.heap.size]? = some (.cells zS 33 (0, 0)) := heap_alloc_new V7 _
            generalize V7.alloc (.cells zS 33) = V8 at hb nn ⊢
            have HBV8 : Hid (Below g w V8) := blt HBV7.out HZV7.out hb
            have HZV8 : Hid (g ≤ V8.heap.size) := Nat.le_trans HZV7.out (Below.size hb)
            have HRV8 : Hid (V8.heap[g]? = some (.cells cs 33 (0, 0))) := row_below hb HRV7.out
            have N4V8 : Hid (V8.heap[w3.heap.size]? = some (.cells zS 33 (0, 0))) := row_below hb N4V7.out
            have P1V8 : Hid (Ps (okk V.heap.size w1) V8 n c2 s) := P1V7.out.later T1V7.out.size hb
            have T1V8 : Hid (Below w1.heap.size w1 V8) := bel2 T1V7.out hb
            have P2V8 : Hid (Ps (okk w1.heap.size w3) V8 n c4 s) := P2V7.out.later T2V7.out.size hb
            have T2V8 : Hid (Below w3.heap.size w3 V8) := bel2 T2V7.out hb
            have N3V8 : Hid (V8.heap[V7.heap.size]? = some (.cells zS 33 (0, 0))) := nn
            have L3 : Hid (g < V7.heap.size) := (Array.getElem?_eq_some_iff.1 HRV7.out).1
            have NE : Hid (V7.heap.size ≠ w3.heap.size) := Nat.ne_of_gt (Array.getElem?_eq_some_iff.1 N4V7.out).1
            have O31 : Hid (V7.heap.size < V.heap.size ∨ w1.heap.size ≤ V7.heap.size) := .inr T1V7.out.size
            have O32 : Hid (V7.heap.size < w1.heap.size ∨ w3.heap.size ≤ V7.heap.size) := .inr T2V7.out.size
            have hHeld : (fun w' => w'.rangeAt g 0 cs.toList) V8 := lies_range (Lies.row HRV8.out)
            clear hb nn
            have hne : (V7.heap.size) ≠ (w3.heap.size) := NE.out
            have hg3 : g ≠ (V7.heap.size) := Nat.ne_of_lt L3.out
            have hg4 : g ≠ (w3.heap.size) := Nat.ne_of_lt L4.out
            refine wpAnyH_ready (rs := [6]) (by kernel_rfl) (by simp) ?_
            refine AllReadyH.cons (o := { dst := none, op := Go.Op.store 33 (Go.Operand.tmp 3) (Go.Operand.tmp 13), type := 0, pos := "law.go:80", after := #[{ on := 4, ground := Go.Ground.data }, { on := 1, ground := Go.Ground.data }, { on := 3, ground := Go.Ground.chain }, { on := 0, ground := Go.Ground.phase }, { on := 1, ground := Go.Ground.phase }, { on := 2, ground := Go.Ground.textOnly Go.Departure.lateStores }, { on := 3, ground := Go.Ground.textOnly Go.Departure.lateStoresUnsure }, { on := 4, ground := Go.Ground.phase }, { on := 5, ground := Go.Ground.phase }], guard := none }) rfl (fun K hK => ?_) AllReadyH.nil
            rw [if_pos (by rfl)]
            refine wp_store_row 33 _ _ rfl (V7.heap.size) c2 rfl rfl 33 zS N3V8.out (info33s c2 Xc2.out.1) Xc2.out.1.symm (all_one Xc2.out.2) ?_
            refine hK.out _ _ (lies_range (Lies.row (show (V8.setRow (V7.heap.size) c2).heap[g]? = some (.cells cs 33 (0, 0)) from (setRow_other V8 (V7.heap.size) g c2 hg3).trans HRV8.out))) (fun hHeld => ?_)
            clear hK K
            simp only [Act.put]
            refine wpAnyH_ready (rs := [7]) (by kernel_rfl) (by simp) ?_
            refine AllReadyH.cons (o := { dst := none, op := Go.Op.store 33 (Go.Operand.tmp 4) (Go.Operand.tmp 15), type := 0, pos := "law.go:80", after := #[{ on := 5, ground := Go.Ground.data }, { on := 3, ground := Go.Ground.data }, { on := 6, ground := Go.Ground.chain }, { on := 0, ground := Go.Ground.phase }, { on := 1, ground := Go.Ground.phase }, { on := 2, ground := Go.Ground.phase }, { on := 3, ground := Go.Ground.phase }, { on := 4, ground := Go.Ground.phase }, { on := 5, ground := Go.Ground.phase }, { on := 6, ground := Go.Ground.phase }], guard := none }) rfl (fun K hK => ?_) AllReadyH.nil
            rw [if_pos (by rfl)]
            refine wp_store_row 33 _ _ rfl (w3.heap.size) c4 rfl rfl 33 zS ((setRow_other V8 (V7.heap.size) (w3.heap.size) c2 (Ne.symm hne)).trans N4V8.out) (info33s c4 Xc4.out.1) Xc4.out.1.symm (all_one Xc4.out.2) ?_
            refine hK.out _ _ (lies_range (Lies.row (show ((V8.setRow (V7.heap.size) c2).setRow (w3.heap.size) c4).heap[g]? = some (.cells cs 33 (0, 0)) from (setRow_other (V8.setRow (V7.heap.size) c2) (w3.heap.size) g c4 hg4).trans ((setRow_other V8 (V7.heap.size) g c2 hg3).trans HRV8.out)))) (fun hHeld => ?_)
            clear hK K
            simp only [Act.put]
            refine wpAnyH_done (by kernel_rfl) ?_ _
            go_wp2_with fail
            go_meet
            case rel => exact ⟨V7.heap.size, w3.heap.size, c2, c4, okk V.heap.size w1, okk w1.heap.size w3, rfl, rfl, own_mk HBV8.out HZV8.out HRV8.out N3V8.out N4V8.out hne P1V8.out T1V8.out P2V8.out T2V8.out O12.out O31.out O41.out O32.out O42.out L1.out L3.out L4.out⟩
      · go_simp
        refine hK.out _ _ (lies_range (Lies.row (row_below (bel1 w1 _) HRw1.out))) (fun hHeld => ?_)
        clear hK K hHeld
        change wpAnyH _ _ _ _ _ _ _ _ (w1.alloc (.cells zS 33))
        have hb := bel1 w1 (.cells zS 33)
        have nn : (w1.alloc (.cells zS 33)).heap[w1.heap.size]? = some (.cells zS 33 (0, 0)) := heap_alloc_new w1 _
        generalize w1.alloc (.cells zS 33) = V9 at hb nn ⊢
        have HBV9 : Hid (Below g w V9) := blt HBw1.out HZw1.out hb
        have HZV9 : Hid (g ≤ V9.heap.size) := Nat.le_trans HZw1.out (Below.size hb)
        have HRV9 : Hid (V9.heap[g]? = some (.cells cs 33 (0, 0))) := row_below hb HRw1.out
        have P1V9 : Hid (Ps (okk V.heap.size w1) V9 n c2 s) := P1w1.out.later T1w1.out.size hb
        have T1V9 : Hid (Below w1.heap.size w1 V9) := bel2 T1w1.out hb
        have N3V9 : Hid (V9.heap[w1.heap.size]? = some (.cells zS 33 (0, 0))) := nn
        have L3 : Hid (g < w1.heap.size) := (Array.getElem?_eq_some_iff.1 HRw1.out).1
        have O31 : Hid (w1.heap.size < V.heap.size ∨ w1.heap.size ≤ w1.heap.size) := .inr T1w1.out.size
        have hHeld : (fun w' => w'.rangeAt g 0 cs.toList) V9 := lies_range (Lies.row HRV9.out)
        clear hb nn
        refine wpAnyH_ready (rs := [3, 5]) (by kernel_rfl) (by simp) ?_
        refine (AllReadyH.cons (o := { dst := some 15, op := Go.Op.call { callee := Go.Callee.value (Go.Operand.func 6), args := #[Go.Operand.tmp 14], argTypes := #[33] }, type := 33, pos := "law.go:80", after := #[{ on := 2, ground := Go.Ground.data }, { on := 1, ground := Go.Ground.chain }], guard := none }) rfl (fun K hK => ?_) (AllReadyH.cons (o := { dst := some 4, op := Go.Op.alloc 33, type := 0, pos := "law.go:80", after := #[], guard := none }) rfl (fun K hK => ?_) AllReadyH.nil))
        · go_simp
          refine (KC.out V9 HBV9.out).mono ?_
          rintro e w10 ⟨⟨c11, rfl, h1⟩, hb⟩
          have HBw10 : Hid (Below g w w10) := blt HBV9.out HZV9.out hb
          have HZw10 : Hid (g ≤ w10.heap.size) := Nat.le_trans HZV9.out (Below.size hb)
          have HRw10 : Hid (w10.heap[g]? = some (.cells cs 33 (0, 0))) := row_below hb HRV9.out
          have N3w10 : Hid (w10.heap[w1.heap.size]? = some (.cells zS 33 (0, 0))) := row_below hb N3V9.out
          have P1w10 : Hid (Ps (okk V.heap.size w1) w10 n c2 s) := P1V9.out.later T1V9.out.size hb
          have T1w10 : Hid (Below w1.heap.size w1 w10) := bel2 T1V9.out hb
          have P2w10 : Hid (Ps (okk V9.heap.size w10) w10 n c11 s) := h1.keep (fun B hB hf => ⟨hf, hB⟩) (fun _ _ _ => rfl)
          have T2w10 : Hid (Below w10.heap.size w10 w10) := Below.refl _ _
          have Xc11 : Hid (c11.size = 31 ∧ ∀ (j : Nat) (v : Value), c11[j]? = some v → v.oneCell' = true) := ⟨h1.size, h1.one⟩
          have O12 : Hid (w1.heap.size ≤ V9.heap.size) := T1V9.out.size
          have O32 : Hid ((w1.heap.size) < V9.heap.size ∨ w10.heap.size ≤ (w1.heap.size)) := .inl (Array.getElem?_eq_some_iff.1 N3V9.out).1
          clear h1 hb hHeld
          refine hK.out _ _ (lies_range (Lies.row HRw10.out)) (fun hHeld => ?_)
          clear hK K
          refine wpAnyH_ready (rs := [5]) (by kernel_rfl) (by simp) ?_
          refine (AllReadyH.cons (o := { dst := some 4, op := Go.Op.alloc 33, type := 0, pos := "law.go:80", after := #[], guard := none }) rfl (fun K hK => ?_) AllReadyH.nil)
          · go_simp
            refine hK.out _ _ (lies_range (Lies.row (row_below (bel1 w10 _) HRw10.out))) (fun hHeld => ?_)
            clear hK K hHeld
            change wpAnyH _ _ _ _ _ _ _ _ (w10.alloc (.cells zS 33))
            have hb := bel1 w10 (.cells zS 33)
            have nn : (w10.alloc (.cells zS 33)).heap[w10.heap.size]? = some (.cells zS 33 (0, 0)) := heap_alloc_new w10 _
            generalize w10.alloc (.cells zS 33) = V12 at hb nn ⊢
            have HBV12 : Hid (Below g w V12) := blt HBw10.out HZw10.out hb
            have HZV12 : Hid (g ≤ V12.heap.size) := Nat.le_trans HZw10.out (Below.size hb)
            have HRV12 : Hid (V12.heap[g]? = some (.cells cs 33 (0, 0))) := row_below hb HRw10.out
            have N3V12 : Hid (V12.heap[w1.heap.size]? = some (.cells zS 33 (0, 0))) := row_below hb N3w10.out
            have P1V12 : Hid (Ps (okk V.heap.size w1) V12 n c2 s) := P1w10.out.later T1w10.out.size hb
            have T1V12 : Hid (Below w1.heap.size w1 V12) := bel2 T1w10.out hb
            have P2V12 : Hid (Ps (okk V9.heap.size w10) V12 n c11 s) := P2w10.out.later T2w10.out.size hb
            have T2V12 : Hid (Below w10.heap.size w10 V12) := bel2 T2w10.out hb
            have N4V12 : Hid (V12.heap[w10.heap.size]? = some (.cells zS 33 (0, 0))) := nn
            have L4 : Hid (g < w10.heap.size) := (Array.getElem?_eq_some_iff.1 HRw10.out).1
            have NE : Hid (w1.heap.size ≠ w10.heap.size) := Nat.ne_of_lt (Array.getElem?_eq_some_iff.1 N3w10.out).1
            have O41 : Hid (w10.heap.size < V.heap.size ∨ w1.heap.size ≤ w10.heap.size) := .inr T1w10.out.size
            have O42 : Hid (w10.heap.size < V9.heap.size ∨ w10.heap.size ≤ w10.heap.size) := .inr T2w10.out.size
            have hHeld : (fun w' => w'.rangeAt g 0 cs.toList) V12 := lies_range (Lies.row HRV12.out)
            clear hb nn
            have hne : (w1.heap.size) ≠ (w10.heap.size) := NE.out
            have hg3 : g ≠ (w1.heap.size) := Nat.ne_of_lt L3.out
            have hg4 : g ≠ (w10.heap.size) := Nat.ne_of_lt L4.out
            refine wpAnyH_ready (rs := [6]) (by kernel_rfl) (by simp) ?_
            refine AllReadyH.cons (o := { dst := none, op := Go.Op.store 33 (Go.Operand.tmp 3) (Go.Operand.tmp 13), type := 0, pos := "law.go:80", after := #[{ on := 4, ground := Go.Ground.data }, { on := 1, ground := Go.Ground.data }, { on := 3, ground := Go.Ground.chain }, { on := 0, ground := Go.Ground.phase }, { on := 1, ground := Go.Ground.phase }, { on := 2, ground := Go.Ground.textOnly Go.Departure.lateStores }, { on := 3, ground := Go.Ground.textOnly Go.Departure.lateStoresUnsure }, { on := 4, ground := Go.Ground.phase }, { on := 5, ground := Go.Ground.phase }], guard := none }) rfl (fun K hK => ?_) AllReadyH.nil
            rw [if_pos (by rfl)]
            refine wp_store_row 33 _ _ rfl (w1.heap.size) c2 rfl rfl 33 zS N3V12.out (info33s c2 Xc2.out.1) Xc2.out.1.symm (all_one Xc2.out.2) ?_
            refine hK.out _ _ (lies_range (Lies.row (show (V12.setRow (w1.heap.size) c2).heap[g]? = some (.cells cs 33 (0, 0)) from (setRow_other V12 (w1.heap.size) g c2 hg3).trans HRV12.out))) (fun hHeld => ?_)
            clear hK K
            simp only [Act.put]
            refine wpAnyH_ready (rs := [7]) (by kernel_rfl) (by simp) ?_
            refine AllReadyH.cons (o := { dst := none, op := Go.Op.store 33 (Go.Operand.tmp 4) (Go.Operand.tmp 15), type := 0, pos := "law.go:80", after := #[{ on := 5, ground := Go.Ground.data }, { on := 3, ground := Go.Ground.data }, { on := 6, ground := Go.Ground.chain }, { on := 0, ground := Go.Ground.phase }, { on := 1, ground := Go.Ground.phase }, { on := 2, ground := Go.Ground.phase }, { on := 3, ground := Go.Ground.phase }, { on := 4, ground := Go.Ground.phase }, { on := 5, ground := Go.Ground.phase }, { on := 6, ground := Go.Ground.phase }], guard := none }) rfl (fun K hK => ?_) AllReadyH.nil
            rw [if_pos (by rfl)]
            refine wp_store_row 33 _ _ rfl (w10.heap.size) c11 rfl rfl 33 zS ((setRow_other V12 (w1.heap.size) (w10.heap.size) c2 (Ne.symm hne)).trans N4V12.out) (info33s c11 Xc11.out.1) Xc11.out.1.symm (all_one Xc11.out.2) ?_
            refine hK.out _ _ (lies_range (Lies.row (show ((V12.setRow (w1.heap.size) c2).setRow (w10.heap.size) c11).heap[g]? = some (.cells cs 33 (0, 0)) from (setRow_other (V12.setRow (w1.heap.size) c2) (w10.heap.size) g c11 hg4).trans ((setRow_other V12 (w1.heap.size) g c2 hg3).trans HRV12.out)))) (fun hHeld => ?_)
            clear hK K
            simp only [Act.put]
            refine wpAnyH_done (by kernel_rfl) ?_ _
            go_wp2_with fail
            go_meet
            case rel => exact ⟨w1.heap.size, w10.heap.size, c2, c11, okk V.heap.size w1, okk V9.heap.size w10, rfl, rfl, own_mk HBV12.out HZV12.out HRV12.out N3V12.out N4V12.out hne P1V12.out T1V12.out P2V12.out T2V12.out O12.out O31.out O41.out O32.out O42.out L1.out L3.out L4.out⟩
        · go_simp
          refine hK.out _ _ (lies_range (Lies.row (row_below (bel1 V9 _) HRV9.out))) (fun hHeld => ?_)
          clear hK K hHeld
          change wpAnyH _ _ _ _ _ _ _ _ (V9.alloc (.cells zS 33))
          have hb := bel1 V9 (.cells zS 33)
          have nn : (V9.alloc (.cells zS 33)).heap[V9.heap.size]? = some (.cells zS 33 (0, 0)) := heap_alloc_new V9 _
          generalize V9.alloc (.cells zS 33) = V13 at hb nn ⊢
          have HBV13 : Hid (Below g w V13) := blt HBV9.out HZV9.out hb
          have HZV13 : Hid (g ≤ V13.heap.size) := Nat.le_trans HZV9.out (Below.size hb)
          have HRV13 : Hid (V13.heap[g]? = some (.cells cs 33 (0, 0))) := row_below hb HRV9.out
          have N3V13 : Hid (V13.heap[w1.heap.size]? = some (.cells zS 33 (0, 0))) := row_below hb N3V9.out
          have P1V13 : Hid (Ps (okk V.heap.size w1) V13 n c2 s) := P1V9.out.later T1V9.out.size hb
          have T1V13 : Hid (Below w1.heap.size w1 V13) := bel2 T1V9.out hb
          have N4V13 : Hid (V13.heap[V9.heap.size]? = some (.cells zS 33 (0, 0))) := nn
          have L4 : Hid (g < V9.heap.size) := (Array.getElem?_eq_some_iff.1 HRV9.out).1
          have NE : Hid (w1.heap.size ≠ V9.heap.size) := Nat.ne_of_lt (Array.getElem?_eq_some_iff.1 N3V9.out).1
          have O41 : Hid (V9.heap.size < V.heap.size ∨ w1.heap.size ≤ V9.heap.size) := .inr T1V9.out.size
          have hHeld : (fun w' => w'.rangeAt g 0 cs.toList) V13 := lies_range (Lies.row HRV13.out)
          clear hb nn
          refine wpAnyH_ready (rs := [3]) (by kernel_rfl) (by simp) ?_
          refine (AllReadyH.cons (o := { dst := some 15, op := Go.Op.call { callee := Go.Callee.value (Go.Operand.func 6), args := #[Go.Operand.tmp 14], argTypes := #[33] }, type := 33, pos := "law.go:80", after := #[{ on := 2, ground := Go.Ground.data }, { on := 1, ground := Go.Ground.chain }], guard := none }) rfl (fun K hK => ?_) AllReadyH.nil)
          · go_simp
            refine (KC.out V13 HBV13.out).mono ?_
            rintro e w14 ⟨⟨c15, rfl, h1⟩, hb⟩
            have HBw14 : Hid (Below g w w14) := blt HBV13.out HZV13.out hb
            have HZw14 : Hid (g ≤ w14.heap.size) := Nat.le_trans HZV13.out (Below.size hb)
            have HRw14 : Hid (w14.heap[g]? = some (.cells cs 33 (0, 0))) := row_below hb HRV13.out
            have N3w14 : Hid (w14.heap[w1.heap.size]? = some (.cells zS 33 (0, 0))) := row_below hb N3V13.out
            have N4w14 : Hid (w14.heap[V9.heap.size]? = some (.cells zS 33 (0, 0))) := row_below hb N4V13.out
            have P1w14 : Hid (Ps (okk V.heap.size w1) w14 n c2 s) := P1V13.out.later T1V13.out.size hb
            have T1w14 : Hid (Below w1.heap.size w1 w14) := bel2 T1V13.out hb
            have P2w14 : Hid (Ps (okk V13.heap.size w14) w14 n c15 s) := h1.keep (fun B hB hf => ⟨hf, hB⟩) (fun _ _ _ => rfl)
            have T2w14 : Hid (Below w14.heap.size w14 w14) := Below.refl _ _
            have Xc15 : Hid (c15.size = 31 ∧ ∀ (j : Nat) (v : Value), c15[j]? = some v → v.oneCell' = true) := ⟨h1.size, h1.one⟩
            have O12 : Hid (w1.heap.size ≤ V13.heap.size) := T1V13.out.size
            have O32 : Hid ((w1.heap.size) < V13.heap.size ∨ w14.heap.size ≤ (w1.heap.size)) := .inl (Array.getElem?_eq_some_iff.1 N3V13.out).1
            have O42 : Hid ((V9.heap.size) < V13.heap.size ∨ w14.heap.size ≤ (V9.heap.size)) := .inl (Array.getElem?_eq_some_iff.1 N4V13.out).1
            clear h1 hb hHeld
            refine hK.out _ _ (lies_range (Lies.row HRw14.out)) (fun hHeld => ?_)
            clear hK K
            have hne : (w1.heap.size) ≠ (V9.heap.size) := NE.out
            have hg3 : g ≠ (w1.heap.size) := Nat.ne_of_lt L3.out
            have hg4 : g ≠ (V9.heap.size) := Nat.ne_of_lt L4.out
            refine wpAnyH_ready (rs := [6]) (by kernel_rfl) (by simp) ?_
            refine AllReadyH.cons (o := { dst := none, op := Go.Op.store 33 (Go.Operand.tmp 3) (Go.Operand.tmp 13), type := 0, pos := "law.go:80", after := #[{ on := 4, ground := Go.Ground.data }, { on := 1, ground := Go.Ground.data }, { on := 3, ground := Go.Ground.chain }, { on := 0, ground := Go.Ground.phase }, { on := 1, ground := Go.Ground.phase }, { on := 2, ground := Go.Ground.textOnly Go.Departure.lateStores }, { on := 3, ground := Go.Ground.textOnly Go.Departure.lateStoresUnsure }, { on := 4, ground := Go.Ground.phase }, { on := 5, ground := Go.Ground.phase }], guard := none }) rfl (fun K hK => ?_) AllReadyH.nil
            rw [if_pos (by rfl)]
            refine wp_store_row 33 _ _ rfl (w1.heap.size) c2 rfl rfl 33 zS N3w14.out (info33s c2 Xc2.out.1) Xc2.out.1.symm (all_one Xc2.out.2) ?_
            refine hK.out _ _ (lies_range (Lies.row (show (w14.setRow (w1.heap.size) c2).heap[g]? = some (.cells cs 33 (0, 0)) from (setRow_other w14 (w1.heap.size) g c2 hg3).trans HRw14.out))) (fun hHeld => ?_)
            clear hK K
            simp only [Act.put]
            refine wpAnyH_ready (rs := [7]) (by kernel_rfl) (by simp) ?_
            refine AllReadyH.cons (o := { dst := none, op := Go.Op.store 33 (Go.Operand.tmp 4) (Go.Operand.tmp 15), type := 0, pos := "law.go:80", after := #[{ on := 5, ground := Go.Ground.data }, { on := 3, ground := Go.Ground.data }, { on := 6, ground := Go.Ground.chain }, { on := 0, ground := Go.Ground.phase }, { on := 1, ground := Go.Ground.phase }, { on := 2, ground := Go.Ground.phase }, { on := 3, ground := Go.Ground.phase }, { on := 4, ground := Go.Ground.phase }, { on := 5, ground := Go.Ground.phase }, { on := 6, ground := Go.Ground.phase }], guard := none }) rfl (fun K hK => ?_) AllReadyH.nil
            rw [if_pos (by rfl)]
            refine wp_store_row 33 _ _ rfl (V9.heap.size) c15 rfl rfl 33 zS ((setRow_other w14 (w1.heap.size) (V9.heap.size) c2 (Ne.symm hne)).trans N4w14.out) (info33s c15 Xc15.out.1) Xc15.out.1.symm (all_one Xc15.out.2) ?_
            refine hK.out _ _ (lies_range (Lies.row (show ((w14.setRow (w1.heap.size) c2).setRow (V9.heap.size) c15).heap[g]? = some (.cells cs 33 (0, 0)) from (setRow_other (w14.setRow (w1.heap.size) c2) (V9.heap.size) g c15 hg4).trans ((setRow_other w14 (w1.heap.size) g c2 hg3).trans HRw14.out)))) (fun hHeld => ?_)
            clear hK K
            simp only [Act.put]
            refine wpAnyH_done (by kernel_rfl) ?_ _
            go_wp2_with fail
            go_meet
            case rel => exact ⟨w1.heap.size, V9.heap.size, c2, c15, okk V.heap.size w1, okk V13.heap.size w14, rfl, rfl, own_mk HBw14.out HZw14.out HRw14.out N3w14.out N4w14.out hne P1w14.out T1w14.out P2w14.out T2w14.out O12.out O31.out O41.out O32.out O42.out L1.out L3.out L4.out⟩
      · go_simp
        refine hK.out _ _ (lies_range (Lies.row (row_below (bel1 w1 _) HRw1.out))) (fun hHeld => ?_)
        clear hK K hHeld
        change wpAnyH _ _ _ _ _ _ _ _ (w1.alloc (.cells zS 33))
        have hb := bel1 w1 (.cells zS 33)
        have nn : (w1.alloc (.cells zS 33)).heap[w1.heap.size]? = some (.cells zS 33 (0, 0)) := heap_alloc_new w1 _
        generalize w1.alloc (.cells zS 33) = V16 at hb nn ⊢
        have HBV16 : Hid (Below g w V16) := blt HBw1.out HZw1.out hb
        have HZV16 : Hid (g ≤ V16.heap.size) := Nat.le_trans HZw1.out (Below.size hb)
        have HRV16 : Hid (V16.heap[g]? = some (.cells cs 33 (0, 0))) := row_below hb HRw1.out
        have P1V16 : Hid (Ps (okk V.heap.size w1) V16 n c2 s) := P1w1.out.later T1w1.out.size hb
        have T1V16 : Hid (Below w1.heap.size w1 V16) := bel2 T1w1.out hb
        have N4V16 : Hid (V16.heap[w1.heap.size]? = some (.cells zS 33 (0, 0))) := nn
        have L4 : Hid (g < w1.heap.size) := (Array.getElem?_eq_some_iff.1 HRw1.out).1
        have O41 : Hid (w1.heap.size < V.heap.size ∨ w1.heap.size ≤ w1.heap.size) := .inr T1w1.out.size
        have hHeld : (fun w' => w'.rangeAt g 0 cs.toList) V16 := lies_range (Lies.row HRV16.out)
        clear hb nn
        refine wpAnyH_ready (rs := [3, 4]) (by kernel_rfl) (by simp) ?_
        refine (AllReadyH.cons (o := { dst := some 15, op := Go.Op.call { callee := Go.Callee.value (Go.Operand.func 6), args := #[Go.Operand.tmp 14], argTypes := #[33] }, type := 33, pos := "law.go:80", after := #[{ on := 2, ground := Go.Ground.data }, { on := 1, ground := Go.Ground.chain }], guard := none }) rfl (fun K hK => ?_) (AllReadyH.cons (o := { dst := some 3, op := Go.Op.alloc 33, type := 0, pos := "law.go:80", after := #[], guard := none }) rfl (fun K hK => ?_) AllReadyH.nil))
        · go_simp
          refine (KC.out V16 HBV16.out).mono ?_
          rintro e w17 ⟨⟨c18, rfl, h1⟩, hb⟩
          have HBw17 : Hid (Below g w w17) := blt HBV16.out HZV16.out hb
          have HZw17 : Hid (g ≤ w17.heap.size) := Nat.le_trans HZV16.out (Below.size hb)
          have HRw17 : Hid (w17.heap[g]? = some (.cells cs 33 (0, 0))) := row_below hb HRV16.out
          have N4w17 : Hid (w17.heap[w1.heap.size]? = some (.cells zS 33 (0, 0))) := row_below hb N4V16.out
          have P1w17 : Hid (Ps (okk V.heap.size w1) w17 n c2 s) := P1V16.out.later T1V16.out.size hb
          have T1w17 : Hid (Below w1.heap.size w1 w17) := bel2 T1V16.out hb
          have P2w17 : Hid (Ps (okk V16.heap.size w17) w17 n c18 s) := h1.keep (fun B hB hf => ⟨hf, hB⟩) (fun _ _ _ => rfl)
          have T2w17 : Hid (Below w17.heap.size w17 w17) := Below.refl _ _
          have Xc18 : Hid (c18.size = 31 ∧ ∀ (j : Nat) (v : Value), c18[j]? = some v → v.oneCell' = true) := ⟨h1.size, h1.one⟩
          have O12 : Hid (w1.heap.size ≤ V16.heap.size) := T1V16.out.size
          have O42 : Hid ((w1.heap.size) < V16.heap.size ∨ w17.heap.size ≤ (w1.heap.size)) := .inl (Array.getElem?_eq_some_iff.1 N4V16.out).1
          clear h1 hb hHeld
          refine hK.out _ _ (lies_range (Lies.row HRw17.out)) (fun hHeld => ?_)
          clear hK K
          refine wpAnyH_ready (rs := [4]) (by kernel_rfl) (by simp) ?_
          refine (AllReadyH.cons (o := { dst := some 3, op := Go.Op.alloc 33, type := 0, pos := "law.go:80", after := #[], guard := none }) rfl (fun K hK => ?_) AllReadyH.nil)
          · go_simp
            refine hK.out _ _ (lies_range (Lies.row (row_below (bel1 w17 _) HRw17.out))) (fun hHeld => ?_)
            clear hK K hHeld
            change wpAnyH _ _ _ _ _ _ _ _ (w17.alloc (.cells zS 33))
            have hb := bel1 w17 (.cells zS 33)
            have nn : (w17.alloc (.cells zS 33)).heap[w17.heap.size]? = some (.cells zS 33 (0, 0)) := heap_alloc_new w17 _
            generalize w17.alloc (.cells zS 33) = V19 at hb nn ⊢
            have HBV19 : Hid (Below g w V19) := blt HBw17.out HZw17.out hb
            have HZV19 : Hid (g ≤ V19.heap.size) := Nat.le_trans HZw17.out (Below.size hb)
            have HRV19 : Hid (V19.heap[g]? = some (.cells cs 33 (0, 0))) := row_below hb HRw17.out
            have N4V19 : Hid (V19.heap[w1.heap.size]? = some (.cells zS 33 (0, 0))) := row_below hb N4w17.out
            have P1V19 : Hid (Ps (okk V.heap.size w1) V19 n c2 s) := P1w17.out.later T1w17.out.size hb
            have T1V19 : Hid (Below w1.heap.size w1 V19) := bel2 T1w17.out hb
            have P2V19 : Hid (Ps (okk V16.heap.size w17) V19 n c18 s) := P2w17.out.later T2w17.out.size hb
            have T2V19 : Hid (Below w17.heap.size w17 V19) := bel2 T2w17.out hb
            have N3V19 : Hid (V19.heap[w17.heap.size]? = some (.cells zS 33 (0, 0))) := nn
            have L3 : Hid (g < w17.heap.size) := (Array.getElem?_eq_some_iff.1 HRw17.out).1
            have NE : Hid (w17.heap.size ≠ w1.heap.size) := Nat.ne_of_gt (Array.getElem?_eq_some_iff.1 N4w17.out).1
            have O31 : Hid (w17.heap.size < V.heap.size ∨ w1.heap.size ≤ w17.heap.size) := .inr T1w17.out.size
            have O32 : Hid (w17.heap.size < V16.heap.size ∨ w17.heap.size ≤ w17.heap.size) := .inr T2w17.out.size
            have hHeld : (fun w' => w'.rangeAt g 0 cs.toList) V19 := lies_range (Lies.row HRV19.out)
            clear hb nn
            have hne : (w17.heap.size) ≠ (w1.heap.size) := NE.out
            have hg3 : g ≠ (w17.heap.size) := Nat.ne_of_lt L3.out
            have hg4 : g ≠ (w1.heap.size) := Nat.ne_of_lt L4.out
            refine wpAnyH_ready (rs := [6]) (by kernel_rfl) (by simp) ?_
            refine AllReadyH.cons (o := { dst := none, op := Go.Op.store 33 (Go.Operand.tmp 3) (Go.Operand.tmp 13), type := 0, pos := "law.go:80", after := #[{ on := 4, ground := Go.Ground.data }, { on := 1, ground := Go.Ground.data }, { on := 3, ground := Go.Ground.chain }, { on := 0, ground := Go.Ground.phase }, { on := 1, ground := Go.Ground.phase }, { on := 2, ground := Go.Ground.textOnly Go.Departure.lateStores }, { on := 3, ground := Go.Ground.textOnly Go.Departure.lateStoresUnsure }, { on := 4, ground := Go.Ground.phase }, { on := 5, ground := Go.Ground.phase }], guard := none }) rfl (fun K hK => ?_) AllReadyH.nil
            rw [if_pos (by rfl)]
            refine wp_store_row 33 _ _ rfl (w17.heap.size) c2 rfl rfl 33 zS N3V19.out (info33s c2 Xc2.out.1) Xc2.out.1.symm (all_one Xc2.out.2) ?_
            refine hK.out _ _ (lies_range (Lies.row (show (V19.setRow (w17.heap.size) c2).heap[g]? = some (.cells cs 33 (0, 0)) from (setRow_other V19 (w17.heap.size) g c2 hg3).trans HRV19.out))) (fun hHeld => ?_)
            clear hK K
            simp only [Act.put]
            refine wpAnyH_ready (rs := [7]) (by kernel_rfl) (by simp) ?_
            refine AllReadyH.cons (o := { dst := none, op := Go.Op.store 33 (Go.Operand.tmp 4) (Go.Operand.tmp 15), type := 0, pos := "law.go:80", after := #[{ on := 5, ground := Go.Ground.data }, { on := 3, ground := Go.Ground.data }, { on := 6, ground := Go.Ground.chain }, { on := 0, ground := Go.Ground.phase }, { on := 1, ground := Go.Ground.phase }, { on := 2, ground := Go.Ground.phase }, { on := 3, ground := Go.Ground.phase }, { on := 4, ground := Go.Ground.phase }, { on := 5, ground := Go.Ground.phase }, { on := 6, ground := Go.Ground.phase }], guard := none }) rfl (fun K hK => ?_) AllReadyH.nil
            rw [if_pos (by rfl)]
            refine wp_store_row 33 _ _ rfl (w1.heap.size) c18 rfl rfl 33 zS ((setRow_other V19 (w17.heap.size) (w1.heap.size) c2 (Ne.symm hne)).trans N4V19.out) (info33s c18 Xc18.out.1) Xc18.out.1.symm (all_one Xc18.out.2) ?_
            refine hK.out _ _ (lies_range (Lies.row (show ((V19.setRow (w17.heap.size) c2).setRow (w1.heap.size) c18).heap[g]? = some (.cells cs 33 (0, 0)) from (setRow_other (V19.setRow (w17.heap.size) c2) (w1.heap.size) g c18 hg4).trans ((setRow_other V19 (w17.heap.size) g c2 hg3).trans HRV19.out)))) (fun hHeld => ?_)
            clear hK K
            simp only [Act.put]
            refine wpAnyH_done (by kernel_rfl) ?_ _
            go_wp2_with fail
            go_meet
            case rel => exact ⟨w17.heap.size, w1.heap.size, c2, c18, okk V.heap.size w1, okk V16.heap.size w17, rfl, rfl, own_mk HBV19.out HZV19.out HRV19.out N3V19.out N4V19.out hne P1V19.out T1V19.out P2V19.out T2V19.out O12.out O31.out O41.out O32.out O42.out L1.out L3.out L4.out⟩
        · go_simp
          refine hK.out _ _ (lies_range (Lies.row (row_below (bel1 V16 _) HRV16.out))) (fun hHeld => ?_)
          clear hK K hHeld
          change wpAnyH _ _ _ _ _ _ _ _ (V16.alloc (.cells zS 33))
          have hb := bel1 V16 (.cells zS 33)
          have nn : (V16.alloc (.cells zS 33)).heap[V16.heap.size]? = some (.cells zS 33 (0, 0)) := heap_alloc_new V16 _
          generalize V16.alloc (.cells zS 33) = V20 at hb nn ⊢
          have HBV20 : Hid (Below g w V20) := blt HBV16.out HZV16.out hb
          have HZV20 : Hid (g ≤ V20.heap.size) := Nat.le_trans HZV16.out (Below.size hb)
          have HRV20 : Hid (V20.heap[g]? = some (.cells cs 33 (0, 0))) := row_below hb HRV16.out
          have N4V20 : Hid (V20.heap[w1.heap.size]? = some (.cells zS 33 (0, 0))) := row_below hb N4V16.out
          have P1V20 : Hid (Ps (okk V.heap.size w1) V20 n c2 s) := P1V16.out.later T1V16.out.size hb
          have T1V20 : Hid (Below w1.heap.size w1 V20) := bel2 T1V16.out hb
          have N3V20 : Hid (V20.heap[V16.heap.size]? = some (.cells zS 33 (0, 0))) := nn
          have L3 : Hid (g < V16.heap.size) := (Array.getElem?_eq_some_iff.1 HRV16.out).1
          have NE : Hid (V16.heap.size ≠ w1.heap.size) := Nat.ne_of_gt (Array.getElem?_eq_some_iff.1 N4V16.out).1
          have O31 : Hid (V16.heap.size < V.heap.size ∨ w1.heap.size ≤ V16.heap.size) := .inr T1V16.out.size
          have hHeld : (fun w' => w'.rangeAt g 0 cs.toList) V20 := lies_range (Lies.row HRV20.out)
          clear hb nn
          refine wpAnyH_ready (rs := [3]) (by kernel_rfl) (by simp) ?_
          refine (AllReadyH.cons (o := { dst := some 15, op := Go.Op.call { callee := Go.Callee.value (Go.Operand.func 6), args := #[Go.Operand.tmp 14], argTypes := #[33] }, type := 33, pos := "law.go:80", after := #[{ on := 2, ground := Go.Ground.data }, { on := 1, ground := Go.Ground.chain }], guard := none }) rfl (fun K hK => ?_) AllReadyH.nil)
          · go_simp
            refine (KC.out V20 HBV20.out).mono ?_
            rintro e w21 ⟨⟨c22, rfl, h1⟩, hb⟩
            have HBw21 : Hid (Below g w w21) := blt HBV20.out HZV20.out hb
            have HZw21 : Hid (g ≤ w21.heap.size) := Nat.le_trans HZV20.out (Below.size hb)
            have HRw21 : Hid (w21.heap[g]? = some (.cells cs 33 (0, 0))) := row_below hb HRV20.out
            have N3w21 : Hid (w21.heap[V16.heap.size]? = some (.cells zS 33 (0, 0))) := row_below hb N3V20.out
            have N4w21 : Hid (w21.heap[w1.heap.size]? = some (.cells zS 33 (0, 0))) := row_below hb N4V20.out
            have P1w21 : Hid (Ps (okk V.heap.size w1) w21 n c2 s) := P1V20.out.later T1V20.out.size hb
            have T1w21 : Hid (Below w1.heap.size w1 w21) := bel2 T1V20.out hb
            have P2w21 : Hid (Ps (okk V20.heap.size w21) w21 n c22 s) := h1.keep (fun B hB hf => ⟨hf, hB⟩) (fun _ _ _ => rfl)
            have T2w21 : Hid (Below w21.heap.size w21 w21) := Below.refl _ _
            have Xc22 : Hid (c22.size = 31 ∧ ∀ (j : Nat) (v : Value), c22[j]? = some v → v.oneCell' = true) := ⟨h1.size, h1.one⟩
            have O12 : Hid (w1.heap.size ≤ V20.heap.size) := T1V20.out.size
            have O32 : Hid ((V16.heap.size) < V20.heap.size ∨ w21.heap.size ≤ (V16.heap.size)) := .inl (Array.getElem?_eq_some_iff.1 N3V20.out).1
            have O42 : Hid ((w1.heap.size) < V20.heap.size ∨ w21.heap.size ≤ (w1.heap.size)) := .inl (Array.getElem?_eq_some_iff.1 N4V20.out).1
            clear h1 hb hHeld
            refine hK.out _ _ (lies_range (Lies.row HRw21.out)) (fun hHeld => ?_)
            clear hK K
            have hne : (V16.heap.size) ≠ (w1.heap.size) := NE.out
            have hg3 : g ≠ (V16.heap.size) := Nat.ne_of_lt L3.out
            have hg4 : g ≠ (w1.heap.size) := Nat.ne_of_lt L4.out
            refine wpAnyH_ready (rs := [6]) (by kernel_rfl) (by simp) ?_
            refine AllReadyH.cons (o := { dst := none, op := Go.Op.store 33 (Go.Operand.tmp 3) (Go.Operand.tmp 13), type := 0, pos := "law.go:80", after := #[{ on := 4, ground := Go.Ground.data }, { on := 1, ground := Go.Ground.data }, { on := 3, ground := Go.Ground.chain }, { on := 0, ground := Go.Ground.phase }, { on := 1, ground := Go.Ground.phase }, { on := 2, ground := Go.Ground.textOnly Go.Departure.lateStores }, { on := 3, ground := Go.Ground.textOnly Go.Departure.lateStoresUnsure }, { on := 4, ground := Go.Ground.phase }, { on := 5, ground := Go.Ground.phase }], guard := none }) rfl (fun K hK => ?_) AllReadyH.nil
            rw [if_pos (by rfl)]
            refine wp_store_row 33 _ _ rfl (V16.heap.size) c2 rfl rfl 33 zS N3w21.out (info33s c2 Xc2.out.1) Xc2.out.1.symm (all_one Xc2.out.2) ?_
            refine hK.out _ _ (lies_range (Lies.row (show (w21.setRow (V16.heap.size) c2).heap[g]? = some (.cells cs 33 (0, 0)) from (setRow_other w21 (V16.heap.size) g c2 hg3).trans HRw21.out))) (fun hHeld => ?_)
            clear hK K
            simp only [Act.put]
            refine wpAnyH_ready (rs := [7]) (by kernel_rfl) (by simp) ?_
            refine AllReadyH.cons (o := { dst := none, op := Go.Op.store 33 (Go.Operand.tmp 4) (Go.Operand.tmp 15), type := 0, pos := "law.go:80", after := #[{ on := 5, ground := Go.Ground.data }, { on := 3, ground := Go.Ground.data }, { on := 6, ground := Go.Ground.chain }, { on := 0, ground := Go.Ground.phase }, { on := 1, ground := Go.Ground.phase }, { on := 2, ground := Go.Ground.phase }, { on := 3, ground := Go.Ground.phase }, { on := 4, ground := Go.Ground.phase }, { on := 5, ground := Go.Ground.phase }, { on := 6, ground := Go.Ground.phase }], guard := none }) rfl (fun K hK => ?_) AllReadyH.nil
            rw [if_pos (by rfl)]
            refine wp_store_row 33 _ _ rfl (w1.heap.size) c22 rfl rfl 33 zS ((setRow_other w21 (V16.heap.size) (w1.heap.size) c2 (Ne.symm hne)).trans N4w21.out) (info33s c22 Xc22.out.1) Xc22.out.1.symm (all_one Xc22.out.2) ?_
            refine hK.out _ _ (lies_range (Lies.row (show ((w21.setRow (V16.heap.size) c2).setRow (w1.heap.size) c22).heap[g]? = some (.cells cs 33 (0, 0)) from (setRow_other (w21.setRow (V16.heap.size) c2) (w1.heap.size) g c22 hg4).trans ((setRow_other w21 (V16.heap.size) g c2 hg3).trans HRw21.out)))) (fun hHeld => ?_)
            clear hK K
            simp only [Act.put]
            refine wpAnyH_done (by kernel_rfl) ?_ _
            go_wp2_with fail
            go_meet
            case rel => exact ⟨V16.heap.size, w1.heap.size, c2, c22, okk V.heap.size w1, okk V20.heap.size w21, rfl, rfl, own_mk HBw21.out HZw21.out HRw21.out N3w21.out N4w21.out hne P1w21.out T1w21.out P2w21.out T2w21.out O12.out O31.out O41.out O32.out O42.out L1.out L3.out L4.out⟩
    · go_simp
      refine hK.out _ _ (lies_range (Lies.row (row_below (bel1 V _) HRV.out))) (fun hHeld => ?_)
      clear hK K hHeld
      change wpAnyH _ _ _ _ _ _ _ _ (V.alloc (.cells zS 33))
      have hb := bel1 V (.cells zS 33)
      have nn : (V.alloc (.cells zS 33)).heap[V.heap.size]? = some (.cells zS 33 (0, 0)) := heap_alloc_new V _
      generalize V.alloc (.cells zS 33) = V23 at hb nn ⊢
      have HBV23 : Hid (Below g w V23) := blt HBV.out HZV.out hb
      have HZV23 : Hid (g ≤ V23.heap.size) := Nat.le_trans HZV.out (Below.size hb)
      have HRV23 : Hid (V23.heap[g]? = some (.cells cs 33 (0, 0))) := row_below hb HRV.out
      have N3V23 : Hid (V23.heap[V.heap.size]? = some (.cells zS 33 (0, 0))) := nn
      have L3 : Hid (g < V.heap.size) := (Array.getElem?_eq_some_iff.1 HRV.out).1
      have hHeld : (fun w' => w'.rangeAt g 0 cs.toList) V23 := lies_range (Lies.row HRV23.out)
      clear hb nn
      refine wpAnyH_ready (rs := [1, 5]) (by kernel_rfl) (by simp) ?_
      refine (AllReadyH.cons (o := { dst := some 13, op := Go.Op.call { callee := Go.Callee.value (Go.Operand.func 6), args := #[Go.Operand.tmp 12], argTypes := #[33] }, type := 33, pos := "law.go:80", after := #[{ on := 0, ground := Go.Ground.data }], guard := none }) rfl (fun K hK => ?_) (AllReadyH.cons (o := { dst := some 4, op := Go.Op.alloc 33, type := 0, pos := "law.go:80", after := #[], guard := none }) rfl (fun K hK => ?_) AllReadyH.nil))
      · go_simp
        refine (KC.out V23 HBV23.out).mono ?_
        rintro e w24 ⟨⟨c25, rfl, h1⟩, hb⟩
        have HBw24 : Hid (Below g w w24) := blt HBV23.out HZV23.out hb
        have HZw24 : Hid (g ≤ w24.heap.size) := Nat.le_trans HZV23.out (Below.size hb)
        have HRw24 : Hid (w24.heap[g]? = some (.cells cs 33 (0, 0))) := row_below hb HRV23.out
        have N3w24 : Hid (w24.heap[V.heap.size]? = some (.cells zS 33 (0, 0))) := row_below hb N3V23.out
        have P1w24 : Hid (Ps (okk V23.heap.size w24) w24 n c25 s) := h1.keep (fun B hB hf => ⟨hf, hB⟩) (fun _ _ _ => rfl)
        have T1w24 : Hid (Below w24.heap.size w24 w24) := Below.refl _ _
        have Xc25 : Hid (c25.size = 31 ∧ ∀ (j : Nat) (v : Value), c25[j]? = some v → v.oneCell' = true) := ⟨h1.size, h1.one⟩
        have L1 : Hid (g + 1 ≤ V23.heap.size) := (Array.getElem?_eq_some_iff.1 HRV23.out).1
        have O31 : Hid ((V.heap.size) < V23.heap.size ∨ w24.heap.size ≤ (V.heap.size)) := .inl (Array.getElem?_eq_some_iff.1 N3V23.out).1
        clear h1 hb hHeld
        refine hK.out _ _ (lies_range (Lies.row HRw24.out)) (fun hHeld => ?_)
        clear hK K
        refine wpAnyH_ready (rs := [3, 5]) (by kernel_rfl) (by simp) ?_
        refine (AllReadyH.cons (o := { dst := some 15, op := Go.Op.call { callee := Go.Callee.value (Go.Operand.func 6), args := #[Go.Operand.tmp 14], argTypes := #[33] }, type := 33, pos := "law.go:80", after := #[{ on := 2, ground := Go.Ground.data }, { on := 1, ground := Go.Ground.chain }], guard := none }) rfl (fun K hK => ?_) (AllReadyH.cons (o := { dst := some 4, op := Go.Op.alloc 33, type := 0, pos := "law.go:80", after := #[], guard := none }) rfl (fun K hK => ?_) AllReadyH.nil))
        · go_simp
          refine (KC.out w24 HBw24.out).mono ?_
          rintro e w26 ⟨⟨c27, rfl, h1⟩, hb⟩
          have HBw26 : Hid (Below g w w26) := blt HBw24.out HZw24.out hb
          have HZw26 : Hid (g ≤ w26.heap.size) := Nat.le_trans HZw24.out (Below.size hb)
          have HRw26 : Hid (w26.heap[g]? = some (.cells cs 33 (0, 0))) := row_below hb HRw24.out
          have N3w26 : Hid (w26.heap[V.heap.size]? = some (.cells zS 33 (0, 0))) := row_below hb N3w24.out
          have P1w26 : Hid (Ps (okk V23.heap.size w24) w26 n c25 s) := P1w24.out.later T1w24.out.size hb
          have T1w26 : Hid (Below w24.heap.size w24 w26) := bel2 T1w24.out hb
          have P2w26 : Hid (Ps (okk w24.heap.size w26) w26 n c27 s) := h1.keep (fun B hB hf => ⟨hf, hB⟩) (fun _ _ _ => rfl)
          have T2w26 : Hid (Below w26.heap.size w26 w26) := Below.refl _ _
          have Xc27 : Hid (c27.size = 31 ∧ ∀ (j : Nat) (v : Value), c27[j]? = some v → v.oneCell' = true) := ⟨h1.size, h1.one⟩
          have O12 : Hid (w24.heap.size ≤ w24.heap.size) := T1w24.out.size
          have O32 : Hid ((V.heap.size) < w24.heap.size ∨ w26.heap.size ≤ (V.heap.size)) := .inl (Array.getElem?_eq_some_iff.1 N3w24.out).1
          clear h1 hb hHeld
          refine hK.out _ _ (lies_range (Lies.row HRw26.out)) (fun hHeld => ?_)
          clear hK K
          refine wpAnyH_ready (rs := [5]) (by kernel_rfl) (by simp) ?_
          refine (AllReadyH.cons (o := { dst := some 4, op := Go.Op.alloc 33, type := 0, pos := "law.go:80", after := #[], guard := none }) rfl (fun K hK => ?_) AllReadyH.nil)
          · go_simp
            refine hK.out _ _ (lies_range (Lies.row (row_below (bel1 w26 _) HRw26.out))) (fun hHeld => ?_)
            clear hK K hHeld
            change wpAnyH _ _ _ _ _ _ _ _ (w26.alloc (.cells zS 33))
            have hb := bel1 w26 (.cells zS 33)
            have nn : (w26.alloc (.cells zS 33)).heap[w26.heap.size]? = some (.cells zS 33 (0, 0)) := heap_alloc_new w26 _
            generalize w26.alloc (.cells zS 33) = V28 at hb nn ⊢
            have HBV28 : Hid (Below g w V28) := blt HBw26.out HZw26.out hb
            have HZV28 : Hid (g ≤ V28.heap.size) := Nat.le_trans HZw26.out (Below.size hb)
            have HRV28 : Hid (V28.heap[g]? = some (.cells cs 33 (0, 0))) := row_below hb HRw26.out
            have N3V28 : Hid (V28.heap[V.heap.size]? = some (.cells zS 33 (0, 0))) := row_below hb N3w26.out
            have P1V28 : Hid (Ps (okk V23.heap.size w24) V28 n c25 s) := P1w26.out.later T1w26.out.size hb
            have T1V28 : Hid (Below w24.heap.size w24 V28) := bel2 T1w26.out hb
            have P2V28 : Hid (Ps (okk w24.heap.size w26) V28 n c27 s) := P2w26.out.later T2w26.out.size hb
            have T2V28 : Hid (Below w26.heap.size w26 V28) := bel2 T2w26.out hb
            have N4V28 : Hid (V28.heap[w26.heap.size]? = some (.cells zS 33 (0, 0))) := nn
            have L4 : Hid (g < w26.heap.size) := (Array.getElem?_eq_some_iff.1 HRw26.out).1
            have NE : Hid (V.heap.size ≠ w26.heap.size) := Nat.ne_of_lt (Array.getElem?_eq_some_iff.1 N3w26.out).1
            have O41 : Hid (w26.heap.size < V23.heap.size ∨ w24.heap.size ≤ w26.heap.size) := .inr T1w26.out.size
            have O42 : Hid (w26.heap.size < w24.heap.size ∨ w26.heap.size ≤ w26.heap.size) := .inr T2w26.out.size
            have hHeld : (fun w' => w'.rangeAt g 0 cs.toList) V28 := lies_range (Lies.row HRV28.out)
            clear hb nn
            have hne : (V.heap.size) ≠ (w26.heap.size) := NE.out
            have hg3 : g ≠ (V.heap.size) := Nat.ne_of_lt L3.out
            have hg4 : g ≠ (w26.heap.size) := Nat.ne_of_lt L4.out
            refine wpAnyH_ready (rs := [6]) (by kernel_rfl) (by simp) ?_
            refine AllReadyH.cons (o := { dst := none, op := Go.Op.store 33 (Go.Operand.tmp 3) (Go.Operand.tmp 13), type := 0, pos := "law.go:80", after := #[{ on := 4, ground := Go.Ground.data }, { on := 1, ground := Go.Ground.data }, { on := 3, ground := Go.Ground.chain }, { on := 0, ground := Go.Ground.phase }, { on := 1, ground := Go.Ground.phase }, { on := 2, ground := Go.Ground.textOnly Go.Departure.lateStores }, { on := 3, ground := Go.Ground.textOnly Go.Departure.lateStoresUnsure }, { on := 4, ground := Go.Ground.phase }, { on := 5, ground := Go.Ground.phase }], guard := none }) rfl (fun K hK => ?_) AllReadyH.nil
            rw [if_pos (by rfl)]
            refine wp_store_row 33 _ _ rfl (V.heap.size) c25 rfl rfl 33 zS N3V28.out (info33s c25 Xc25.out.1) Xc25.out.1.symm (all_one Xc25.out.2) ?_
            refine hK.out _ _ (lies_range (Lies.row (show (V28.setRow (V.heap.size) c25).heap[g]? = some (.cells cs 33 (0, 0)) from (setRow_other V28 (V.heap.size) g c25 hg3).trans HRV28.out))) (fun hHeld => ?_)
            clear hK K
            simp only [Act.put]
            refine wpAnyH_ready (rs := [7]) (by kernel_rfl) (by simp) ?_
            refine AllReadyH.cons (o := { dst := none, op := Go.Op.store 33 (Go.Operand.tmp 4) (Go.Operand.tmp 15), type := 0, pos := "law.go:80", after := #[{ on := 5, ground := Go.Ground.data }, { on := 3, ground := Go.Ground.data }, { on := 6, ground := Go.Ground.chain }, { on := 0, ground := Go.Ground.phase }, { on := 1, ground := Go.Ground.phase }, { on := 2, ground := Go.Ground.phase }, { on := 3, ground := Go.Ground.phase }, { on := 4, ground := Go.Ground.phase }, { on := 5, ground := Go.Ground.phase }, { on := 6, ground := Go.Ground.phase }], guard := none }) rfl (fun K hK => ?_) AllReadyH.nil
            rw [if_pos (by rfl)]
            refine wp_store_row 33 _ _ rfl (w26.heap.size) c27 rfl rfl 33 zS ((setRow_other V28 (V.heap.size) (w26.heap.size) c25 (Ne.symm hne)).trans N4V28.out) (info33s c27 Xc27.out.1) Xc27.out.1.symm (all_one Xc27.out.2) ?_
            refine hK.out _ _ (lies_range (Lies.row (show ((V28.setRow (V.heap.size) c25).setRow (w26.heap.size) c27).heap[g]? = some (.cells cs 33 (0, 0)) from (setRow_other (V28.setRow (V.heap.size) c25) (w26.heap.size) g c27 hg4).trans ((setRow_other V28 (V.heap.size) g c25 hg3).trans HRV28.out)))) (fun hHeld => ?_)
            clear hK K
            simp only [Act.put]
            refine wpAnyH_done (by kernel_rfl) ?_ _
            go_wp2_with fail
            go_meet
            case rel => exact ⟨V.heap.size, w26.heap.size, c25, c27, okk V23.heap.size w24, okk w24.heap.size w26, rfl, rfl, own_mk HBV28.out HZV28.out HRV28.out N3V28.out N4V28.out hne P1V28.out T1V28.out P2V28.out T2V28.out O12.out O31.out O41.out O32.out O42.out L1.out L3.out L4.out⟩
        · go_simp
          refine hK.out _ _ (lies_range (Lies.row (row_below (bel1 w24 _) HRw24.out))) (fun hHeld => ?_)
          clear hK K hHeld
          change wpAnyH _ _ _ _ _ _ _ _ (w24.alloc (.cells zS 33))
          have hb := bel1 w24 (.cells zS 33)
          have nn : (w24.alloc (.cells zS 33)).heap[w24.heap.size]? = some (.cells zS 33 (0, 0)) := heap_alloc_new w24 _
          generalize w24.alloc (.cells zS 33) = V29 at hb nn ⊢
          have HBV29 : Hid (Below g w V29) := blt HBw24.out HZw24.out hb
          have HZV29 : Hid (g ≤ V29.heap.size) := Nat.le_trans HZw24.out (Below.size hb)
          have HRV29 : Hid (V29.heap[g]? = some (.cells cs 33 (0, 0))) := row_below hb HRw24.out
          have N3V29 : Hid (V29.heap[V.heap.size]? = some (.cells zS 33 (0, 0))) := row_below hb N3w24.out
          have P1V29 : Hid (Ps (okk V23.heap.size w24) V29 n c25 s) := P1w24.out.later T1w24.out.size hb
          have T1V29 : Hid (Below w24.heap.size w24 V29) := bel2 T1w24.out hb
          have N4V29 : Hid (V29.heap[w24.heap.size]? = some (.cells zS 33 (0, 0))) := nn
          have L4 : Hid (g < w24.heap.size) := (Array.getElem?_eq_some_iff.1 HRw24.out).1
          have NE : Hid (V.heap.size ≠ w24.heap.size) := Nat.ne_of_lt (Array.getElem?_eq_some_iff.1 N3w24.out).1
          have O41 : Hid (w24.heap.size < V23.heap.size ∨ w24.heap.size ≤ w24.heap.size) := .inr T1w24.out.size
          have hHeld : (fun w' => w'.rangeAt g 0 cs.toList) V29 := lies_range (Lies.row HRV29.out)
          clear hb nn
          refine wpAnyH_ready (rs := [3]) (by kernel_rfl) (by simp) ?_
          refine (AllReadyH.cons (o := { dst := some 15, op := Go.Op.call { callee := Go.Callee.value (Go.Operand.func 6), args := #[Go.Operand.tmp 14], argTypes := #[33] }, type := 33, pos := "law.go:80", after := #[{ on := 2, ground := Go.Ground.data }, { on := 1, ground := Go.Ground.chain }], guard := none }) rfl (fun K hK => ?_) AllReadyH.nil)
          · go_simp
            refine (KC.out V29 HBV29.out).mono ?_
            rintro e w30 ⟨⟨c31, rfl, h1⟩, hb⟩
            have HBw30 : Hid (Below g w w30) := blt HBV29.out HZV29.out hb
            have HZw30 : Hid (g ≤ w30.heap.size) := Nat.le_trans HZV29.out (Below.size hb)
            have HRw30 : Hid (w30.heap[g]? = some (.cells cs 33 (0, 0))) := row_below hb HRV29.out
            have N3w30 : Hid (w30.heap[V.heap.size]? = some (.cells zS 33 (0, 0))) := row_below hb N3V29.out
            have N4w30 : Hid (w30.heap[w24.heap.size]? = some (.cells zS 33 (0, 0))) := row_below hb N4V29.out
            have P1w30 : Hid (Ps (okk V23.heap.size w24) w30 n c25 s) := P1V29.out.later T1V29.out.size hb
            have T1w30 : Hid (Below w24.heap.size w24 w30) := bel2 T1V29.out hb
            have P2w30 : Hid (Ps (okk V29.heap.size w30) w30 n c31 s) := h1.keep (fun B hB hf => ⟨hf, hB⟩) (fun _ _ _ => rfl)
            have T2w30 : Hid (Below w30.heap.size w30 w30) := Below.refl _ _
            have Xc31 : Hid (c31.size = 31 ∧ ∀ (j : Nat) (v : Value), c31[j]? = some v → v.oneCell' = true) := ⟨h1.size, h1.one⟩
            have O12 : Hid (w24.heap.size ≤ V29.heap.size) := T1V29.out.size
            have O32 : Hid ((V.heap.size) < V29.heap.size ∨ w30.heap.size ≤ (V.heap.size)) := .inl (Array.getElem?_eq_some_iff.1 N3V29.out).1
            have O42 : Hid ((w24.heap.size) < V29.heap.size ∨ w30.heap.size ≤ (w24.heap.size)) := .inl (Array.getElem?_eq_some_iff.1 N4V29.out).1
            clear h1 hb hHeld
            refine hK.out _ _ (lies_range (Lies.row HRw30.out)) (fun hHeld => ?_)
            clear hK K
            have hne : (V.heap.size) ≠ (w24.heap.size) := NE.out
            have hg3 : g ≠ (V.heap.size) := Nat.ne_of_lt L3.out
            have hg4 : g ≠ (w24.heap.size) := Nat.ne_of_lt L4.out
            refine wpAnyH_ready (rs := [6]) (by kernel_rfl) (by simp) ?_
            refine AllReadyH.cons (o := { dst := none, op := Go.Op.store 33 (Go.Operand.tmp 3) (Go.Operand.tmp 13), type := 0, pos := "law.go:80", after := #[{ on := 4, ground := Go.Ground.data }, { on := 1, ground := Go.Ground.data }, { on := 3, ground := Go.Ground.chain }, { on := 0, ground := Go.Ground.phase }, { on := 1, ground := Go.Ground.phase }, { on := 2, ground := Go.Ground.textOnly Go.Departure.lateStores }, { on := 3, ground := Go.Ground.textOnly Go.Departure.lateStoresUnsure }, { on := 4, ground := Go.Ground.phase }, { on := 5, ground := Go.Ground.phase }], guard := none }) rfl (fun K hK => ?_) AllReadyH.nil
            rw [if_pos (by rfl)]
            refine wp_store_row 33 _ _ rfl (V.heap.size) c25 rfl rfl 33 zS N3w30.out (info33s c25 Xc25.out.1) Xc25.out.1.symm (all_one Xc25.out.2) ?_
            refine hK.out _ _ (lies_range (Lies.row (show (w30.setRow (V.heap.size) c25).heap[g]? = some (.cells cs 33 (0, 0)) from (setRow_other w30 (V.heap.size) g c25 hg3).trans HRw30.out))) (fun hHeld => ?_)
            clear hK K
            simp only [Act.put]
            refine wpAnyH_ready (rs := [7]) (by kernel_rfl) (by simp) ?_
            refine AllReadyH.cons (o := { dst := none, op := Go.Op.store 33 (Go.Operand.tmp 4) (Go.Operand.tmp 15), type := 0, pos := "law.go:80", after := #[{ on := 5, ground := Go.Ground.data }, { on := 3, ground := Go.Ground.data }, { on := 6, ground := Go.Ground.chain }, { on := 0, ground := Go.Ground.phase }, { on := 1, ground := Go.Ground.phase }, { on := 2, ground := Go.Ground.phase }, { on := 3, ground := Go.Ground.phase }, { on := 4, ground := Go.Ground.phase }, { on := 5, ground := Go.Ground.phase }, { on := 6, ground := Go.Ground.phase }], guard := none }) rfl (fun K hK => ?_) AllReadyH.nil
            rw [if_pos (by rfl)]
            refine wp_store_row 33 _ _ rfl (w24.heap.size) c31 rfl rfl 33 zS ((setRow_other w30 (V.heap.size) (w24.heap.size) c25 (Ne.symm hne)).trans N4w30.out) (info33s c31 Xc31.out.1) Xc31.out.1.symm (all_one Xc31.out.2) ?_
            refine hK.out _ _ (lies_range (Lies.row (show ((w30.setRow (V.heap.size) c25).setRow (w24.heap.size) c31).heap[g]? = some (.cells cs 33 (0, 0)) from (setRow_other (w30.setRow (V.heap.size) c25) (w24.heap.size) g c31 hg4).trans ((setRow_other w30 (V.heap.size) g c25 hg3).trans HRw30.out)))) (fun hHeld => ?_)
            clear hK K
            simp only [Act.put]
            refine wpAnyH_done (by kernel_rfl) ?_ _
            go_wp2_with fail
            go_meet
            case rel => exact ⟨V.heap.size, w24.heap.size, c25, c31, okk V23.heap.size w24, okk V29.heap.size w30, rfl, rfl, own_mk HBw30.out HZw30.out HRw30.out N3w30.out N4w30.out hne P1w30.out T1w30.out P2w30.out T2w30.out O12.out O31.out O41.out O32.out O42.out L1.out L3.out L4.out⟩
      · go_simp
        refine hK.out _ _ (lies_range (Lies.row (row_below (bel1 V23 _) HRV23.out))) (fun hHeld => ?_)
        clear hK K hHeld
        change wpAnyH _ _ _ _ _ _ _ _ (V23.alloc (.cells zS 33))
        have hb := bel1 V23 (.cells zS 33)
        have nn : (V23.alloc (.cells zS 33)).heap[V23.heap.size]? = some (.cells zS 33 (0, 0)) := heap_alloc_new V23 _
        generalize V23.alloc (.cells zS 33) = V32 at hb nn ⊢
        have HBV32 : Hid (Below g w V32) := blt HBV23.out HZV23.out hb
        have HZV32 : Hid (g ≤ V32.heap.size) := Nat.le_trans HZV23.out (Below.size hb)
        have HRV32 : Hid (V32.heap[g]? = some (.cells cs 33 (0, 0))) := row_below hb HRV23.out
        have N3V32 : Hid (V32.heap[V.heap.size]? = some (.cells zS 33 (0, 0))) := row_below hb N3V23.out
        have N4V32 : Hid (V32.heap[V23.heap.size]? = some (.cells zS 33 (0, 0))) := nn
        have L4 : Hid (g < V23.heap.size) := (Array.getElem?_eq_some_iff.1 HRV23.out).1
        have NE : Hid (V.heap.size ≠ V23.heap.size) := Nat.ne_of_lt (Array.getElem?_eq_some_iff.1 N3V23.out).1
        have hHeld : (fun w' => w'.rangeAt g 0 cs.toList) V32 := lies_range (Lies.row HRV32.out)
        clear hb nn
        refine wpAnyH_ready (rs := [1]) (by kernel_rfl) (by simp) ?_
        refine (AllReadyH.cons (o := { dst := some 13, op := Go.Op.call { callee := Go.Callee.value (Go.Operand.func 6), args := #[Go.Operand.tmp 12], argTypes := #[33] }, type := 33, pos := "law.go:80", after := #[{ on := 0, ground := Go.Ground.data }], guard := none }) rfl (fun K hK => ?_) AllReadyH.nil)
        · go_simp
          refine (KC.out V32 HBV32.out).mono ?_
          rintro e w33 ⟨⟨c34, rfl, h1⟩, hb⟩
          have HBw33 : Hid (Below g w w33) := blt HBV32.out HZV32.out hb
          have HZw33 : Hid (g ≤ w33.heap.size) := Nat.le_trans HZV32.out (Below.size hb)
          have HRw33 : Hid (w33.heap[g]? = some (.cells cs 33 (0, 0))) := row_below hb HRV32.out
          have N3w33 : Hid (w33.heap[V.heap.size]? = some (.cells zS 33 (0, 0))) := row_below hb N3V32.out
          have N4w33 : Hid (w33.heap[V23.heap.size]? = some (.cells zS 33 (0, 0))) := row_below hb N4V32.out
          have P1w33 : Hid (Ps (okk V32.heap.size w33) w33 n c34 s) := h1.keep (fun B hB hf => ⟨hf, hB⟩) (fun _ _ _ => rfl)
          have T1w33 : Hid (Below w33.heap.size w33 w33) := Below.refl _ _
          have Xc34 : Hid (c34.size = 31 ∧ ∀ (j : Nat) (v : Value), c34[j]? = some v → v.oneCell' = true) := ⟨h1.size, h1.one⟩
          have L1 : Hid (g + 1 ≤ V32.heap.size) := (Array.getElem?_eq_some_iff.1 HRV32.out).1
          have O31 : Hid ((V.heap.size) < V32.heap.size ∨ w33.heap.size ≤ (V.heap.size)) := .inl (Array.getElem?_eq_some_iff.1 N3V32.out).1
          have O41 : Hid ((V23.heap.size) < V32.heap.size ∨ w33.heap.size ≤ (V23.heap.size)) := .inl (Array.getElem?_eq_some_iff.1 N4V32.out).1
          clear h1 hb hHeld
          refine hK.out _ _ (lies_range (Lies.row HRw33.out)) (fun hHeld => ?_)
          clear hK K
          refine wpAnyH_ready (rs := [3]) (by kernel_rfl) (by simp) ?_
          refine (AllReadyH.cons (o := { dst := some 15, op := Go.Op.call { callee := Go.Callee.value (Go.Operand.func 6), args := #[Go.Operand.tmp 14], argTypes := #[33] }, type := 33, pos := "law.go:80", after := #[{ on := 2, ground := Go.Ground.data }, { on := 1, ground := Go.Ground.chain }], guard := none }) rfl (fun K hK => ?_) AllReadyH.nil)
          · go_simp
            refine (KC.out w33 HBw33.out).mono ?_
            rintro e w35 ⟨⟨c36, rfl, h1⟩, hb⟩
            have HBw35 : Hid (Below g w w35) := blt HBw33.out HZw33.out hb
            have HZw35 : Hid (g ≤ w35.heap.size) := Nat.le_trans HZw33.out (Below.size hb)
            have HRw35 : Hid (w35.heap[g]? = some (.cells cs 33 (0, 0))) := row_below hb HRw33.out
            have N3w35 : Hid (w35.heap[V.heap.size]? = some (.cells zS 33 (0, 0))) := row_below hb N3w33.out
            have N4w35 : Hid (w35.heap[V23.heap.size]? = some (.cells zS 33 (0, 0))) := row_below hb N4w33.out
            have P1w35 : Hid (Ps (okk V32.heap.size w33) w35 n c34 s) := P1w33.out.later T1w33.out.size hb
            have T1w35 : Hid (Below w33.heap.size w33 w35) := bel2 T1w33.out hb
            have P2w35 : Hid (Ps (okk w33.heap.size w35) w35 n c36 s) := h1.keep (fun B hB hf => ⟨hf, hB⟩) (fun _ _ _ => rfl)
            have T2w35 : Hid (Below w35.heap.size w35 w35) := Below.refl _ _
            have Xc36 : Hid (c36.size = 31 ∧ ∀ (j : Nat) (v : Value), c36[j]? = some v → v.oneCell' = true) := ⟨h1.size, h1.one⟩
            have O12 : Hid (w33.heap.size ≤ w33.heap.size) := T1w33.out.size
            have O32 : Hid ((V.heap.size) < w33.heap.size ∨ w35.heap.size ≤ (V.heap.size)) := .inl (Array.getElem?_eq_some_iff.1 N3w33.out).1
            have O42 : Hid ((V23.heap.size) < w33.heap.size ∨ w35.heap.size ≤ (V23.heap.size)) := .inl (Array.getElem?_eq_some_iff.1 N4w33.out).1
            clear h1 hb hHeld
            refine hK.out _ _ (lies_range (Lies.row HRw35.out)) (fun hHeld => ?_)
            clear hK K
            have hne : (V.heap.size) ≠ (V23.heap.size) := NE.out
            have hg3 : g ≠ (V.heap.size) := Nat.ne_of_lt L3.out
            have hg4 : g ≠ (V23.heap.size) := Nat.ne_of_lt L4.out
            refine wpAnyH_ready (rs := [6]) (by kernel_rfl) (by simp) ?_
            refine AllReadyH.cons (o := { dst := none, op := Go.Op.store 33 (Go.Operand.tmp 3) (Go.Operand.tmp 13), type := 0, pos := "law.go:80", after := #[{ on := 4, ground := Go.Ground.data }, { on := 1, ground := Go.Ground.data }, { on := 3, ground := Go.Ground.chain }, { on := 0, ground := Go.Ground.phase }, { on := 1, ground := Go.Ground.phase }, { on := 2, ground := Go.Ground.textOnly Go.Departure.lateStores }, { on := 3, ground := Go.Ground.textOnly Go.Departure.lateStoresUnsure }, { on := 4, ground := Go.Ground.phase }, { on := 5, ground := Go.Ground.phase }], guard := none }) rfl (fun K hK => ?_) AllReadyH.nil
            rw [if_pos (by rfl)]
            refine wp_store_row 33 _ _ rfl (V.heap.size) c34 rfl rfl 33 zS N3w35.out (info33s c34 Xc34.out.1) Xc34.out.1.symm (all_one Xc34.out.2) ?_
            refine hK.out _ _ (lies_range (Lies.row (show (w35.setRow (V.heap.size) c34).heap[g]? = some (.cells cs 33 (0, 0)) from (setRow_other w35 (V.heap.size) g c34 hg3).trans HRw35.out))) (fun hHeld => ?_)
            clear hK K
            simp only [Act.put]
            refine wpAnyH_ready (rs := [7]) (by kernel_rfl) (by simp) ?_
            refine AllReadyH.cons (o := { dst := none, op := Go.Op.store 33 (Go.Operand.tmp 4) (Go.Operand.tmp 15), type := 0, pos := "law.go:80", after := #[{ on := 5, ground := Go.Ground.data }, { on := 3, ground := Go.Ground.data }, { on := 6, ground := Go.Ground.chain }, { on := 0, ground := Go.Ground.phase }, { on := 1, ground := Go.Ground.phase }, { on := 2, ground := Go.Ground.phase }, { on := 3, ground := Go.Ground.phase }, { on := 4, ground := Go.Ground.phase }, { on := 5, ground := Go.Ground.phase }, { on := 6, ground := Go.Ground.phase }], guard := none }) rfl (fun K hK => ?_) AllReadyH.nil
            rw [if_pos (by rfl)]
            refine wp_store_row 33 _ _ rfl (V23.heap.size) c36 rfl rfl 33 zS ((setRow_other w35 (V.heap.size) (V23.heap.size) c34 (Ne.symm hne)).trans N4w35.out) (info33s c36 Xc36.out.1) Xc36.out.1.symm (all_one Xc36.out.2) ?_
            refine hK.out _ _ (lies_range (Lies.row (show ((w35.setRow (V.heap.size) c34).setRow (V23.heap.size) c36).heap[g]? = some (.cells cs 33 (0, 0)) from (setRow_other (w35.setRow (V.heap.size) c34) (V23.heap.size) g c36 hg4).trans ((setRow_other w35 (V.heap.size) g c34 hg3).trans HRw35.out)))) (fun hHeld => ?_)
            clear hK K
            simp only [Act.put]
            refine wpAnyH_done (by kernel_rfl) ?_ _
            go_wp2_with fail
            go_meet
            case rel => exact ⟨V.heap.size, V23.heap.size, c34, c36, okk V32.heap.size w33, okk w33.heap.size w35, rfl, rfl, own_mk HBw35.out HZw35.out HRw35.out N3w35.out N4w35.out hne P1w35.out T1w35.out P2w35.out T2w35.out O12.out O31.out O41.out O32.out O42.out L1.out L3.out L4.out⟩
    · go_simp
      refine hK.out _ _ (lies_range (Lies.row (row_below (bel1 V _) HRV.out))) (fun hHeld => ?_)
      clear hK K hHeld
      change wpAnyH _ _ _ _ _ _ _ _ (V.alloc (.cells zS 33))
      have hb := bel1 V (.cells zS 33)
      have nn : (V.alloc (.cells zS 33)).heap[V.heap.size]? = some (.cells zS 33 (0, 0)) := heap_alloc_new V _
      generalize V.alloc (.cells zS 33) = V37 at hb nn ⊢
      have HBV37 : Hid (Below g w V37) := blt HBV.out HZV.out hb
      have HZV37 : Hid (g ≤ V37.heap.size) := Nat.le_trans HZV.out (Below.size hb)
      have HRV37 : Hid (V37.heap[g]? = some (.cells cs 33 (0, 0))) := row_below hb HRV.out
      have N4V37 : Hid (V37.heap[V.heap.size]? = some (.cells zS 33 (0, 0))) := nn
      have L4 : Hid (g < V.heap.size) := (Array.getElem?_eq_some_iff.1 HRV.out).1
      have hHeld : (fun w' => w'.rangeAt g 0 cs.toList) V37 := lies_range (Lies.row HRV37.out)
      clear hb nn
      refine wpAnyH_ready (rs := [1, 4]) (by kernel_rfl) (by simp) ?_
      refine (AllReadyH.cons (o := { dst := some 13, op := Go.Op.call { callee := Go.Callee.value (Go.Operand.func 6), args := #[Go.Operand.tmp 12], argTypes := #[33] }, type := 33, pos := "law.go:80", after := #[{ on := 0, ground := Go.Ground.data }], guard := none }) rfl (fun K hK => ?_) (AllReadyH.cons (o := { dst := some 3, op := Go.Op.alloc 33, type := 0, pos := "law.go:80", after := #[], guard := none }) rfl (fun K hK => ?_) AllReadyH.nil))
      · go_simp
        refine (KC.out V37 HBV37.out).mono ?_
        rintro e w38 ⟨⟨c39, rfl, h1⟩, hb⟩
        have HBw38 : Hid (Below g w w38) := blt HBV37.out HZV37.out hb
        have HZw38 : Hid (g ≤ w38.heap.size) := Nat.le_trans HZV37.out (Below.size hb)
        have HRw38 : Hid (w38.heap[g]? = some (.cells cs 33 (0, 0))) := row_below hb HRV37.out
        have N4w38 : Hid (w38.heap[V.heap.size]? = some (.cells zS 33 (0, 0))) := row_below hb N4V37.out
        have P1w38 : Hid (Ps (okk V37.heap.size w38) w38 n c39 s) := h1.keep (fun B hB hf => ⟨hf, hB⟩) (fun _ _ _ => rfl)
        have T1w38 : Hid (Below w38.heap.size w38 w38) := Below.refl _ _
        have Xc39 : Hid (c39.size = 31 ∧ ∀ (j : Nat) (v : Value), c39[j]? = some v → v.oneCell' = true) := ⟨h1.size, h1.one⟩
        have L1 : Hid (g + 1 ≤ V37.heap.size) := (Array.getElem?_eq_some_iff.1 HRV37.out).1
        have O41 : Hid ((V.heap.size) < V37.heap.size ∨ w38.heap.size ≤ (V.heap.size)) := .inl (Array.getElem?_eq_some_iff.1 N4V37.out).1
        clear h1 hb hHeld
        refine hK.out _ _ (lies_range (Lies.row HRw38.out)) (fun hHeld => ?_)
        clear hK K
        refine wpAnyH_ready (rs := [3, 4]) (by kernel_rfl) (by simp) ?_
        refine (AllReadyH.cons (o := { dst := some 15, op := Go.Op.call { callee := Go.Callee.value (Go.Operand.func 6), args := #[Go.Operand.tmp 14], argTypes := #[33] }, type := 33, pos := "law.go:80", after := #[{ on := 2, ground := Go.Ground.data }, { on := 1, ground := Go.Ground.chain }], guard := none }) rfl (fun K hK => ?_) (AllReadyH.cons (o := { dst := some 3, op := Go.Op.alloc 33, type := 0, pos := "law.go:80", after := #[], guard := none }) rfl (fun K hK => ?_) AllReadyH.nil))
        · go_simp
          refine (KC.out w38 HBw38.out).mono ?_
          rintro e w40 ⟨⟨c41, rfl, h1⟩, hb⟩
          have HBw40 : Hid (Below g w w40) := blt HBw38.out HZw38.out hb
          have HZw40 : Hid (g ≤ w40.heap.size) := Nat.le_trans HZw38.out (Below.size hb)
          have HRw40 : Hid (w40.heap[g]? = some (.cells cs 33 (0, 0))) := row_below hb HRw38.out
          have N4w40 : Hid (w40.heap[V.heap.size]? = some (.cells zS 33 (0, 0))) := row_below hb N4w38.out
          have P1w40 : Hid (Ps (okk V37.heap.size w38) w40 n c39 s) := P1w38.out.later T1w38.out.size hb
          have T1w40 : Hid (Below w38.heap.size w38 w40) := bel2 T1w38.out hb
          have P2w40 : Hid (Ps (okk w38.heap.size w40) w40 n c41 s) := h1.keep (fun B hB hf => ⟨hf, hB⟩) (fun _ _ _ => rfl)
          have T2w40 : Hid (Below w40.heap.size w40 w40) := Below.refl _ _
          have Xc41 : Hid (c41.size = 31 ∧ ∀ (j : Nat) (v : Value), c41[j]? = some v → v.oneCell' = true) := ⟨h1.size, h1.one⟩
          have O12 : Hid (w38.heap.size ≤ w38.heap.size) := T1w38.out.size
          have O42 : Hid ((V.heap.size) < w38.heap.size ∨ w40.heap.size ≤ (V.heap.size)) := .inl (Array.getElem?_eq_some_iff.1 N4w38.out).1
          clear h1 hb hHeld
          refine hK.out _ _ (lies_range (Lies.row HRw40.out)) (fun hHeld => ?_)
          clear hK K
          refine wpAnyH_ready (rs := [4]) (by kernel_rfl) (by simp) ?_
          refine (AllReadyH.cons (o := { dst := some 3, op := Go.Op.alloc 33, type := 0, pos := "law.go:80", after := #[], guard := none }) rfl (fun K hK => ?_) AllReadyH.nil)
          · go_simp
            refine hK.out _ _ (lies_range (Lies.row (row_below (bel1 w40 _) HRw40.out))) (fun hHeld => ?_)
            clear hK K hHeld
            change wpAnyH _ _ _ _ _ _ _ _ (w40.alloc (.cells zS 33))
            have hb := bel1 w40 (.cells zS 33)
            have nn : (w40.alloc (.cells zS 33)).heap[w40.heap.size]? = some (.cells zS 33 (0, 0)) := heap_alloc_new w40 _
            generalize w40.alloc (.cells zS 33) = V42 at hb nn ⊢
            have HBV42 : Hid (Below g w V42) := blt HBw40.out HZw40.out hb
            have HZV42 : Hid (g ≤ V42.heap.size) := Nat.le_trans HZw40.out (Below.size hb)
            have HRV42 : Hid (V42.heap[g]? = some (.cells cs 33 (0, 0))) := row_below hb HRw40.out
            have N4V42 : Hid (V42.heap[V.heap.size]? = some (.cells zS 33 (0, 0))) := row_below hb N4w40.out
            have P1V42 : Hid (Ps (okk V37.heap.size w38) V42 n c39 s) := P1w40.out.later T1w40.out.size hb
            have T1V42 : Hid (Below w38.heap.size w38 V42) := bel2 T1w40.out hb
            have P2V42 : Hid (Ps (okk w38.heap.size w40) V42 n c41 s) := P2w40.out.later T2w40.out.size hb
            have T2V42 : Hid (Below w40.heap.size w40 V42) := bel2 T2w40.out hb
            have N3V42 : Hid (V42.heap[w40.heap.size]? = some (.cells zS 33 (0, 0))) := nn
            have L3 : Hid (g < w40.heap.size) := (Array.getElem?_eq_some_iff.1 HRw40.out).1
            have NE : Hid (w40.heap.size ≠ V.heap.size) := Nat.ne_of_gt (Array.getElem?_eq_some_iff.1 N4w40.out).1
            have O31 : Hid (w40.heap.size < V37.heap.size ∨ w38.heap.size ≤ w40.heap.size) := .inr T1w40.out.size
            have O32 : Hid (w40.heap.size < w38.heap.size ∨ w40.heap.size ≤ w40.heap.size) := .inr T2w40.out.size
            have hHeld : (fun w' => w'.rangeAt g 0 cs.toList) V42 := lies_range (Lies.row HRV42.out)
            clear hb nn
            have hne : (w40.heap.size) ≠ (V.heap.size) := NE.out
            have hg3 : g ≠ (w40.heap.size) := Nat.ne_of_lt L3.out
            have hg4 : g ≠ (V.heap.size) := Nat.ne_of_lt L4.out
            refine wpAnyH_ready (rs := [6]) (by kernel_rfl) (by simp) ?_
            refine AllReadyH.cons (o := { dst := none, op := Go.Op.store 33 (Go.Operand.tmp 3) (Go.Operand.tmp 13), type := 0, pos := "law.go:80", after := #[{ on := 4, ground := Go.Ground.data }, { on := 1, ground := Go.Ground.data }, { on := 3, ground := Go.Ground.chain }, { on := 0, ground := Go.Ground.phase }, { on := 1, ground := Go.Ground.phase }, { on := 2, ground := Go.Ground.textOnly Go.Departure.lateStores }, { on := 3, ground := Go.Ground.textOnly Go.Departure.lateStoresUnsure }, { on := 4, ground := Go.Ground.phase }, { on := 5, ground := Go.Ground.phase }], guard := none }) rfl (fun K hK => ?_) AllReadyH.nil
            rw [if_pos (by rfl)]
            refine wp_store_row 33 _ _ rfl (w40.heap.size) c39 rfl rfl 33 zS N3V42.out (info33s c39 Xc39.out.1) Xc39.out.1.symm (all_one Xc39.out.2) ?_
            refine hK.out _ _ (lies_range (Lies.row (show (V42.setRow (w40.heap.size) c39).heap[g]? = some (.cells cs 33 (0, 0)) from (setRow_other V42 (w40.heap.size) g c39 hg3).trans HRV42.out))) (fun hHeld => ?_)
            clear hK K
            simp only [Act.put]
            refine wpAnyH_ready (rs := [7]) (by kernel_rfl) (by simp) ?_
            refine AllReadyH.cons (o := { dst := none, op := Go.Op.store 33 (Go.Operand.tmp 4) (Go.Operand.tmp 15), type := 0, pos := "law.go:80", after := #[{ on := 5, ground := Go.Ground.data }, { on := 3, ground := Go.Ground.data }, { on := 6, ground := Go.Ground.chain }, { on := 0, ground := Go.Ground.phase }, { on := 1, ground := Go.Ground.phase }, { on := 2, ground := Go.Ground.phase }, { on := 3, ground := Go.Ground.phase }, { on := 4, ground := Go.Ground.phase }, { on := 5, ground := Go.Ground.phase }, { on := 6, ground := Go.Ground.phase }], guard := none }) rfl (fun K hK => ?_) AllReadyH.nil
            rw [if_pos (by rfl)]
            refine wp_store_row 33 _ _ rfl (V.heap.size) c41 rfl rfl 33 zS ((setRow_other V42 (w40.heap.size) (V.heap.size) c39 (Ne.symm hne)).trans N4V42.out) (info33s c41 Xc41.out.1) Xc41.out.1.symm (all_one Xc41.out.2) ?_
            refine hK.out _ _ (lies_range (Lies.row (show ((V42.setRow (w40.heap.size) c39).setRow (V.heap.size) c41).heap[g]? = some (.cells cs 33 (0, 0)) from (setRow_other (V42.setRow (w40.heap.size) c39) (V.heap.size) g c41 hg4).trans ((setRow_other V42 (w40.heap.size) g c39 hg3).trans HRV42.out)))) (fun hHeld => ?_)
            clear hK K
            simp only [Act.put]
            refine wpAnyH_done (by kernel_rfl) ?_ _
            go_wp2_with fail
            go_meet
            case rel => exact ⟨w40.heap.size, V.heap.size, c39, c41, okk V37.heap.size w38, okk w38.heap.size w40, rfl, rfl, own_mk HBV42.out HZV42.out HRV42.out N3V42.out N4V42.out hne P1V42.out T1V42.out P2V42.out T2V42.out O12.out O31.out O41.out O32.out O42.out L1.out L3.out L4.out⟩
        · go_simp
          refine hK.out _ _ (lies_range (Lies.row (row_below (bel1 w38 _) HRw38.out))) (fun hHeld => ?_)
          clear hK K hHeld
          change wpAnyH _ _ _ _ _ _ _ _ (w38.alloc (.cells zS 33))
          have hb := bel1 w38 (.cells zS 33)
          have nn : (w38.alloc (.cells zS 33)).heap[w38.heap.size]? = some (.cells zS 33 (0, 0)) := heap_alloc_new w38 _
          generalize w38.alloc (.cells zS 33) = V43 at hb nn ⊢
          have HBV43 : Hid (Below g w V43) := blt HBw38.out HZw38.out hb
          have HZV43 : Hid (g ≤ V43.heap.size) := Nat.le_trans HZw38.out (Below.size hb)
          have HRV43 : Hid (V43.heap[g]? = some (.cells cs 33 (0, 0))) := row_below hb HRw38.out
          have N4V43 : Hid (V43.heap[V.heap.size]? = some (.cells zS 33 (0, 0))) := row_below hb N4w38.out
          have P1V43 : Hid (Ps (okk V37.heap.size w38) V43 n c39 s) := P1w38.out.later T1w38.out.size hb
          have T1V43 : Hid (Below w38.heap.size w38 V43) := bel2 T1w38.out hb
          have N3V43 : Hid (V43.heap[w38.heap.size]? = some (.cells zS 33 (0, 0))) := nn
          have L3 : Hid (g < w38.heap.size) := (Array.getElem?_eq_some_iff.1 HRw38.out).1
          have NE : Hid (w38.heap.size ≠ V.heap.size) := Nat.ne_of_gt (Array.getElem?_eq_some_iff.1 N4w38.out).1
          have O31 : Hid (w38.heap.size < V37.heap.size ∨ w38.heap.size ≤ w38.heap.size) := .inr T1w38.out.size
          have hHeld : (fun w' => w'.rangeAt g 0 cs.toList) V43 := lies_range (Lies.row HRV43.out)
          clear hb nn
          refine wpAnyH_ready (rs := [3]) (by kernel_rfl) (by simp) ?_
          refine (AllReadyH.cons (o := { dst := some 15, op := Go.Op.call { callee := Go.Callee.value (Go.Operand.func 6), args := #[Go.Operand.tmp 14], argTypes := #[33] }, type := 33, pos := "law.go:80", after := #[{ on := 2, ground := Go.Ground.data }, { on := 1, ground := Go.Ground.chain }], guard := none }) rfl (fun K hK => ?_) AllReadyH.nil)
          · go_simp
            refine (KC.out V43 HBV43.out).mono ?_
            rintro e w44 ⟨⟨c45, rfl, h1⟩, hb⟩
            have HBw44 : Hid (Below g w w44) := blt HBV43.out HZV43.out hb
            have HZw44 : Hid (g ≤ w44.heap.size) := Nat.le_trans HZV43.out (Below.size hb)
            have HRw44 : Hid (w44.heap[g]? = some (.cells cs 33 (0, 0))) := row_below hb HRV43.out
            have N3w44 : Hid (w44.heap[w38.heap.size]? = some (.cells zS 33 (0, 0))) := row_below hb N3V43.out
            have N4w44 : Hid (w44.heap[V.heap.size]? = some (.cells zS 33 (0, 0))) := row_below hb N4V43.out
            have P1w44 : Hid (Ps (okk V37.heap.size w38) w44 n c39 s) := P1V43.out.later T1V43.out.size hb
            have T1w44 : Hid (Below w38.heap.size w38 w44) := bel2 T1V43.out hb
            have P2w44 : Hid (Ps (okk V43.heap.size w44) w44 n c45 s) := h1.keep (fun B hB hf => ⟨hf, hB⟩) (fun _ _ _ => rfl)
            have T2w44 : Hid (Below w44.heap.size w44 w44) := Below.refl _ _
            have Xc45 : Hid (c45.size = 31 ∧ ∀ (j : Nat) (v : Value), c45[j]? = some v → v.oneCell' = true) := ⟨h1.size, h1.one⟩
            have O12 : Hid (w38.heap.size ≤ V43.heap.size) := T1V43.out.size
            have O32 : Hid ((w38.heap.size) < V43.heap.size ∨ w44.heap.size ≤ (w38.heap.size)) := .inl (Array.getElem?_eq_some_iff.1 N3V43.out).1
            have O42 : Hid ((V.heap.size) < V43.heap.size ∨ w44.heap.size ≤ (V.heap.size)) := .inl (Array.getElem?_eq_some_iff.1 N4V43.out).1
            clear h1 hb hHeld
            refine hK.out _ _ (lies_range (Lies.row HRw44.out)) (fun hHeld => ?_)
            clear hK K
            have hne : (w38.heap.size) ≠ (V.heap.size) := NE.out
            have hg3 : g ≠ (w38.heap.size) := Nat.ne_of_lt L3.out
            have hg4 : g ≠ (V.heap.size) := Nat.ne_of_lt L4.out
            refine wpAnyH_ready (rs := [6]) (by kernel_rfl) (by simp) ?_
            refine AllReadyH.cons (o := { dst := none, op := Go.Op.store 33 (Go.Operand.tmp 3) (Go.Operand.tmp 13), type := 0, pos := "law.go:80", after := #[{ on := 4, ground := Go.Ground.data }, { on := 1, ground := Go.Ground.data }, { on := 3, ground := Go.Ground.chain }, { on := 0, ground := Go.Ground.phase }, { on := 1, ground := Go.Ground.phase }, { on := 2, ground := Go.Ground.textOnly Go.Departure.lateStores }, { on := 3, ground := Go.Ground.textOnly Go.Departure.lateStoresUnsure }, { on := 4, ground := Go.Ground.phase }, { on := 5, ground := Go.Ground.phase }], guard := none }) rfl (fun K hK => ?_) AllReadyH.nil
            rw [if_pos (by rfl)]
            refine wp_store_row 33 _ _ rfl (w38.heap.size) c39 rfl rfl 33 zS N3w44.out (info33s c39 Xc39.out.1) Xc39.out.1.symm (all_one Xc39.out.2) ?_
            refine hK.out _ _ (lies_range (Lies.row (show (w44.setRow (w38.heap.size) c39).heap[g]? = some (.cells cs 33 (0, 0)) from (setRow_other w44 (w38.heap.size) g c39 hg3).trans HRw44.out))) (fun hHeld => ?_)
            clear hK K
            simp only [Act.put]
            refine wpAnyH_ready (rs := [7]) (by kernel_rfl) (by simp) ?_
            refine AllReadyH.cons (o := { dst := none, op := Go.Op.store 33 (Go.Operand.tmp 4) (Go.Operand.tmp 15), type := 0, pos := "law.go:80", after := #[{ on := 5, ground := Go.Ground.data }, { on := 3, ground := Go.Ground.data }, { on := 6, ground := Go.Ground.chain }, { on := 0, ground := Go.Ground.phase }, { on := 1, ground := Go.Ground.phase }, { on := 2, ground := Go.Ground.phase }, { on := 3, ground := Go.Ground.phase }, { on := 4, ground := Go.Ground.phase }, { on := 5, ground := Go.Ground.phase }, { on := 6, ground := Go.Ground.phase }], guard := none }) rfl (fun K hK => ?_) AllReadyH.nil
            rw [if_pos (by rfl)]
            refine wp_store_row 33 _ _ rfl (V.heap.size) c45 rfl rfl 33 zS ((setRow_other w44 (w38.heap.size) (V.heap.size) c39 (Ne.symm hne)).trans N4w44.out) (info33s c45 Xc45.out.1) Xc45.out.1.symm (all_one Xc45.out.2) ?_
            refine hK.out _ _ (lies_range (Lies.row (show ((w44.setRow (w38.heap.size) c39).setRow (V.heap.size) c45).heap[g]? = some (.cells cs 33 (0, 0)) from (setRow_other (w44.setRow (w38.heap.size) c39) (V.heap.size) g c45 hg4).trans ((setRow_other w44 (w38.heap.size) g c39 hg3).trans HRw44.out)))) (fun hHeld => ?_)
            clear hK K
            simp only [Act.put]
            refine wpAnyH_done (by kernel_rfl) ?_ _
            go_wp2_with fail
            go_meet
            case rel => exact ⟨w38.heap.size, V.heap.size, c39, c45, okk V37.heap.size w38, okk V43.heap.size w44, rfl, rfl, own_mk HBw44.out HZw44.out HRw44.out N3w44.out N4w44.out hne P1w44.out T1w44.out P2w44.out T2w44.out O12.out O31.out O41.out O32.out O42.out L1.out L3.out L4.out⟩
      · go_simp
        refine hK.out _ _ (lies_range (Lies.row (row_below (bel1 V37 _) HRV37.out))) (fun hHeld => ?_)
        clear hK K hHeld
        change wpAnyH _ _ _ _ _ _ _ _ (V37.alloc (.cells zS 33))
        have hb := bel1 V37 (.cells zS 33)
        have nn : (V37.alloc (.cells zS 33)).heap[V37.heap.size]? = some (.cells zS 33 (0, 0)) := heap_alloc_new V37 _
        generalize V37.alloc (.cells zS 33) = V46 at hb nn ⊢
        have HBV46 : Hid (Below g w V46) := blt HBV37.out HZV37.out hb
        have HZV46 : Hid (g ≤ V46.heap.size) := Nat.le_trans HZV37.out (Below.size hb)
        have HRV46 : Hid (V46.heap[g]? = some (.cells cs 33 (0, 0))) := row_below hb HRV37.out
        have N4V46 : Hid (V46.heap[V.heap.size]? = some (.cells zS 33 (0, 0))) := row_below hb N4V37.out
        have N3V46 : Hid (V46.heap[V37.heap.size]? = some (.cells zS 33 (0, 0))) := nn
        have L3 : Hid (g < V37.heap.size) := (Array.getElem?_eq_some_iff.1 HRV37.out).1
        have NE : Hid (V37.heap.size ≠ V.heap.size) := Nat.ne_of_gt (Array.getElem?_eq_some_iff.1 N4V37.out).1
        have hHeld : (fun w' => w'.rangeAt g 0 cs.toList) V46 := lies_range (Lies.row HRV46.out)
        clear hb nn
        refine wpAnyH_ready (rs := [1]) (by kernel_rfl) (by simp) ?_
        refine (AllReadyH.cons (o := { dst := some 13, op := Go.Op.call { callee := Go.Callee.value (Go.Operand.func 6), args := #[Go.Operand.tmp 12], argTypes := #[33] }, type := 33, pos := "law.go:80", after := #[{ on := 0, ground := Go.Ground.data }], guard := none }) rfl (fun K hK => ?_) AllReadyH.nil)
        · go_simp
          refine (KC.out V46 HBV46.out).mono ?_
          rintro e w47 ⟨⟨c48, rfl, h1⟩, hb⟩
          have HBw47 : Hid (Below g w w47) := blt HBV46.out HZV46.out hb
          have HZw47 : Hid (g ≤ w47.heap.size) := Nat.le_trans HZV46.out (Below.size hb)
          have HRw47 : Hid (w47.heap[g]? = some (.cells cs 33 (0, 0))) := row_below hb HRV46.out
          have N3w47 : Hid (w47.heap[V37.heap.size]? = some (.cells zS 33 (0, 0))) := row_below hb N3V46.out
          have N4w47 : Hid (w47.heap[V.heap.size]? = some (.cells zS 33 (0, 0))) := row_below hb N4V46.out
          have P1w47 : Hid (Ps (okk V46.heap.size w47) w47 n c48 s) := h1.keep (fun B hB hf => ⟨hf, hB⟩) (fun _ _ _ => rfl)
          have T1w47 : Hid (Below w47.heap.size w47 w47) := Below.refl _ _
          have Xc48 : Hid (c48.size = 31 ∧ ∀ (j : Nat) (v : Value), c48[j]? = some v → v.oneCell' = true) := ⟨h1.size, h1.one⟩
          have L1 : Hid (g + 1 ≤ V46.heap.size) := (Array.getElem?_eq_some_iff.1 HRV46.out).1
          have O31 : Hid ((V37.heap.size) < V46.heap.size ∨ w47.heap.size ≤ (V37.heap.size)) := .inl (Array.getElem?_eq_some_iff.1 N3V46.out).1
          have O41 : Hid ((V.heap.size) < V46.heap.size ∨ w47.heap.size ≤ (V.heap.size)) := .inl (Array.getElem?_eq_some_iff.1 N4V46.out).1
          clear h1 hb hHeld
          refine hK.out _ _ (lies_range (Lies.row HRw47.out)) (fun hHeld => ?_)
          clear hK K
          refine wpAnyH_ready (rs := [3]) (by kernel_rfl) (by simp) ?_
          refine (AllReadyH.cons (o := { dst := some 15, op := Go.Op.call { callee := Go.Callee.value (Go.Operand.func 6), args := #[Go.Operand.tmp 14], argTypes := #[33] }, type := 33, pos := "law.go:80", after := #[{ on := 2, ground := Go.Ground.data }, { on := 1, ground := Go.Ground.chain }], guard := none }) rfl (fun K hK => ?_) AllReadyH.nil)
          · go_simp
            refine (KC.out w47 HBw47.out).mono ?_
            rintro e w49 ⟨⟨c50, rfl, h1⟩, hb⟩
            have HBw49 : Hid (Below g w w49) := blt HBw47.out HZw47.out hb
            have HZw49 : Hid (g ≤ w49.heap.size) := Nat.le_trans HZw47.out (Below.size hb)
            have HRw49 : Hid (w49.heap[g]? = some (.cells cs 33 (0, 0))) := row_below hb HRw47.out
            have N3w49 : Hid (w49.heap[V37.heap.size]? = some (.cells zS 33 (0, 0))) := row_below hb N3w47.out
            have N4w49 : Hid (w49.heap[V.heap.size]? = some (.cells zS 33 (0, 0))) := row_below hb N4w47.out
            have P1w49 : Hid (Ps (okk V46.heap.size w47) w49 n c48 s) := P1w47.out.later T1w47.out.size hb
            have T1w49 : Hid (Below w47.heap.size w47 w49) := bel2 T1w47.out hb
            have P2w49 : Hid (Ps (okk w47.heap.size w49) w49 n c50 s) := h1.keep (fun B hB hf => ⟨hf, hB⟩) (fun _ _ _ => rfl)
            have T2w49 : Hid (Below w49.heap.size w49 w49) := Below.refl _ _
            have Xc50 : Hid (c50.size = 31 ∧ ∀ (j : Nat) (v : Value), c50[j]? = some v → v.oneCell' = true) := ⟨h1.size, h1.one⟩
            have O12 : Hid (w47.heap.size ≤ w47.heap.size) := T1w47.out.size
            have O32 : Hid ((V37.heap.size) < w47.heap.size ∨ w49.heap.size ≤ (V37.heap.size)) := .inl (Array.getElem?_eq_some_iff.1 N3w47.out).1
            have O42 : Hid ((V.heap.size) < w47.heap.size ∨ w49.heap.size ≤ (V.heap.size)) := .inl (Array.getElem?_eq_some_iff.1 N4w47.out).1
            clear h1 hb hHeld
            refine hK.out _ _ (lies_range (Lies.row HRw49.out)) (fun hHeld => ?_)
            clear hK K
            have hne : (V37.heap.size) ≠ (V.heap.size) := NE.out
            have hg3 : g ≠ (V37.heap.size) := Nat.ne_of_lt L3.out
            have hg4 : g ≠ (V.heap.size) := Nat.ne_of_lt L4.out
            refine wpAnyH_ready (rs := [6]) (by kernel_rfl) (by simp) ?_
            refine AllReadyH.cons (o := { dst := none, op := Go.Op.store 33 (Go.Operand.tmp 3) (Go.Operand.tmp 13), type := 0, pos := "law.go:80", after := #[{ on := 4, ground := Go.Ground.data }, { on := 1, ground := Go.Ground.data }, { on := 3, ground := Go.Ground.chain }, { on := 0, ground := Go.Ground.phase }, { on := 1, ground := Go.Ground.phase }, { on := 2, ground := Go.Ground.textOnly Go.Departure.lateStores }, { on := 3, ground := Go.Ground.textOnly Go.Departure.lateStoresUnsure }, { on := 4, ground := Go.Ground.phase }, { on := 5, ground := Go.Ground.phase }], guard := none }) rfl (fun K hK => ?_) AllReadyH.nil
            rw [if_pos (by rfl)]
            refine wp_store_row 33 _ _ rfl (V37.heap.size) c48 rfl rfl 33 zS N3w49.out (info33s c48 Xc48.out.1) Xc48.out.1.symm (all_one Xc48.out.2) ?_
            refine hK.out _ _ (lies_range (Lies.row (show (w49.setRow (V37.heap.size) c48).heap[g]? = some (.cells cs 33 (0, 0)) from (setRow_other w49 (V37.heap.size) g c48 hg3).trans HRw49.out))) (fun hHeld => ?_)
            clear hK K
            simp only [Act.put]
            refine wpAnyH_ready (rs := [7]) (by kernel_rfl) (by simp) ?_
            refine AllReadyH.cons (o := { dst := none, op := Go.Op.store 33 (Go.Operand.tmp 4) (Go.Operand.tmp 15), type := 0, pos := "law.go:80", after := #[{ on := 5, ground := Go.Ground.data }, { on := 3, ground := Go.Ground.data }, { on := 6, ground := Go.Ground.chain }, { on := 0, ground := Go.Ground.phase }, { on := 1, ground := Go.Ground.phase }, { on := 2, ground := Go.Ground.phase }, { on := 3, ground := Go.Ground.phase }, { on := 4, ground := Go.Ground.phase }, { on := 5, ground := Go.Ground.phase }, { on := 6, ground := Go.Ground.phase }], guard := none }) rfl (fun K hK => ?_) AllReadyH.nil
            rw [if_pos (by rfl)]
            refine wp_store_row 33 _ _ rfl (V.heap.size) c50 rfl rfl 33 zS ((setRow_other w49 (V37.heap.size) (V.heap.size) c48 (Ne.symm hne)).trans N4w49.out) (info33s c50 Xc50.out.1) Xc50.out.1.symm (all_one Xc50.out.2) ?_
            refine hK.out _ _ (lies_range (Lies.row (show ((w49.setRow (V37.heap.size) c48).setRow (V.heap.size) c50).heap[g]? = some (.cells cs 33 (0, 0)) from (setRow_other (w49.setRow (V37.heap.size) c48) (V.heap.size) g c50 hg4).trans ((setRow_other w49 (V37.heap.size) g c48 hg3).trans HRw49.out)))) (fun hHeld => ?_)
            clear hK K
            simp only [Act.put]
            refine wpAnyH_done (by kernel_rfl) ?_ _
            go_wp2_with fail
            go_meet
            case rel => exact ⟨V37.heap.size, V.heap.size, c48, c50, okk V46.heap.size w47, okk w47.heap.size w49, rfl, rfl, own_mk HBw49.out HZw49.out HRw49.out N3w49.out N4w49.out hne P1w49.out T1w49.out P2w49.out T2w49.out O12.out O31.out O41.out O32.out O42.out L1.out L3.out L4.out⟩

  case rest =>
    obtain ⟨g3, g4, c1, c2, ok1, ok2, rfl, rfl, HO⟩ := hcut
    clear KC HBW0 HRW0 HZW0
    obtain ⟨ta1, tc1, t1, t2⟩ := HO.out.p1.tm
    obtain ⟨ua1, uc1, us, u1, u2, u3, u4⟩ := HO.out.p1.up
    have HT2 : Hid (RowS ok1 wc ta1 2 (s.tm.map Tm.cells)) := t2
    have HU2 : Hid (us.length = s.up.length) := u2
    have HU3 : Hid (RowS ok1 wc ua1 12 us) := u3
    have HU4 : Hid (∀ (i : Nat) r u, us[i]? = some r → s.up[i]? = some u → IsU (IsP ok1 wc n) r u) := u4
    have n3 : ¬ ok1 g3 := fun h => (HO.out.ap g3 h).2.1 rfl
    have N3 : Hid (∀ W', Turn ok1 wc W' → ∀ j, W'.cell? ⟨g3, j, none⟩ = c1[j]?) := fun W' hT j => cell_of_row W' g3 j c1 33 (0, 0) ((hT.out g3 n3).trans HO.out.r3)
    clear t2 u2 u3 u4 n3
    have z3 := N3.out wc (Turn.refl _ _)
    go_wp2_with fail
    go_loopw [19] (fun i wr => ∃ j : Nat, j ≤ s.tm.length ∧ i = .int .i64 j ∧ Hid (Turn ok1 wc wr)) (fun i _ => s.tm.length - (intOf i).toNat)
    case atStart => exact ⟨0, Nat.zero_le _, rfl, Turn.refl _ _⟩
    case round =>
      obtain ⟨j, hj, rfl, HT⟩ := hrel
      clear z3
      have z3 := N3.out wr HT.out
      by_cases hlt : j < s.tm.length
      · obtain ⟨tt, htt⟩ : ∃ tt, s.tm[j]? = some tt := ⟨_, List.getElem?_eq_getElem hlt⟩
        obtain ⟨_, _, TB, tp, hta, hok, hl⟩ := HT2.out j tt.cells (by rw [List.getElem?_map, htt]; rfl)
        obtain ⟨y, hy⟩ := HT.out.int (hl 1 (.int .i64 tt.d) rfl)
        have hf := (HT.out.fz ⟨TB, tp + j * 2 + 1, none⟩).trans (HO.out.fz TB hok _)
        rw [hta] at t1
        have hjl : (j : Int) < (s.tm.length : Int) := by omega
        have HW1 : Hid (wrap64 ((j : Int) + 1) = ((j + 1 : Nat) : Int)) := wr1 hlt (by have := HF.out; omega)
        have HN : Hid (Turn ok1 wc (wr.setCell ⟨TB, tp + j * 2 + 1, none⟩ (.int .i64 (wrap64 (y + 1))))) := HT.out.set _ hok hy
        clear htt hl hok hta
        go_wp2_with fail
        exact ⟨⟨j + 1, hlt, by rw [HW1.out], HN⟩, meas hlt HW1.out⟩
      · obtain rfl : j = s.tm.length := by omega
        clear hlt hj
        go_wp2_with fail
        have HT0 : Hid (Turn ok1 wc wr) := HT
        clear HT z3
        generalize wr = w5 at HT0 ⊢
        go_loopw [35] (fun i wr => ∃ j : Nat, j ≤ s.up.length ∧ i = .int .i64 j ∧ Hid (Turn ok1 wc wr)) (fun i _ => s.up.length - (intOf i).toNat)
        case atStart => exact ⟨0, Nat.zero_le _, rfl, HT0⟩
        case round =>
          obtain ⟨j, hj, rfl, HT⟩ := hrel
          have z3 := N3.out wr HT.out
          by_cases hlt : j < s.up.length
          · obtain ⟨u, hu⟩ : ∃ u, s.up[j]? = some u := ⟨_, List.getElem?_eq_getElem hlt⟩
            obtain ⟨r, hr⟩ : ∃ r, us[j]? = some r := ⟨_, List.getElem?_eq_getElem (by rw [HU2.out]; exact hlt)⟩
            obtain ⟨_, _, UB, up, hua, hok, hl⟩ := HU3.out j r hr
            have ir := HU4.out j r u hr hu
            obtain ⟨k, x, b, st, la, ll, lc, i1, i2, i3, i4, i5, iv⟩ := ir.v
            obtain ⟨y, hy⟩ := HT.out.int (hl 6 _ ir.c6)
            have hs5 := hl 5 _ i5
            have HS5 : Hid (wc.cell? ⟨UB, up + j * 12 + 5, none⟩ = some (.slice la ll lc)) := hs5
            have hf := (HT.out.fz ⟨UB, up + j * 12 + 6, none⟩).trans (HO.out.fz UB hok _)
            rw [hua] at u1
            have hjl : (j : Int) < (s.up.length : Int) := by omega
            have HW1 : Hid (wrap64 ((j : Int) + 1) = ((j + 1 : Nat) : Int)) := wr1 hlt (by have := HF.out; omega)
            have HN : Hid (Turn ok1 wc (wr.setCell ⟨UB, up + j * 12 + 6, none⟩ (.int .i64 (wrap64 (y + 1))))) := HT.out.set _ hok hy
            have HL : Hid (ll ≤ 9223372036854775807) := iv.len
            have HI : Hid (∀ i, i < ll → ∃ B o z, la = some ⟨B, o, none⟩ ∧ ok1 B ∧ wc.cell? ⟨B, o + i * 5 + 1, none⟩ = some (.int .i64 z)) := iv.list
            clear hu hr hua hok hl ir i1 i2 i3 i4 i5 iv hs5
            go_upto_region 13 with fail
            have HT1 : Hid (Turn ok1 wc (wr.setCell ⟨UB, up + j * 12 + 6, none⟩ (.int .i64 (wrap64 (y + 1))))) := HN
            clear hy hf HN z3
            generalize wr.setCell ⟨UB, up + j * 12 + 6, none⟩ (.int .i64 (wrap64 (y + 1))) = w6 at HT1 ⊢
            have z6 := N3.out w6 HT1.out
            have e6 := HT1.out.slice HS5.out
            go_wp2_with fail
            clear z6 e6
            generalize hW6 : w6 = W6 at HT1 ⊢
            clear hW6
            go_loopw [55] (fun i wr => ∃ k : Nat, k ≤ ll ∧ i = .int .i64 k ∧ Hid (Turn ok1 wc wr)) (fun i _ => ll - (intOf i).toNat)
            case atStart => exact ⟨0, Nat.zero_le _, rfl, HT1⟩
            case round =>
              obtain ⟨kk, hk, rfl, HTk⟩ := hrel
              have z7 := N3.out wr HTk.out
              have e7 := HTk.out.slice HS5.out
              by_cases hlk : kk < ll
              · obtain ⟨B, o, z, hla, hokB, hz⟩ := HI.out kk hlk
                obtain ⟨y2, hy2⟩ := HTk.out.int hz
                have hf2 := (HTk.out.fz ⟨B, o + kk * 5 + 1, none⟩).trans (HO.out.fz B hokB _)
                rw [hla] at e7
                have hkl : (kk : Int) < (ll : Int) := by omega
                have HW2 : Hid (wrap64 ((kk : Int) + 1) = ((kk + 1 : Nat) : Int)) := wr1 hlk HL.out
                have HN2 : Hid (Turn ok1 wc (wr.setCell ⟨B, o + kk * 5 + 1, none⟩ (.int .i64 (wrap64 (y2 + 1))))) := HTk.out.set _ hokB hy2
                clear hla hokB hz
                go_wp2_with fail
                exact ⟨⟨kk + 1, hlk, by rw [HW2.out], HN2⟩, meas hlk HW2.out⟩
              · obtain rfl : kk = ll := by omega
                clear hlk hk
                go_wp2_with fail
                exact ⟨⟨j + 1, hlt, by rw [HW1.out], HTk⟩, meas hlt HW1.out⟩
          · obtain rfl : j = s.up.length := by omega
            clear hlt hj z3
            have n4 : ¬ ok1 g4 := fun h => (HO.out.ap g4 h).2.2.1 rfl
            have ng : ¬ ok1 g := fun h => by have := (HO.out.ap g h).2.2.2; omega
            have q4 : wr.heap[g4]? = some (.cells c2 33 (0, 0)) := (HT.out.out g4 n4).trans HO.out.r4
            have qg : wr.heap[g]? = some (.cells cs 33 (0, 0)) := (HT.out.out g ng).trans HO.out.rs
            have hi2 := info33s c2 HO.out.p2.size
            have HBr : Hid (Below g w wr) := ⟨HT.out.os.trans HO.out.bel.os, HT.out.tape.trans HO.out.bel.tape, HT.out.output.trans HO.out.bel.output, by rw [HT.out.size]; exact HO.out.bel.size, fun k hk => (HT.out.out k fun h => by have := (HO.out.ap k h).2.2.2; omega).trans (HO.out.bel.block k hk)⟩
            have R2 : Hid (Rs wr n c2 s) := (HO.out.p2.keep (fun _ _ h => h) fun B _ h => HT.out.out B fun h' => (HO.out.ap B h').1 h).rs
            have R1 : Hid (Rs wr n cs s) := H.out.below (bel_g HG.out HBr.out)
            go_wp2_with (first
              | refine wpList_load_row rfl 33 _ rfl g4 rfl 33 c2 (0, 0) _ q4 Try.underlying33 rfl hi2 ?_
              | refine wpList_load_row rfl 33 _ rfl g rfl 33 cs (0, 0) _ qg Try.underlying33 rfl hi33 ?_)
            refine (KS.out c2 _ R2.out R1.out).mono ?_
            rintro e w8 ⟨rfl, hb8⟩
            have b8 : Hid (Below g w w8) := blt HBr.out (by have := (Array.getElem?_eq_some_iff.1 qg).1; omega) hb8
            have b8z : Hid (g ≤ w8.heap.size) := Nat.le_trans (by have := (Array.getElem?_eq_some_iff.1 qg).1; omega) hb8.size
            clear hb8 q4 qg
            go_wp2_with fail
            refine (awake_calls _).mono ?_
            rintro e w9 ⟨rfl, hb9⟩
            have b9 : Hid (Below g w w9) := blt b8.out b8z.out hb9
            clear hb9
            go_wp2_with fail
            go_ret
            exact ⟨rfl, bel_g HG.out b9.out⟩
end Go.Proofs.Ythhnfeeakdnncaa
