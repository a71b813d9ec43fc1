/- The contracts of Step by a start, of Step that refuses. -/
import Derived.Test.YthhnfeeakdnncaaST
namespace Go.Proofs.Ythhnfeeakdnncaa
open Go.ChangeShapes Go.WideShapes Go.ChangeAt Go.RowKit
theorem ret_cell_tmp {fn : Func} {p q : Tmp} {ty : TypeId} (h : fn.results = #[.cell p ty, .tmp q]) (tmps : Array Value) {w : World} {v u : Value} {a : Addr} (hp : tmps.getD p undef = .pointer (some a)) (hq : tmps.getD q undef = u) (hl : (loadVar ty a).run Try.prog w = .ok v w) : (results fn tmps).run Try.prog w = .ok (.tuple #[v, u]) w := by
  have hp' : tmps[p]?.getD undef = .pointer (some a) := by simpa using hp
  have hq' : tmps[q]?.getD undef = u := by simpa using hq
  simp [results, h, hp', hq', asAddr, hl]
/-- What Step gives, as far as awake asks. -/
def StP (code : Int) (w : World) (e : Ending) (w' : World) : Prop := (∃ cs', e = .returned (.tuple #[.agg cs', .int .i64 code]) ∧ cs'.size = 31 ∧ (∀ (j : Nat) (v : Value), cs'[j]? = some v → v.oneCell' = true) ∧ (code = 0 → cs'[1]? = some (.int .i64 1) ∧ cs'[2]? = some (.int .i64 1))) ∧ Below w.heap.size w w'
set_option maxHeartbeats 2000000 in
set_option maxRecDepth 100000 in
theorem step3 (n : Nat) (cs es : Array Value) (s : Sta) (x : Ev) (w : World) (h : Rs w (n + 1) cs s) (he : IsEv (Is w (n + 1)) es x) (hc : x.c < 18446744073709551616) (hm : MayE (n + 1) x) (sm : SmS (n + 1) s) (sx : SmallW (n + 1) x.v) (lt : s.tm.length ≤ 1000) (lu : s.up.length ≤ 1000) (hk : x.k = 3) (hn : s.count = 0) :
    Calls Try.prog 8 #[.agg cs, .agg es] w (StP 20 w) := by
  have KC : Hid (∀ W, Below w.heap.size w W → Calls Try.prog 6 #[.agg cs] W (ClS (n + 1) W s)) := fun W hB => sclone_calls (n + 1) cs s W (h.below hB) sm lt lu
  have KR : Hid (∀ W, Below w.heap.size w W → Calls Try.prog 15 #[.agg cs, .agg es] W fun e w' => e = .returned (.int .i64 20) ∧ Below W.heap.size W w') := fun W hB => refusal3 n cs es s x W (h.below hB) (he.map fun v t h => h.below hB) hc hm hk hn
  have KE : Hid (∀ W, Below w.heap.size w W → Calls Try.prog 17 #[.agg es] W (EcP (n + 1) W x)) := fun W hB => evcloneA (n + 1) es x W (he.map fun v t h => h.below hB) sx
  have hi33 := info33s cs h.size
  have hi46 := info46s es he.size
  have HQ : Hid (∀ cs' w', cs'.size = 31 → (∀ (j : Nat) (v : Value), cs'[j]? = some v → v.oneCell' = true) → (20 = (0 : Int) → cs'[1]? = some (.int .i64 1) ∧ cs'[2]? = some (.int .i64 1)) → Below w.heap.size w w' → StP 20 w (.returned (.tuple #[.agg cs', .int .i64 20])) w') := fun cs' w' a b c d => ⟨⟨cs', rfl, a, b, c⟩, d⟩
  clear hk hn
  clear h he hc hm sm sx lt lu
  generalize StP 20 w = Q at HQ ⊢
  go_enter Try.func8, Try.ntmps8
  have b0 : Hid (Below w.heap.size w (((w.alloc (.cells cs 33)).alloc (.cells es 46)).alloc (.cells zS 33))) := bel2 (bel2 (bel1 _ _) (bel1 _ _)) (bel1 _ _)
  have r0 : (((w.alloc (.cells cs 33)).alloc (.cells es 46)).alloc (.cells zS 33)).heap[w.heap.size]? = some (.cells cs 33 (0, 0)) := row_below (bel1 _ _) (heap_alloc2_old _ _ _)
  have r1 : (((w.alloc (.cells cs 33)).alloc (.cells es 46)).alloc (.cells zS 33)).heap[w.heap.size + 1]? = some (.cells es 46 (0, 0)) := row_below (bel1 _ _) (heap_alloc2_new _ _ _)
  have r2 : (((w.alloc (.cells cs 33)).alloc (.cells es 46)).alloc (.cells zS 33)).heap[w.heap.size + 1 + 1]? = some (.cells zS 33 (0, 0)) := by
    have := heap_alloc_new ((w.alloc (.cells cs 33)).alloc (.cells es 46)) (.cells zS 33)
    simpa using this
  go_upto_region 1 with fail
  change Code.wp _ _ _ _ (((w.alloc (.cells cs 33)).alloc (.cells es 46)).alloc (.cells zS 33))
  generalize ((w.alloc (.cells cs 33)).alloc (.cells es 46)).alloc (.cells zS 33) = W0 at b0 r0 r1 r2 ⊢
  go_wp2_with (refine wpList_load_row rfl 33 _ rfl w.heap.size rfl 33 cs (0, 0) _ r0 Try.underlying33 rfl hi33 ?_)
  refine (KC.out _ b0.out).mono ?_
  rintro e w1 ⟨⟨c1, rfl, h1⟩, hb⟩
  have hi1 := info33s c1 h1.size
  have z1 : zS.size = c1.size := h1.size.symm
  have a1 := all_one h1.one
  have b1 : Hid (Below w.heap.size w w1) := bel2 b0.out hb
  have s0 := row_below hb r0
  have s1 := row_below hb r1
  have s2 := row_below hb r2
  have H1 : Hid (Ps (Free W0.heap.size w1) w1 (n + 1) c1 s) := h1
  have n1 : (w1.alloc (.cells zS 33)).heap[w1.heap.size]? = some (.cells zS 33 (0, 0)) := heap_alloc_new w1 _
  clear hb r0 r1 r2 h1 KC
  go_upto_region 2 with (refine wpList_store_row rfl 33 _ _ rfl w1.heap.size c1 rfl rfl 33 zS n1 hi1 z1 a1 ?_)
  rw [World.setRow_alloc_new]
  have hb := bel1 w1 (.cells c1 33)
  have t0 := row_below hb s0
  have t1 := row_below hb s1
  have t2 := row_below hb s2
  have t3 : (w1.alloc (.cells c1 33)).heap[w1.heap.size]? = some (.cells c1 33 (0, 0)) := heap_alloc_new w1 _
  have b2 : Hid (Below w.heap.size w (w1.alloc (.cells c1 33))) := bel2 b1.out hb
  have H2 : Hid (Rs (w1.alloc (.cells c1 33)) (n + 1) c1 s) := H1.out.rs.below hb
  clear hb s0 s1 s2 n1
  generalize w1.alloc (.cells c1 33) = W2 at t0 t1 t2 t3 b2 H2 ⊢
  go_wp2_with (first | refine wpList_load_row rfl 33 _ rfl w.heap.size rfl 33 cs (0, 0) _ t0 Try.underlying33 rfl hi33 ?_ | refine wpList_load_row rfl 46 _ rfl (w.heap.size + 1) rfl 46 es (0, 0) _ t1 Try.underlying46 rfl hi46 ?_)
  refine (KR.out _ b2.out).mono ?_
  rintro e w3 ⟨rfl, hb⟩
  have u0 := row_below hb t0
  have u1 := row_below hb t1
  have u2 := row_below hb t2
  have u3 := row_below hb t3
  have b3 : Hid (Below w.heap.size w w3) := bel2 b2.out hb
  have H3 : Hid (Rs w3 (n + 1) c1 s) := H2.out.below hb
  clear hb t0 t1 t2 t3 H2
  go_wp2_with (first | refine wpList_load_row rfl 33 _ rfl w1.heap.size rfl 33 c1 (0, 0) _ u3 Try.underlying33 rfl hi1 ?_ | refine wpList_store_row rfl 33 _ _ rfl (w.heap.size + 1 + 1) c1 rfl rfl 33 zS u2 hi1 z1 a1 ?_)
  have k9 := setRow_heap w3 (w.heap.size + 1 + 1) zS c1 33 (0, 0) u2
  have hl : (loadVar 33 ⟨w.heap.size + 1 + 1, 0, none⟩).run Try.prog (w3.setRow (w.heap.size + 1 + 1) c1) = .ok (.agg c1) (w3.setRow (w.heap.size + 1 + 1) c1) := run_loadVar_row _ (w.heap.size + 1 + 1) 33 33 c1 (0, 0) _ k9 Try.underlying33 rfl hi1
  exact bodyPost_ret (v := .tuple #[.agg c1, .int .i64 20]) (ret_cell_tmp Try.results8 _ rfl rfl hl) rfl (HQ.out c1 _ H3.out.size H3.out.one (fun h => absurd h (by decide)) (below_setRow b3.out (by omega) _))
set_option maxHeartbeats 2000000 in
set_option maxRecDepth 100000 in
theorem step1 (n : Nat) (cs es : Array Value) (s : Sta) (x : Ev) (w : World) (h : Rs w (n + 1) cs s) (he : IsEv (Is w (n + 1)) es x) (hc : x.c < 18446744073709551616) (hm : MayE (n + 1) x) (sm : SmS (n + 1) s) (sx : SmallW (n + 1) x.v) (lt : s.tm.length ≤ 1000) (lu : s.up.length ≤ 1000) (hk : x.k = 1) (hn : s.count = 0) (ht : x.t = 0) (ht2 : s.time = 0) :
    Calls Try.prog 8 #[.agg cs, .agg es] w (StP 0 w) := by
  have KC : Hid (∀ W, Below w.heap.size w W → Calls Try.prog 6 #[.agg cs] W (ClS (n + 1) W s)) := fun W hB => sclone_calls (n + 1) cs s W (h.below hB) sm lt lu
  have KR : Hid (∀ W, Below w.heap.size w W → Calls Try.prog 15 #[.agg cs, .agg es] W fun e w' => e = .returned (.int .i64 0) ∧ Below W.heap.size W w') := fun W hB => refusal1 n cs es s x W (h.below hB) (he.map fun v t h => h.below hB) hc hm hk hn ht ht2
  have KE : Hid (∀ W, Below w.heap.size w W → Calls Try.prog 17 #[.agg es] W (EcP (n + 1) W x)) := fun W hB => evcloneA (n + 1) es x W (he.map fun v t h => h.below hB) sx
  have hi33 := info33s cs h.size
  have hi46 := info46s es he.size
  have HQ : Hid (∀ cs' w', cs'.size = 31 → (∀ (j : Nat) (v : Value), cs'[j]? = some v → v.oneCell' = true) → (0 = (0 : Int) → cs'[1]? = some (.int .i64 1) ∧ cs'[2]? = some (.int .i64 1)) → Below w.heap.size w w' → StP 0 w (.returned (.tuple #[.agg cs', .int .i64 0])) w') := fun cs' w' a b c d => ⟨⟨cs', rfl, a, b, c⟩, d⟩
  have HK : Hid (x.k = 1 ∧ s.count = 0) := ⟨hk, hn⟩
  clear hk hn ht ht2
  clear h he hc hm sm sx lt lu
  generalize StP 0 w = Q at HQ ⊢
  go_enter Try.func8, Try.ntmps8
  have b0 : Hid (Below w.heap.size w (((w.alloc (.cells cs 33)).alloc (.cells es 46)).alloc (.cells zS 33))) := bel2 (bel2 (bel1 _ _) (bel1 _ _)) (bel1 _ _)
  have r0 : (((w.alloc (.cells cs 33)).alloc (.cells es 46)).alloc (.cells zS 33)).heap[w.heap.size]? = some (.cells cs 33 (0, 0)) := row_below (bel1 _ _) (heap_alloc2_old _ _ _)
  have r1 : (((w.alloc (.cells cs 33)).alloc (.cells es 46)).alloc (.cells zS 33)).heap[w.heap.size + 1]? = some (.cells es 46 (0, 0)) := row_below (bel1 _ _) (heap_alloc2_new _ _ _)
  have r2 : (((w.alloc (.cells cs 33)).alloc (.cells es 46)).alloc (.cells zS 33)).heap[w.heap.size + 1 + 1]? = some (.cells zS 33 (0, 0)) := by
    have := heap_alloc_new ((w.alloc (.cells cs 33)).alloc (.cells es 46)) (.cells zS 33)
    simpa using this
  go_upto_region 1 with fail
  change Code.wp _ _ _ _ (((w.alloc (.cells cs 33)).alloc (.cells es 46)).alloc (.cells zS 33))
  generalize ((w.alloc (.cells cs 33)).alloc (.cells es 46)).alloc (.cells zS 33) = W0 at b0 r0 r1 r2 ⊢
  go_wp2_with (refine wpList_load_row rfl 33 _ rfl w.heap.size rfl 33 cs (0, 0) _ r0 Try.underlying33 rfl hi33 ?_)
  refine (KC.out _ b0.out).mono ?_
  rintro e w1 ⟨⟨c1, rfl, h1⟩, hb⟩
  have hi1 := info33s c1 h1.size
  have z1 : zS.size = c1.size := h1.size.symm
  have a1 := all_one h1.one
  have b1 : Hid (Below w.heap.size w w1) := bel2 b0.out hb
  have s0 := row_below hb r0
  have s1 := row_below hb r1
  have s2 := row_below hb r2
  have H1 : Hid (Ps (Free W0.heap.size w1) w1 (n + 1) c1 s) := h1
  have n1 : (w1.alloc (.cells zS 33)).heap[w1.heap.size]? = some (.cells zS 33 (0, 0)) := heap_alloc_new w1 _
  have HS1 : Hid (w.heap.size + 1 + 1 < W0.heap.size ∧ ∀ a b : Nat, a = b → True) := ⟨(Array.getElem?_eq_some_iff.1 r2).1, fun _ _ _ => trivial⟩
  have HL1 : Hid (W0.heap.size ≤ w1.heap.size) := hb.size
  clear hb r0 r1 r2 h1 KC
  go_upto_region 2 with (refine wpList_store_row rfl 33 _ _ rfl w1.heap.size c1 rfl rfl 33 zS n1 hi1 z1 a1 ?_)
  rw [World.setRow_alloc_new]
  have hb := bel1 w1 (.cells c1 33)
  have t0 := row_below hb s0
  have t1 := row_below hb s1
  have t2 := row_below hb s2
  have t3 : (w1.alloc (.cells c1 33)).heap[w1.heap.size]? = some (.cells c1 33 (0, 0)) := heap_alloc_new w1 _
  have b2 : Hid (Below w.heap.size w (w1.alloc (.cells c1 33))) := bel2 b1.out hb
  have H2 : Hid (Rs (w1.alloc (.cells c1 33)) (n + 1) c1 s) := H1.out.rs.below hb
  clear hb s0 s1 s2 n1
  generalize w1.alloc (.cells c1 33) = W2 at t0 t1 t2 t3 b2 H2 ⊢
  go_wp2_with (first | refine wpList_load_row rfl 33 _ rfl w.heap.size rfl 33 cs (0, 0) _ t0 Try.underlying33 rfl hi33 ?_ | refine wpList_load_row rfl 46 _ rfl (w.heap.size + 1) rfl 46 es (0, 0) _ t1 Try.underlying46 rfl hi46 ?_)
  refine (KR.out _ b2.out).mono ?_
  rintro e w3 ⟨rfl, hb⟩
  have u0 := row_below hb t0
  have u1 := row_below hb t1
  have u2 := row_below hb t2
  have u3 := row_below hb t3
  have b3 : Hid (Below w.heap.size w w3) := bel2 b2.out hb
  have H3 : Hid (Rs w3 (n + 1) c1 s) := H2.out.below hb
  clear hb t0 t1 t2 t3 H2
  go_wp2_with (refine wpList_load_row rfl 46 _ rfl (w.heap.size + 1) rfl 46 es (0, 0) _ u1 Try.underlying46 rfl hi46 ?_)
  refine (KE.out _ b3.out).mono ?_
  rintro e w4 ⟨⟨e1, rfl, h4⟩, hb⟩
  have v2 := row_below hb u2
  have v3 := row_below hb u3
  have b4 : Hid (Below w.heap.size w w4) := bel2 b3.out hb
  have KG := change1 (n + 1) w1.heap.size c1 e1 s x w4 v3 (H3.out.below hb) (h4.map fun v t h => h.is) HK.out.1 HK.out.2
  have hw1 : w.heap.size + 1 + 1 < w1.heap.size := Nat.lt_of_lt_of_le HS1.out.1 HL1.out
  clear hb u0 u1 u2 u3 h4
  go_wp2_with fail
  refine KG.mono ?_
  rintro e w5 ⟨rfl, hk, c5, r5, s5, o5, x1, x2⟩
  have v5 := row_kb v2 hk (by omega)
  have b5 : Hid (Below w.heap.size w w5) := b4.out.trans (hk.below (by omega) (by have := b4.out.size; omega))
  have hi5 := info33s c5 s5
  have z5 : zS.size = c5.size := s5.symm
  have a5 := all_one o5
  clear hk KG v2 v3
  go_wp2_with (first | refine wpList_load_row rfl 33 _ rfl w1.heap.size rfl 33 c5 (0, 0) _ r5 Try.underlying33 rfl hi5 ?_ | refine wpList_store_row rfl 33 _ _ rfl (w.heap.size + 1 + 1) c5 rfl rfl 33 zS v5 hi5 z5 a5 ?_)
  have k9 := setRow_heap w5 (w.heap.size + 1 + 1) zS c5 33 (0, 0) v5
  have hl : (loadVar 33 ⟨w.heap.size + 1 + 1, 0, none⟩).run Try.prog (w5.setRow (w.heap.size + 1 + 1) c5) = .ok (.agg c5) (w5.setRow (w.heap.size + 1 + 1) c5) := run_loadVar_row _ (w.heap.size + 1 + 1) 33 33 c5 (0, 0) _ k9 Try.underlying33 rfl hi5
  exact bodyPost_ret (v := .tuple #[.agg c5, .int .i64 0]) (ret_cell_tmp Try.results8 _ rfl rfl hl) rfl (HQ.out c5 _ s5 o5 (fun _ => ⟨x1, x2⟩) (below_setRow b5.out (by omega) _))
end Go.Proofs.Ythhnfeeakdnncaa
