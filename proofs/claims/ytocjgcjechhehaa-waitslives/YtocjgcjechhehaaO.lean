/- The contracts of turned, Hand, Answer, Refuse. -/
import Derived.Test.YtocjgcjechhehaaM
import Derived.Test.YtocjgcjechhehaaN
namespace Go.Proofs.Ytocjgcjechhehaa
open Go.ChangeAt Go.ChangeShapes Go.Deep Go.RowKit Go.WideShapes
theorem map_snoc {f : Wt → Wt} {ws : List Wt} {j : Nat} {x : Wt} (h : ws[j]? = some x) : (ws.take (j + 1)).map f = (ws.take j).map f ++ [f x] := by
  rw [List.take_add_one, h, List.map_append]
  rfl
set_option maxHeartbeats 4000000 in
set_option maxRecDepth 100000 in
theorem turned48 (n : Nat) (a : Option Addr) (c N : Nat) (ws : List Wt) (f : Wt → Wt) (g0 g1 g2 g3 : Nat) (hN : ws.length = N) (hl : N ≤ 1000) (w : World) (hR : LsW w n a ws) (hs : ∀ x ∈ ws, SmX n x)
    (hT : ∀ (W : World) (b : Nat) (cs : Array Value) (x : Wt), Below w.heap.size w W → w.heap.size ≤ b → W.heap[b]? = some (.cells cs 29 (0, 0)) → IsW (IsN (b + 1) W n) cs x → Calls Try.prog 48 #[.pointer (some ⟨b, 0, none⟩), .pointer (some ⟨g0, 0, none⟩), .pointer (some ⟨g1, 0, none⟩), .pointer (some ⟨g2, 0, none⟩), .pointer (some ⟨g3, 0, none⟩)] W (TuP n b (f x) W)) :
    Calls Try.prog 41 #[.slice a N c, .func (.func 48) #[] #[.pointer (some ⟨g0, 0, none⟩), .pointer (some ⟨g1, 0, none⟩), .pointer (some ⟨g2, 0, none⟩), .pointer (some ⟨g3, 0, none⟩)]] w (RetW n w (ws.map f)) := by
  have HR : Hid (LsW w n a ws) := hR
  have HS : Hid (∀ x ∈ ws, SmX n x) := hs
  have HN : Hid (ws.length = N) := hN
  have HL : Hid (N ≤ 1000) := hl
  have HT : Hid (∀ (W : World) (b : Nat) (cs : Array Value) (x : Wt), Below w.heap.size w W → w.heap.size ≤ b → W.heap[b]? = some (.cells cs 29 (0, 0)) → IsW (IsN (b + 1) W n) cs x → Calls Try.prog 48 #[.pointer (some ⟨b, 0, none⟩), .pointer (some ⟨g0, 0, none⟩), .pointer (some ⟨g1, 0, none⟩), .pointer (some ⟨g2, 0, none⟩), .pointer (some ⟨g3, 0, none⟩)] W (TuP n b (f x) W)) := hT
  have HQ : Hid (∀ v W', GrW w.heap.size n W' v (ws.map f) → Below w.heap.size w W' → RetW n w (ws.map f) (.returned v) W') := fun v W' h hb => h.ret hb
  generalize RetW n w (ws.map f) = Q at HQ ⊢
  clear hR hs hN hl hT
  go_enter Try.func41, Try.ntmps41
  go_wp2_with fail
  go_loopw [5, 10] (fun v i wr => ∃ j : Nat, j ≤ N ∧ i = .int .i64 (j : Int) ∧ Hid (GrW w.heap.size n wr v ((ws.take j).map f)) ∧ Hid (Below w.heap.size w wr)) (fun _ i _ => N - (intOf i).toNat)
  case atStart => exact ⟨0, Nat.zero_le _, rfl, GrW.nil _ _ _, Below.refl _ _⟩
  case round =>
    obtain ⟨j, hj, rfl, HG, HB⟩ := hrel
    obtain ⟨va, vc, hva, _, _⟩ := HG.out.shape
    have hvl : ((ws.take j).map f).length = j := by rw [List.length_map, List.length_take, HN.out]; omega
    rw [hvl] at hva
    have HVL : Hid (((ws.take j).map f).length = j) := hvl
    subst hva
    clear hvl
    by_cases hlt : j < N
    · obtain ⟨x, hx⟩ : ∃ x, ws[j]? = some x := ⟨_, List.getElem?_eq_getElem (by rw [HN.out]; exact hlt)⟩
      obtain ⟨B, o, cs, rfl, hli, hi⟩ := HR.out j x hx
      have HX : Hid (ws[j]? = some x) := hx
      have HI : Hid (IsW (Is w n) cs x) := hi
      have hrng := lies_range (hli.below HB.out)
      have hi29 : (Try.prog.info? 29).map (·.size) = some cs.toList.length := by rw [Array.length_toList]; exact info29s cs hi.size
      have hi29' := info29s cs hi.size
      have ho : zW.size = cs.size := hi.size.symm
      have h1 := all_one hi.one
      have hz : (wr.alloc (.cells zW 29)).heap[wr.heap.size]? = some (.cells zW 29 (0, 0)) := heap_alloc_new wr _
      have hjl : (j : Int) < (N : Int) := by omega
      have HW : Hid (wrap64 ((j : Int) + 1) = ((j + 1 : Nat) : Int)) := wr1 hlt (by have := HL.out; omega)
      clear hx hi hli
      go_upto_region 5 with (first
        | refine wpList_load_mid rfl 29 _ rfl B (o + j * 19) rfl cs.toList _ hrng Try.underlying29 rfl hi29 ?_
        | refine wpList_store_row rfl 29 _ _ rfl wr.heap.size cs rfl rfl 29 zW hz hi29' ho h1 ?_)
      rw [World.setRow_alloc_new]
      have HBa : Hid (Below wr.heap.size wr (wr.alloc (.cells cs 29))) := bel1 wr _
      have hrow : (wr.alloc (.cells cs 29)).heap[wr.heap.size]? = some (.cells cs 29 (0, 0)) := heap_alloc_new wr _
      have HSa : Hid ((wr.alloc (.cells cs 29)).heap.size = wr.heap.size + 1) := by show _ = _; simp
      generalize wr.alloc (.cells cs 29) = Wa at HBa hrow HSa ⊢
      clear hz ho hrng
      have KC : Hid (Calls Try.prog 33 #[.agg cs] Wa (ClW n Wa x)) := clone_calls n cs x Wa (HI.out.map fun _ _ h => h.below (bel2 HB.out HBa.out)) (HS.out x (List.mem_of_getElem? HX.out))
      have HCs : Hid (cs.size = 19) := HI.out.size
      go_wp2_with (refine wpList_load_row rfl 29 _ rfl wr.heap.size rfl 29 cs (0, 0) _ hrow Try.underlying29 rfl hi29' ?_)
      refine KC.out.mono ?_
      rintro e w1 ⟨⟨us, rfl, hi1⟩, hb1⟩
      have hrow1 : w1.heap[wr.heap.size]? = some (.cells cs 29 (0, 0)) := row_below hb1 hrow
      have hu := info29s us hi1.size
      have ho1 : cs.size = us.size := HCs.out.trans hi1.size.symm
      have h11 := all_one hi1.one
      have HB1 : Hid (Below wr.heap.size wr w1) := bel2 HBa.out hb1
      have HI1 : Hid (IsW (IsN (wr.heap.size + 1) w1 n) us x) := by rw [HSa.out] at hi1; exact hi1
      clear hrow hi1 hb1 KC hi29 hi29' h1
      go_upto_region 6 with (refine wpList_store_row rfl 29 _ _ rfl wr.heap.size us rfl rfl 29 cs hrow1 hu ho1 h11 ?_)
      have HK2 : Hid (KB wr.heap.size w1 (w1.setRow wr.heap.size us)) := setRow_kb w1 wr.heap.size us
      have hrow2 := setRow_heap w1 wr.heap.size cs us 29 (0, 0) hrow1
      have hbl : wr.heap.size < w1.heap.size := (Array.getElem?_eq_some_iff.1 hrow1).1
      generalize w1.setRow wr.heap.size us = W2 at HK2 hrow2 ⊢
      have HK0 : Hid (KB wr.heap.size wr W2) := (KB.of_below HB1.out).trans HK2.out
      have HT2 : Hid (Calls Try.prog 48 _ W2 _) := HT.out W2 wr.heap.size us x (HB.out.trans (HK0.out.below HB.out.size HB.out.size)) HB.out.size hrow2 (HI1.out.map fun _ _ h => h.kb HK2.out (Nat.lt_succ_self _))
      clear hrow1 hrow2 hu ho1 h11 hbl
      go_wp2_with fail
      refine HT2.out.mono ?_
      rintro e w3 ⟨rfl, hk3, cs3, hr3, hi3⟩
      have hu3 := info29s cs3 hi3.size
      have hk := HK0.out.trans hk3
      have hb3 : Below wr.heap.size wr w3 := hk.below (Nat.le_refl _) (Nat.le_refl _)
      obtain ⟨a2, c2, w4, hrun, hg2, hb4, _⟩ := HG.out.push HB.out.size hb3 (b := wr.heap.size + 1) (by omega) (by omega) hi3 (by rw [HVL.out]; have := HL.out; omega)
      rw [← map_snoc HX.out, HVL.out] at hg2
      rw [HVL.out] at hrun
      have HRun : Hid (∀ ty, _) := hrun
      have HG2 : Hid (GrW w.heap.size n w4 (.slice a2 (j + 1) c2) ((ws.take (j + 1)).map f)) := hg2
      have HB4 : Hid (Below w.heap.size w w4) := HB.out.trans hb4
      have hsl := slice1 cs3 hi3.size w3
      clear hrun hg2 hb4 hb3 hk hk3 hi3 HG HT2
      go_wp2_with (first
        | refine wpList_load_row rfl 29 _ rfl wr.heap.size rfl 29 cs3 (0, 0) _ hr3 Try.underlying29 rfl hu3 ?_
        | refine wpList_slice_run rfl 22 _ rfl (.agg cs3) rfl _ _ hsl ?_
        | (at_builtin; refine Lib.wpList_append_run _ rfl _ _ 22 22 rfl _ _ rfl rfl _ _ (HRun.out _) ?_))
      exact ⟨⟨j + 1, hlt, by first | rw [HW.out] | exact congrArg _ (Int.natCast_succ j).symm, HG2, HB4⟩, by first | exact meas hlt HW.out | exact meas hlt (Int.natCast_succ j).symm⟩
    · obtain rfl : j = N := by omega
      have ht : ws.take j = ws := List.take_of_length_le (by rw [HN.out]; exact Nat.le_refl _)
      have HG1 : Hid (GrW w.heap.size n wr (.slice va j vc) (ws.map f)) := by have h := HG.out; rw [ht] at h; exact h
      clear ht HG
      go_wp2_with fail
      exact HQ.out _ _ HG1.out HB.out
set_option maxHeartbeats 4000000 in
set_option maxRecDepth 100000 in
theorem turned42 (n : Nat) (a : Option Addr) (c N : Nat) (ws : List Wt) (f : Wt → Wt) (g0 g1 : Nat) (hN : ws.length = N) (hl : N ≤ 1000) (w : World) (hR : LsW w n a ws) (hs : ∀ x ∈ ws, SmX n x)
    (hT : ∀ (W : World) (b : Nat) (cs : Array Value) (x : Wt), Below w.heap.size w W → w.heap.size ≤ b → W.heap[b]? = some (.cells cs 29 (0, 0)) → IsW (IsN (b + 1) W n) cs x → Calls Try.prog 42 #[.pointer (some ⟨b, 0, none⟩), .pointer (some ⟨g0, 0, none⟩), .pointer (some ⟨g1, 0, none⟩)] W (TuP n b (f x) W)) :
    Calls Try.prog 41 #[.slice a N c, .func (.func 42) #[] #[.pointer (some ⟨g0, 0, none⟩), .pointer (some ⟨g1, 0, none⟩)]] w (RetW n w (ws.map f)) := by
  have HR : Hid (LsW w n a ws) := hR
  have HS : Hid (∀ x ∈ ws, SmX n x) := hs
  have HN : Hid (ws.length = N) := hN
  have HL : Hid (N ≤ 1000) := hl
  have HT : Hid (∀ (W : World) (b : Nat) (cs : Array Value) (x : Wt), Below w.heap.size w W → w.heap.size ≤ b → W.heap[b]? = some (.cells cs 29 (0, 0)) → IsW (IsN (b + 1) W n) cs x → Calls Try.prog 42 #[.pointer (some ⟨b, 0, none⟩), .pointer (some ⟨g0, 0, none⟩), .pointer (some ⟨g1, 0, none⟩)] W (TuP n b (f x) W)) := hT
  have HQ : Hid (∀ v W', GrW w.heap.size n W' v (ws.map f) → Below w.heap.size w W' → RetW n w (ws.map f) (.returned v) W') := fun v W' h hb => h.ret hb
  generalize RetW n w (ws.map f) = Q at HQ ⊢
  clear hR hs hN hl hT
  go_enter Try.func41, Try.ntmps41
  go_wp2_with fail
  go_loopw [5, 10] (fun v i wr => ∃ j : Nat, j ≤ N ∧ i = .int .i64 (j : Int) ∧ Hid (GrW w.heap.size n wr v ((ws.take j).map f)) ∧ Hid (Below w.heap.size w wr)) (fun _ i _ => N - (intOf i).toNat)
  case atStart => exact ⟨0, Nat.zero_le _, rfl, GrW.nil _ _ _, Below.refl _ _⟩
  case round =>
    obtain ⟨j, hj, rfl, HG, HB⟩ := hrel
    obtain ⟨va, vc, hva, _, _⟩ := HG.out.shape
    have hvl : ((ws.take j).map f).length = j := by rw [List.length_map, List.length_take, HN.out]; omega
    rw [hvl] at hva
    have HVL : Hid (((ws.take j).map f).length = j) := hvl
    subst hva
    clear hvl
    by_cases hlt : j < N
    · obtain ⟨x, hx⟩ : ∃ x, ws[j]? = some x := ⟨_, List.getElem?_eq_getElem (by rw [HN.out]; exact hlt)⟩
      obtain ⟨B, o, cs, rfl, hli, hi⟩ := HR.out j x hx
      have HX : Hid (ws[j]? = some x) := hx
      have HI : Hid (IsW (Is w n) cs x) := hi
      have hrng := lies_range (hli.below HB.out)
      have hi29 : (Try.prog.info? 29).map (·.size) = some cs.toList.length := by rw [Array.length_toList]; exact info29s cs hi.size
      have hi29' := info29s cs hi.size
      have ho : zW.size = cs.size := hi.size.symm
      have h1 := all_one hi.one
      have hz : (wr.alloc (.cells zW 29)).heap[wr.heap.size]? = some (.cells zW 29 (0, 0)) := heap_alloc_new wr _
      have hjl : (j : Int) < (N : Int) := by omega
      have HW : Hid (wrap64 ((j : Int) + 1) = ((j + 1 : Nat) : Int)) := wr1 hlt (by have := HL.out; omega)
      clear hx hi hli
      go_upto_region 5 with (first
        | refine wpList_load_mid rfl 29 _ rfl B (o + j * 19) rfl cs.toList _ hrng Try.underlying29 rfl hi29 ?_
        | refine wpList_store_row rfl 29 _ _ rfl wr.heap.size cs rfl rfl 29 zW hz hi29' ho h1 ?_)
      rw [World.setRow_alloc_new]
      have HBa : Hid (Below wr.heap.size wr (wr.alloc (.cells cs 29))) := bel1 wr _
      have hrow : (wr.alloc (.cells cs 29)).heap[wr.heap.size]? = some (.cells cs 29 (0, 0)) := heap_alloc_new wr _
      have HSa : Hid ((wr.alloc (.cells cs 29)).heap.size = wr.heap.size + 1) := by show _ = _; simp
      generalize wr.alloc (.cells cs 29) = Wa at HBa hrow HSa ⊢
      clear hz ho hrng
      have KC : Hid (Calls Try.prog 33 #[.agg cs] Wa (ClW n Wa x)) := clone_calls n cs x Wa (HI.out.map fun _ _ h => h.below (bel2 HB.out HBa.out)) (HS.out x (List.mem_of_getElem? HX.out))
      have HCs : Hid (cs.size = 19) := HI.out.size
      go_wp2_with (refine wpList_load_row rfl 29 _ rfl wr.heap.size rfl 29 cs (0, 0) _ hrow Try.underlying29 rfl hi29' ?_)
      refine KC.out.mono ?_
      rintro e w1 ⟨⟨us, rfl, hi1⟩, hb1⟩
      have hrow1 : w1.heap[wr.heap.size]? = some (.cells cs 29 (0, 0)) := row_below hb1 hrow
      have hu := info29s us hi1.size
      have ho1 : cs.size = us.size := HCs.out.trans hi1.size.symm
      have h11 := all_one hi1.one
      have HB1 : Hid (Below wr.heap.size wr w1) := bel2 HBa.out hb1
      have HI1 : Hid (IsW (IsN (wr.heap.size + 1) w1 n) us x) := by rw [HSa.out] at hi1; exact hi1
      clear hrow hi1 hb1 KC hi29 hi29' h1
      go_upto_region 6 with (refine wpList_store_row rfl 29 _ _ rfl wr.heap.size us rfl rfl 29 cs hrow1 hu ho1 h11 ?_)
      have HK2 : Hid (KB wr.heap.size w1 (w1.setRow wr.heap.size us)) := setRow_kb w1 wr.heap.size us
      have hrow2 := setRow_heap w1 wr.heap.size cs us 29 (0, 0) hrow1
      have hbl : wr.heap.size < w1.heap.size := (Array.getElem?_eq_some_iff.1 hrow1).1
      generalize w1.setRow wr.heap.size us = W2 at HK2 hrow2 ⊢
      have HK0 : Hid (KB wr.heap.size wr W2) := (KB.of_below HB1.out).trans HK2.out
      have HT2 : Hid (Calls Try.prog 42 _ W2 _) := HT.out W2 wr.heap.size us x (HB.out.trans (HK0.out.below HB.out.size HB.out.size)) HB.out.size hrow2 (HI1.out.map fun _ _ h => h.kb HK2.out (Nat.lt_succ_self _))
      clear hrow1 hrow2 hu ho1 h11 hbl
      go_wp2_with fail
      refine HT2.out.mono ?_
      rintro e w3 ⟨rfl, hk3, cs3, hr3, hi3⟩
      have hu3 := info29s cs3 hi3.size
      have hk := HK0.out.trans hk3
      have hb3 : Below wr.heap.size wr w3 := hk.below (Nat.le_refl _) (Nat.le_refl _)
      obtain ⟨a2, c2, w4, hrun, hg2, hb4, _⟩ := HG.out.push HB.out.size hb3 (b := wr.heap.size + 1) (by omega) (by omega) hi3 (by rw [HVL.out]; have := HL.out; omega)
      rw [← map_snoc HX.out, HVL.out] at hg2
      rw [HVL.out] at hrun
      have HRun : Hid (∀ ty, _) := hrun
      have HG2 : Hid (GrW w.heap.size n w4 (.slice a2 (j + 1) c2) ((ws.take (j + 1)).map f)) := hg2
      have HB4 : Hid (Below w.heap.size w w4) := HB.out.trans hb4
      have hsl := slice1 cs3 hi3.size w3
      clear hrun hg2 hb4 hb3 hk hk3 hi3 HG HT2
      go_wp2_with (first
        | refine wpList_load_row rfl 29 _ rfl wr.heap.size rfl 29 cs3 (0, 0) _ hr3 Try.underlying29 rfl hu3 ?_
        | refine wpList_slice_run rfl 22 _ rfl (.agg cs3) rfl _ _ hsl ?_
        | (at_builtin; refine Lib.wpList_append_run _ rfl _ _ 22 22 rfl _ _ rfl rfl _ _ (HRun.out _) ?_))
      exact ⟨⟨j + 1, hlt, by first | rw [HW.out] | exact congrArg _ (Int.natCast_succ j).symm, HG2, HB4⟩, by first | exact meas hlt HW.out | exact meas hlt (Int.natCast_succ j).symm⟩
    · obtain rfl : j = N := by omega
      have ht : ws.take j = ws := List.take_of_length_le (by rw [HN.out]; exact Nat.le_refl _)
      have HG1 : Hid (GrW w.heap.size n wr (.slice va j vc) (ws.map f)) := by have h := HG.out; rw [ht] at h; exact h
      clear ht HG
      go_wp2_with fail
      exact HQ.out _ _ HG1.out HB.out
set_option maxHeartbeats 4000000 in
set_option maxRecDepth 100000 in
theorem turned49 (n : Nat) (a : Option Addr) (c N : Nat) (ws : List Wt) (f : Wt → Wt) (g0 g1 g2 : Nat) (hN : ws.length = N) (hl : N ≤ 1000) (w : World) (hR : LsW w n a ws) (hs : ∀ x ∈ ws, SmX n x)
    (hT : ∀ (W : World) (b : Nat) (cs : Array Value) (x : Wt), Below w.heap.size w W → w.heap.size ≤ b → W.heap[b]? = some (.cells cs 29 (0, 0)) → IsW (IsN (b + 1) W n) cs x → Calls Try.prog 49 #[.pointer (some ⟨b, 0, none⟩), .pointer (some ⟨g0, 0, none⟩), .pointer (some ⟨g1, 0, none⟩), .pointer (some ⟨g2, 0, none⟩)] W (TuP n b (f x) W)) :
    Calls Try.prog 41 #[.slice a N c, .func (.func 49) #[] #[.pointer (some ⟨g0, 0, none⟩), .pointer (some ⟨g1, 0, none⟩), .pointer (some ⟨g2, 0, none⟩)]] w (RetW n w (ws.map f)) := by
  have HR : Hid (LsW w n a ws) := hR
  have HS : Hid (∀ x ∈ ws, SmX n x) := hs
  have HN : Hid (ws.length = N) := hN
  have HL : Hid (N ≤ 1000) := hl
  have HT : Hid (∀ (W : World) (b : Nat) (cs : Array Value) (x : Wt), Below w.heap.size w W → w.heap.size ≤ b → W.heap[b]? = some (.cells cs 29 (0, 0)) → IsW (IsN (b + 1) W n) cs x → Calls Try.prog 49 #[.pointer (some ⟨b, 0, none⟩), .pointer (some ⟨g0, 0, none⟩), .pointer (some ⟨g1, 0, none⟩), .pointer (some ⟨g2, 0, none⟩)] W (TuP n b (f x) W)) := hT
  have HQ : Hid (∀ v W', GrW w.heap.size n W' v (ws.map f) → Below w.heap.size w W' → RetW n w (ws.map f) (.returned v) W') := fun v W' h hb => h.ret hb
  generalize RetW n w (ws.map f) = Q at HQ ⊢
  clear hR hs hN hl hT
  go_enter Try.func41, Try.ntmps41
  go_wp2_with fail
  go_loopw [5, 10] (fun v i wr => ∃ j : Nat, j ≤ N ∧ i = .int .i64 (j : Int) ∧ Hid (GrW w.heap.size n wr v ((ws.take j).map f)) ∧ Hid (Below w.heap.size w wr)) (fun _ i _ => N - (intOf i).toNat)
  case atStart => exact ⟨0, Nat.zero_le _, rfl, GrW.nil _ _ _, Below.refl _ _⟩
  case round =>
    obtain ⟨j, hj, rfl, HG, HB⟩ := hrel
    obtain ⟨va, vc, hva, _, _⟩ := HG.out.shape
    have hvl : ((ws.take j).map f).length = j := by rw [List.length_map, List.length_take, HN.out]; omega
    rw [hvl] at hva
    have HVL : Hid (((ws.take j).map f).length = j) := hvl
    subst hva
    clear hvl
    by_cases hlt : j < N
    · obtain ⟨x, hx⟩ : ∃ x, ws[j]? = some x := ⟨_, List.getElem?_eq_getElem (by rw [HN.out]; exact hlt)⟩
      obtain ⟨B, o, cs, rfl, hli, hi⟩ := HR.out j x hx
      have HX : Hid (ws[j]? = some x) := hx
      have HI : Hid (IsW (Is w n) cs x) := hi
      have hrng := lies_range (hli.below HB.out)
      have hi29 : (Try.prog.info? 29).map (·.size) = some cs.toList.length := by rw [Array.length_toList]; exact info29s cs hi.size
      have hi29' := info29s cs hi.size
      have ho : zW.size = cs.size := hi.size.symm
      have h1 := all_one hi.one
      have hz : (wr.alloc (.cells zW 29)).heap[wr.heap.size]? = some (.cells zW 29 (0, 0)) := heap_alloc_new wr _
      have hjl : (j : Int) < (N : Int) := by omega
      have HW : Hid (wrap64 ((j : Int) + 1) = ((j + 1 : Nat) : Int)) := wr1 hlt (by have := HL.out; omega)
      clear hx hi hli
      go_upto_region 5 with (first
        | refine wpList_load_mid rfl 29 _ rfl B (o + j * 19) rfl cs.toList _ hrng Try.underlying29 rfl hi29 ?_
        | refine wpList_store_row rfl 29 _ _ rfl wr.heap.size cs rfl rfl 29 zW hz hi29' ho h1 ?_)
      rw [World.setRow_alloc_new]
      have HBa : Hid (Below wr.heap.size wr (wr.alloc (.cells cs 29))) := bel1 wr _
      have hrow : (wr.alloc (.cells cs 29)).heap[wr.heap.size]? = some (.cells cs 29 (0, 0)) := heap_alloc_new wr _
      have HSa : Hid ((wr.alloc (.cells cs 29)).heap.size = wr.heap.size + 1) := by show _ = _; simp
      generalize wr.alloc (.cells cs 29) = Wa at HBa hrow HSa ⊢
      clear hz ho hrng
      have KC : Hid (Calls Try.prog 33 #[.agg cs] Wa (ClW n Wa x)) := clone_calls n cs x Wa (HI.out.map fun _ _ h => h.below (bel2 HB.out HBa.out)) (HS.out x (List.mem_of_getElem? HX.out))
      have HCs : Hid (cs.size = 19) := HI.out.size
      go_wp2_with (refine wpList_load_row rfl 29 _ rfl wr.heap.size rfl 29 cs (0, 0) _ hrow Try.underlying29 rfl hi29' ?_)
      refine KC.out.mono ?_
      rintro e w1 ⟨⟨us, rfl, hi1⟩, hb1⟩
      have hrow1 : w1.heap[wr.heap.size]? = some (.cells cs 29 (0, 0)) := row_below hb1 hrow
      have hu := info29s us hi1.size
      have ho1 : cs.size = us.size := HCs.out.trans hi1.size.symm
      have h11 := all_one hi1.one
      have HB1 : Hid (Below wr.heap.size wr w1) := bel2 HBa.out hb1
      have HI1 : Hid (IsW (IsN (wr.heap.size + 1) w1 n) us x) := by rw [HSa.out] at hi1; exact hi1
      clear hrow hi1 hb1 KC hi29 hi29' h1
      go_upto_region 6 with (refine wpList_store_row rfl 29 _ _ rfl wr.heap.size us rfl rfl 29 cs hrow1 hu ho1 h11 ?_)
      have HK2 : Hid (KB wr.heap.size w1 (w1.setRow wr.heap.size us)) := setRow_kb w1 wr.heap.size us
      have hrow2 := setRow_heap w1 wr.heap.size cs us 29 (0, 0) hrow1
      have hbl : wr.heap.size < w1.heap.size := (Array.getElem?_eq_some_iff.1 hrow1).1
      generalize w1.setRow wr.heap.size us = W2 at HK2 hrow2 ⊢
      have HK0 : Hid (KB wr.heap.size wr W2) := (KB.of_below HB1.out).trans HK2.out
      have HT2 : Hid (Calls Try.prog 49 _ W2 _) := HT.out W2 wr.heap.size us x (HB.out.trans (HK0.out.below HB.out.size HB.out.size)) HB.out.size hrow2 (HI1.out.map fun _ _ h => h.kb HK2.out (Nat.lt_succ_self _))
      clear hrow1 hrow2 hu ho1 h11 hbl
      go_wp2_with fail
      refine HT2.out.mono ?_
      rintro e w3 ⟨rfl, hk3, cs3, hr3, hi3⟩
      have hu3 := info29s cs3 hi3.size
      have hk := HK0.out.trans hk3
      have hb3 : Below wr.heap.size wr w3 := hk.below (Nat.le_refl _) (Nat.le_refl _)
      obtain ⟨a2, c2, w4, hrun, hg2, hb4, _⟩ := HG.out.push HB.out.size hb3 (b := wr.heap.size + 1) (by omega) (by omega) hi3 (by rw [HVL.out]; have := HL.out; omega)
      rw [← map_snoc HX.out, HVL.out] at hg2
      rw [HVL.out] at hrun
      have HRun : Hid (∀ ty, _) := hrun
      have HG2 : Hid (GrW w.heap.size n w4 (.slice a2 (j + 1) c2) ((ws.take (j + 1)).map f)) := hg2
      have HB4 : Hid (Below w.heap.size w w4) := HB.out.trans hb4
      have hsl := slice1 cs3 hi3.size w3
      clear hrun hg2 hb4 hb3 hk hk3 hi3 HG HT2
      go_wp2_with (first
        | refine wpList_load_row rfl 29 _ rfl wr.heap.size rfl 29 cs3 (0, 0) _ hr3 Try.underlying29 rfl hu3 ?_
        | refine wpList_slice_run rfl 22 _ rfl (.agg cs3) rfl _ _ hsl ?_
        | (at_builtin; refine Lib.wpList_append_run _ rfl _ _ 22 22 rfl _ _ rfl rfl _ _ (HRun.out _) ?_))
      exact ⟨⟨j + 1, hlt, by first | rw [HW.out] | exact congrArg _ (Int.natCast_succ j).symm, HG2, HB4⟩, by first | exact meas hlt HW.out | exact meas hlt (Int.natCast_succ j).symm⟩
    · obtain rfl : j = N := by omega
      have ht : ws.take j = ws := List.take_of_length_le (by rw [HN.out]; exact Nat.le_refl _)
      have HG1 : Hid (GrW w.heap.size n wr (.slice va j vc) (ws.map f)) := by have h := HG.out; rw [ht] at h; exact h
      clear ht HG
      go_wp2_with fail
      exact HQ.out _ _ HG1.out HB.out
end Go.Proofs.Ytocjgcjechhehaa
