/- The reference's Can returns; where it tells true there are at most ten timers. -/
import Derived.Test.YtmcbgfcpalfcjaaOB
namespace Go.Proofs.Ytmcbgfcpalfcjaa
open Go.ChangeShapes Go.WideShapes Go.ChangeAt Go.RowKit
set_option maxHeartbeats 8000000 in
set_option maxRecDepth 100000 in
theorem can_any (n : Nat) (cs : Array Value) (s : Sta) (w : World) (h : Rs w n cs s) : Calls Try.prog 4 #[.agg cs] w (LsP s w) := by
  have HN : Hid (∀ w', Below w.heap.size w w' → LsP s w (.returned (.bool false)) w') := fun w' h => ⟨⟨false, rfl, fun h => by cases h⟩, h⟩
  have HY : Hid (s.tm.length ≤ 10 → ∀ b w', Below w.heap.size w w' → LsP s w (.returned (.bool b)) w') := fun hl b w' h => ⟨⟨b, rfl, fun _ => hl⟩, h⟩
  have hn : 0 < n := by
    obtain ⟨_, _, _, _, _, _, _, _, _, _, _, _, i⟩ := h.inp
    cases n with
    | zero => exact i.elim
    | succ n => omega
  obtain ⟨n, rfl⟩ : ∃ m, n = m + 1 := ⟨n - 1, by omega⟩
  obtain ⟨kv, xv, bv, sv, av, mv, cv, v0, v1, v2, v3, v4, ivv⟩ := h.inp
  obtain ⟨ko, xo, bo, so, ao, mo, co, o0, o1, o2, o3, o4, ivo⟩ := h.res
  obtain ⟨ta, tc, t1, t2⟩ := h.tm
  have KV : Hid (∀ W, Below w.heap.size w W → _) := fun W hB => check_any (n + 1) _ _ W (ivv.below hB)
  have KO : Hid (∀ W, Below w.heap.size w W → _) := fun W hB => check_any (n + 1) _ _ W (ivo.below hB)
  have KS : Hid (∀ W, Below w.heap.size w W → _) := fun W hB => same_any (n + 1) _ _ _ _ W (ivo.below hB) (zero_is W n)
  have KP : Hid (∀ W, Calls Try.prog 12 #[.agg #[.int .i64 s.pf, .int .u64 (s.pc : Int), .int .i64 s.pm]] W (InP W)) := fun W => pol_any _ _ _ W
  have KT : Hid (∀ W, Below w.heap.size w W → Calls Try.prog 13 #[.agg cs] W (BoP W)) := fun W hB => task_any cs s W (n + 1) (h.below hB)
  have KL : Hid (∀ W, Below w.heap.size w W → Calls Try.prog 14 #[.agg cs] W (LsP s W)) := fun W hB => lists_any (n + 1) cs s W (h.below hB)
  have his := info33s cs h.size
  obtain ⟨r0, K0⟩ := within_ex s.run 1 10
  obtain ⟨r1, K1⟩ := within_ex s.status 1 6
  obtain ⟨r2, K2⟩ := within_ex s.count 1 120
  obtain ⟨r3, K3⟩ := within_ex s.time 0 1099511627776
  obtain ⟨r4, K4⟩ := within_ex s.dl 0 2199023255552
  obtain ⟨r5, K5⟩ := within_ex s.fr 0 10
  obtain ⟨r6, K6⟩ := within_ex s.sig 0 s.count
  have c0 := h.c0
  have c1 := h.c1
  have c2 := h.c2
  have c3 := h.c3
  have c4 := h.c4
  have c5 := h.c5
  have c6 := h.c6
  have c7 := h.c7
  have c13 := h.c13
  have c14 := h.c14
  have c15 := h.c15
  have c16 := h.c16
  have c30 := h.c30
  clear ivv ivo h hn t2
  generalize LsP s w = Q at HN HY ⊢
  go_enter Try.func4, Try.ntmps4
  go_wp2_with (refine wpList_load_rowG rfl 33 _ rfl w.heap.size rfl 33 cs (0, 0) _ (heap_alloc_new w _) Try.underlying33 rfl his ?_)
  refine (K0 _).mono ?_
  rintro e w1 ⟨rfl, rfl⟩
  cases r0 with
  | false =>
    go_wp2_with (refine wpList_load_rowG rfl 33 _ rfl w.heap.size rfl 33 cs (0, 0) _ (heap_alloc_new w _) Try.underlying33 rfl his ?_)
    exact HN.out _ (bel1 _ _)
  | true =>
  clear K0
  go_wp2_with (refine wpList_load_rowG rfl 33 _ rfl w.heap.size rfl 33 cs (0, 0) _ (heap_alloc_new w _) Try.underlying33 rfl his ?_)
  refine (K1 _).mono ?_
  rintro e w1 ⟨rfl, rfl⟩
  cases r1 with
  | false =>
    go_wp2_with (refine wpList_load_rowG rfl 33 _ rfl w.heap.size rfl 33 cs (0, 0) _ (heap_alloc_new w _) Try.underlying33 rfl his ?_)
    exact HN.out _ (bel1 _ _)
  | true =>
  clear K1
  go_wp2_with (refine wpList_load_rowG rfl 33 _ rfl w.heap.size rfl 33 cs (0, 0) _ (heap_alloc_new w _) Try.underlying33 rfl his ?_)
  refine (K2 _).mono ?_
  rintro e w1 ⟨rfl, rfl⟩
  cases r2 with
  | false =>
    go_wp2_with (refine wpList_load_rowG rfl 33 _ rfl w.heap.size rfl 33 cs (0, 0) _ (heap_alloc_new w _) Try.underlying33 rfl his ?_)
    exact HN.out _ (bel1 _ _)
  | true =>
  clear K2
  go_wp2_with (refine wpList_load_rowG rfl 33 _ rfl w.heap.size rfl 33 cs (0, 0) _ (heap_alloc_new w _) Try.underlying33 rfl his ?_)
  refine (K3 _).mono ?_
  rintro e w1 ⟨rfl, rfl⟩
  cases r3 with
  | false =>
    go_wp2_with (refine wpList_load_rowG rfl 33 _ rfl w.heap.size rfl 33 cs (0, 0) _ (heap_alloc_new w _) Try.underlying33 rfl his ?_)
    exact HN.out _ (bel1 _ _)
  | true =>
  clear K3
  go_wp2_with (refine wpList_load_rowG rfl 33 _ rfl w.heap.size rfl 33 cs (0, 0) _ (heap_alloc_new w _) Try.underlying33 rfl his ?_)
  refine (K4 _).mono ?_
  rintro e w1 ⟨rfl, rfl⟩
  cases r4 with
  | false =>
    go_wp2_with (refine wpList_load_rowG rfl 33 _ rfl w.heap.size rfl 33 cs (0, 0) _ (heap_alloc_new w _) Try.underlying33 rfl his ?_)
    exact HN.out _ (bel1 _ _)
  | true =>
  clear K4
  go_wp2_with (refine wpList_load_rowG rfl 33 _ rfl w.heap.size rfl 33 cs (0, 0) _ (heap_alloc_new w _) Try.underlying33 rfl his ?_)
  refine (K5 _).mono ?_
  rintro e w1 ⟨rfl, rfl⟩
  cases r5 with
  | false =>
    go_wp2_with (refine wpList_load_rowG rfl 33 _ rfl w.heap.size rfl 33 cs (0, 0) _ (heap_alloc_new w _) Try.underlying33 rfl his ?_)
    exact HN.out _ (bel1 _ _)
  | true =>
  clear K5
  go_wp2_with (refine wpList_load_rowG rfl 33 _ rfl w.heap.size rfl 33 cs (0, 0) _ (heap_alloc_new w _) Try.underlying33 rfl his ?_)
  refine (K6 _).mono ?_
  rintro e w1 ⟨rfl, rfl⟩
  cases r6 with
  | false =>
    go_wp2_with (refine wpList_load_rowG rfl 33 _ rfl w.heap.size rfl 33 cs (0, 0) _ (heap_alloc_new w _) Try.underlying33 rfl his ?_)
    exact HN.out _ (bel1 _ _)
  | true =>
  clear K6
  go_wp2_with (refine wpList_load_rowG rfl 33 _ rfl w.heap.size rfl 33 cs (0, 0) _ (heap_alloc_new w _) Try.underlying33 rfl his ?_)
  refine Calls.mono (name_any _ _) ?_
  rintro e w1 ⟨⟨b, rfl⟩, hb⟩
  have HG1 : Hid (w1.heap[w.heap.size]? = some (.cells cs 33 (0, 0))) := row_below hb (heap_alloc_new w _)
  have HB1 : Hid (Below w.heap.size w w1) := bel2 (bel1 w _) hb
  have g1 : ∀ j, w1.cell? ⟨w.heap.size, j, none⟩ = cs[j]? := fun j => cell_of_row w1 _ j cs 33 (0, 0) HG1.out
  have hg1 := HG1.out
  clear hb
  cases b with
  | false =>
    go_wp2_with (refine wpList_load_rowG rfl 33 _ rfl w.heap.size rfl 33 cs (0, 0) _ hg1 Try.underlying33 rfl his ?_)
    exact HN.out _ HB1.out
  | true =>
  go_wp2_with (refine wpList_load_rowG rfl 33 _ rfl w.heap.size rfl 33 cs (0, 0) _ hg1 Try.underlying33 rfl his ?_)
  refine Calls.mono (KV.out _ HB1.out) ?_
  rintro e w2 ⟨⟨r, rfl⟩, hb⟩
  have HG2 : Hid (w2.heap[w.heap.size]? = some (.cells cs 33 (0, 0))) := row_below hb HG1.out
  have HB2 : Hid (Below w.heap.size w w2) := bel2 HB1.out hb
  have g2 : ∀ j, w2.cell? ⟨w.heap.size, j, none⟩ = cs[j]? := fun j => cell_of_row w2 _ j cs 33 (0, 0) HG2.out
  have hg2 := HG2.out
  clear hb g1 hg1
  by_cases hr : r = 0
  case neg =>
    have hr2 : (r != 0) = true := by simpa using hr
    clear hr
    go_wp2_with (refine wpList_load_rowG rfl 33 _ rfl w.heap.size rfl 33 cs (0, 0) _ hg2 Try.underlying33 rfl his ?_)
    exact HN.out _ HB2.out
  subst hr
  go_wp2_with (refine wpList_load_rowG rfl 33 _ rfl w.heap.size rfl 33 cs (0, 0) _ hg2 Try.underlying33 rfl his ?_)
  refine Calls.mono (KO.out _ HB2.out) ?_
  rintro e w3 ⟨⟨r, rfl⟩, hb⟩
  have HG3 : Hid (w3.heap[w.heap.size]? = some (.cells cs 33 (0, 0))) := row_below hb HG2.out
  have HB3 : Hid (Below w.heap.size w w3) := bel2 HB2.out hb
  have g3 : ∀ j, w3.cell? ⟨w.heap.size, j, none⟩ = cs[j]? := fun j => cell_of_row w3 _ j cs 33 (0, 0) HG3.out
  have hg3 := HG3.out
  clear hb g2 hg2
  by_cases hr : r = 0
  case neg =>
    have hr2 : (r != 0) = true := by simpa using hr
    clear hr
    go_wp2_with (refine wpList_load_rowG rfl 33 _ rfl w.heap.size rfl 33 cs (0, 0) _ hg3 Try.underlying33 rfl his ?_)
    exact HN.out _ HB3.out
  subst hr
  go_wp2_with (refine wpList_load_rowG rfl 33 _ rfl w.heap.size rfl 33 cs (0, 0) _ hg3 Try.underlying33 rfl his ?_)
  refine Calls.mono (KP.out _) ?_
  rintro e w4 ⟨⟨r, rfl⟩, hb⟩
  have HG4 : Hid (w4.heap[w.heap.size]? = some (.cells cs 33 (0, 0))) := row_below hb HG3.out
  have HB4 : Hid (Below w.heap.size w w4) := bel2 HB3.out hb
  have g4 : ∀ j, w4.cell? ⟨w.heap.size, j, none⟩ = cs[j]? := fun j => cell_of_row w4 _ j cs 33 (0, 0) HG4.out
  have hg4 := HG4.out
  clear hb g3 hg3
  by_cases hr : r = 0
  case neg =>
    have hr2 : (r != 0) = true := by simpa using hr
    clear hr
    go_wp2_with (refine wpList_load_rowG rfl 33 _ rfl w.heap.size rfl 33 cs (0, 0) _ hg4 Try.underlying33 rfl his ?_)
    exact HN.out _ HB4.out
  subst hr
  go_wp2_with (refine wpList_load_rowG rfl 33 _ rfl w.heap.size rfl 33 cs (0, 0) _ hg4 Try.underlying33 rfl his ?_)
  refine Calls.mono (KT.out _ HB4.out) ?_
  rintro e w5 ⟨⟨b, rfl⟩, hb⟩
  have HG5 : Hid (w5.heap[w.heap.size]? = some (.cells cs 33 (0, 0))) := row_below hb HG4.out
  have HB5 : Hid (Below w.heap.size w w5) := bel2 HB4.out hb
  have g5 : ∀ j, w5.cell? ⟨w.heap.size, j, none⟩ = cs[j]? := fun j => cell_of_row w5 _ j cs 33 (0, 0) HG5.out
  have hg5 := HG5.out
  clear hb g4 hg4
  cases b with
  | false =>
    go_wp2_with (refine wpList_load_rowG rfl 33 _ rfl w.heap.size rfl 33 cs (0, 0) _ hg5 Try.underlying33 rfl his ?_)
    exact HN.out _ HB5.out
  | true =>
  go_wp2_with (refine wpList_load_rowG rfl 33 _ rfl w.heap.size rfl 33 cs (0, 0) _ hg5 Try.underlying33 rfl his ?_)
  refine Calls.mono (KL.out _ HB5.out) ?_
  rintro e w6 ⟨⟨b, rfl, hl⟩, hb⟩
  have HG6 : Hid (w6.heap[w.heap.size]? = some (.cells cs 33 (0, 0))) := row_below hb HG5.out
  have HB6 : Hid (Below w.heap.size w w6) := bel2 HB5.out hb
  have g6 : ∀ j, w6.cell? ⟨w.heap.size, j, none⟩ = cs[j]? := fun j => cell_of_row w6 _ j cs 33 (0, 0) HG6.out
  have hg6 := HG6.out
  clear hb g5 hg5
  cases b with
  | false =>
    go_wp2_with (refine wpList_load_rowG rfl 33 _ rfl w.heap.size rfl 33 cs (0, 0) _ hg6 Try.underlying33 rfl his ?_)
    exact HN.out _ HB6.out
  | true =>
  have HL : Hid (s.tm.length ≤ 10) := hl rfl
  clear hl
  have KE : Hid (∀ b w', Below w.heap.size w w' → Q (.returned (.bool b)) w') := HY.out HL.out
  by_cases h2 : s.status = 2
  · have d2 : (s.status != 2) = false := by simpa using h2
    have hs : s.status = 2 := h2
    clear h2
    go_wp2_with fail
    refine Calls.mono (text_any _ _) ?_
    rintro e w7 ⟨⟨b, rfl⟩, hb⟩
    have HB7 : Hid (Below w.heap.size w w7) := bel2 HB6.out hb
    have g7 : ∀ j, w7.cell? ⟨w.heap.size, j, none⟩ = cs[j]? := fun j => cell_of_row w7 _ j cs 33 (0, 0) (row_below hb HG6.out)
    clear hb g6 hg6
    cases b with
    | false =>
      go_wp2_with fail
      exact KE.out _ _ HB7.out
    | true =>
      go_wp2_with fail
      all_goals exact KE.out _ _ HB7.out
  · have d2 : (s.status != 2) = true := by simpa using h2
    clear h2
    go_wp2_with fail
    refine Calls.mono (KS.out _ HB6.out) ?_
    rintro e w7 ⟨⟨b, rfl⟩, hb⟩
    have HB7 : Hid (Below w.heap.size w w7) := bel2 HB6.out hb
    have HG7 : Hid (w7.heap[w.heap.size]? = some (.cells cs 33 (0, 0))) := row_below hb HG6.out
    have g7 : ∀ j, w7.cell? ⟨w.heap.size, j, none⟩ = cs[j]? := fun j => cell_of_row w7 _ j cs 33 (0, 0) HG7.out
    clear hb g6 hg6
    cases b with
    | false =>
      go_wp2_with fail
      exact KE.out _ _ HB7.out
    | true =>
      go_wp2_with fail
      refine Calls.mono (text_any _ _) ?_
      rintro e w8 ⟨⟨b, rfl⟩, hb⟩
      have HB8 : Hid (Below w.heap.size w w8) := bel2 HB7.out hb
      have g8 : ∀ j, w8.cell? ⟨w.heap.size, j, none⟩ = cs[j]? := fun j => cell_of_row w8 _ j cs 33 (0, 0) (row_below hb HG7.out)
      clear hb g7
      cases b with
      | false =>
        go_wp2_with fail
        exact KE.out _ _ HB8.out
      | true =>
        go_wp2_with fail
        all_goals exact KE.out _ _ HB8.out
end Go.Proofs.Ytmcbgfcpalfcjaa
