/- The contracts of slices.Min and of due.Next; the walk of DueNext. -/
import Derived.Test.YtmcbgfcpalfcjaaOM
namespace Go.Proofs.Ytmcbgfcpalfcjaa
open Go.ChangeShapes Go.WideShapes Go.ChangeAt Go.RowKit
set_option maxHeartbeats 4000000 in
theorem min_calls (l : List Int) (g c : Nat) (w : World) (hc : ∀ (i : Nat) z, l[i]? = some z → w.cell? ⟨g, i, none⟩ = some (.int .i64 z)) (h0 : 0 < l.length) (hl : l.length ≤ 1000) :
    Calls Try.prog 19 #[.slice (some ⟨g, 0, none⟩) l.length c] w fun e w' => (∃ z, e = .returned (.int .i64 z) ∧ z ∈ l ∧ ∀ y ∈ l, z ≤ y) ∧ w' = w := by
  obtain ⟨x0, hx0⟩ : ∃ x, l[0]? = some x := ⟨_, List.getElem?_eq_getElem h0⟩
  have c0 := hc 0 x0 hx0
  have HC : Hid (∀ (i : Nat) z, l[i]? = some z → w.cell? ⟨g, i, none⟩ = some (.int .i64 z)) := hc
  have HX : Hid (l[0]? = some x0) := hx0
  have HQ : Hid (∀ z, (∀ j < l.length, ∀ y, l[j]? = some y → z ≤ y) → ∀ y ∈ l, z ≤ y) := fun z h2 y hy => by
    obtain ⟨j, hj, he⟩ := List.getElem_of_mem hy
    exact h2 j hj y (by rw [List.getElem?_eq_getElem hj, he])
  generalize hN : l.length = N at *
  have HN : Hid (l.length = N) := hN
  have hn1 : (1 : Int) ≤ (N : Int) := by omega
  have d1 : decide ((N : Int) < 1) = false := decide_eq_false (by omega)
  have hpos : 0 < N := h0
  clear hc hx0 hN h0
  go_enter Try.func19, Try.ntmps19
  go_wp2_with fail
  go_loop [3, 4] (fun m i => ∃ (z : Int) (k : Nat), m = .int .i64 z ∧ i = .int .i64 k ∧ 1 ≤ k ∧ k ≤ N ∧ Hid (z ∈ l ∧ ∀ j < k, ∀ y, l[j]? = some y → z ≤ y)) (fun _ i => N - (intOf i).toNat)
  case atStart => exact ⟨x0, 1, rfl, rfl, Nat.le_refl _, hpos, List.mem_of_getElem? HX.out, fun j hj y hy => by
    obtain rfl : j = 0 := by omega
    rw [HX.out] at hy
    cases hy
    exact Int.le_refl _⟩
  case round =>
    obtain ⟨z, k, rfl, rfl, hk1, hk, HZ⟩ := hrel
    by_cases hlt : k < N
    · obtain ⟨y, hy⟩ : ∃ y, l[k]? = some y := ⟨_, List.getElem?_eq_getElem (by rw [HN.out]; exact hlt)⟩
      have ck := HC.out k y hy
      have HZ2 : Hid (min z y ∈ l ∧ ∀ j < k + 1, ∀ x, l[j]? = some x → min z y ≤ x) := by
        refine ⟨?_, fun j hj x hx => ?_⟩
        · rcases Int.le_total z y with h | h
          · rw [Int.min_eq_left h]; exact HZ.out.1
          · rw [Int.min_eq_right h]; exact List.mem_of_getElem? hy
        · rcases Nat.lt_or_ge j k with h | h
          · exact Int.le_trans (Int.min_le_left _ _) (HZ.out.2 j h x hx)
          · obtain rfl : j = k := by omega
            rw [hy] at hx
            cases hx
            exact Int.min_le_right _ _
      have hkl : (k : Int) < (N : Int) := by omega
      clear hy HZ
      go_wp2_with fail
      exact ⟨⟨min z y, k + 1, rfl, congrArg (Value.int .i64) (by omega), by omega, hlt, HZ2⟩, meas hlt (by omega)⟩
    · obtain rfl : k = N := by omega
      clear hlt hk
      go_wp2_with fail
      go_ret
      exact ⟨⟨_, rfl, HZ.out.1, HQ.out _ HZ.out.2⟩, rfl⟩
def NxP (s : Sta) (w : World) (e : Ending) (w' : World) : Prop := (∃ (z : Int) (b : Bool), e = .returned (.tuple #[.int .i64 z, .bool b]) ∧ (b = true → s.status = 1 ∧ ∃ m ∈ tmsL s, (∀ y ∈ tmsL s, m ≤ y) ∧ z = max m s.time) ∧ (b = false → ¬ (s.status = 1 ∧ tmsL s ≠ []))) ∧ Below w.heap.size w w'
set_option maxHeartbeats 4000000 in
set_option maxRecDepth 100000 in
theorem next_time_calls (n : Nat) (cs : Array Value) (s : Sta) (w : World) (h : Rs w n cs s) (hl : s.tm.length ≤ 12) : Calls Try.prog 6 #[.agg cs] w (NxP s w) := by
  have HNo : Hid (¬ (s.status = 1 ∧ tmsL s ≠ []) → ∀ w', Below w.heap.size w w' → NxP s w (.returned (.tuple #[.int .i64 0, .bool false])) w') := fun hn w' hb => ⟨⟨_, _, rfl, (fun h => by cases h), fun _ => hn⟩, hb⟩
  have HYe : Hid (s.status = 1 → ∀ m, (m ∈ tmsL s ∧ ∀ y ∈ tmsL s, m ≤ y) → ∀ w', Below w.heap.size w w' → NxP s w (.returned (.tuple #[.int .i64 (max m s.time), .bool true])) w') := fun h1 m hm w' hb => ⟨⟨_, _, rfl, (fun _ => ⟨h1, m, hm.1, hm.2, rfl⟩), fun h => by cases h⟩, hb⟩
  have KT := times_calls n cs s (w.alloc (.cells cs 33)) (h.below (bel1 w _)) hl
  have KR : Hid (∀ W, _) := fun W => running_calls cs s.status W h.c1
  have HLl : Hid ((tmsL s).length ≤ 1000) := by
    show _ ≤ _
    have := lenP s
    unfold tmsL
    rw [List.length_append, List.length_append, List.length_map]
    split <;> simp <;> omega
  have hi33 := info33s cs h.size
  have c3 := h.c3
  have HG0 : Hid ((w.alloc (.cells cs 33)).heap[w.heap.size]? = some (.cells cs 33 (0, 0))) := heap_alloc_new w _
  have HB0 : Hid (Below w.heap.size w (w.alloc (.cells cs 33))) := bel1 w _
  clear h hl
  generalize NxP s w = Q at HNo HYe ⊢
  go_enter Try.func6, Try.ntmps6
  go_wp2_with (refine wpList_load_row rfl 33 _ rfl w.heap.size rfl 33 cs (0, 0) _ HG0.out Try.underlying33 rfl hi33 ?_)
  refine KT.mono ?_
  rintro e w1 ⟨⟨v1, rfl, hO⟩, hb⟩
  have HB1 : Hid (Below w.heap.size w w1) := bel2 HB0.out hb
  have HG1 : Hid (w1.heap[w.heap.size]? = some (.cells cs 33 (0, 0))) := row_below hb HG0.out
  have hfm := Go.Joins.ownsRow_forms hO
  clear KT HG0 hb
  go_wp2_with (refine wpList_load_row rfl 33 _ rfl w.heap.size rfl 33 cs (0, 0) _ HG1.out Try.underlying33 rfl hi33 ?_)
  refine Calls.mono (KR.out _) ?_
  rintro e w3 ⟨rfl, hb⟩
  have HB3 : Hid (Below w.heap.size w w3) := bel2 HB1.out hb
  have HG3 : Hid (w3.heap[w.heap.size]? = some (.cells cs 33 (0, 0))) := row_below hb HG1.out
  by_cases hs : s.status = 1
  case neg =>
    have d : (s.status == 1) = false := by simpa using hs
    have HS : Hid (¬ (s.status = 1 ∧ tmsL s ≠ [])) := fun h => hs h.1
    clear hs hb hO hfm
    go_wp2_with fail
    exact HNo.out HS.out _ HB3.out
  have d : (s.status == 1) = true := by simpa using hs
  have HS : Hid (s.status = 1) := hs
  clear hs
  rcases hfm with ⟨rfl, h0⟩ | ⟨g, cap, rfl⟩
  · have HE : Hid (¬ (s.status = 1 ∧ tmsL s ≠ [])) := fun h => h.2 (List.eq_nil_of_length_eq_zero h0)
    clear h0 hO hb
    go_wp2_with fail
    exact HNo.out HE.out _ HB3.out
  by_cases hz : (tmsL s).length = 0
  · have HE : Hid (¬ (s.status = 1 ∧ tmsL s ≠ [])) := fun h => h.2 (List.eq_nil_of_length_eq_zero hz)
    have dz : (((tmsL s).length : Int) == 0) = true := by simpa using hz
    clear hz hO hb
    go_wp2_with fail
    exact HNo.out HE.out _ HB3.out
  have dz : (((tmsL s).length : Int) == 0) = false := by simpa using hz
  have KM : Hid (∀ W, Below w3.heap.size w3 W → _) := fun W hW => min_calls (tmsL s) g cap W (fun i z hi => by
    have hc : w1.cell? ⟨g, i, none⟩ = some (.int .i64 z) := by
      have := World.ownsRow.cells hO (g := g) rfl i (.int .i64 z) (by rw [List.getElem?_map, hi]; rfl)
      rw [addp, Nat.zero_add] at this
      exact this
    have hlt := World.block_lt_of_cell? w1 _ hc
    exact ((bel2 hb hW).cell hlt).trans hc) (by omega) HLl.out
  clear hO hb hz
  go_wp2_with fail
  refine wp_region_held_drew (S := (fun w' => ∀ j, w'.cell? ⟨w.heap.size, j, none⟩ = cs[j]?)) (by kernel_rfl) (fun j => cell_of_row _ _ j cs 33 (0, 0) HG3.out) (fun hHeld => ?_)
  change wpAnyH _ _ _ _ _ _ _ _ (World.drew _)
  refine wpAnyH_take (i := 0) (oi := { dst := some 15, op := Go.Op.move (Go.Operand.tmp 4), type := 52, pos := "due.go:81", after := #[], guard := none }) (v := ?_) rfl (by kernel_rfl) (by kernel_rfl) (by kernel_rfl) (fun _ _ _ h => h) (Or.inl ⟨by rfl, ?_⟩) hHeld ?_
  rotate_left 1
  · (intro w hSw; (try dsimp only at hSw); go_simp <;> with_reducible rfl)
  simp only [Act.put, List.setIfInBounds_toArray, List.set_cons_zero, List.set_cons_succ]
  refine wpAnyH_take (i := 2) (oi := { dst := some 17, op := Go.Op.fieldAddr 33 (Go.Operand.tmp 1) 3, type := 0, pos := "due.go:81", after := #[], guard := none }) (v := ?_) rfl (by kernel_rfl) (by kernel_rfl) (by kernel_rfl) (fun _ _ _ h => h) (Or.inl ⟨by rfl, ?_⟩) hHeld ?_
  rotate_left 1
  · (intro w hSw; (try dsimp only at hSw); go_simp <;> with_reducible rfl)
  simp only [Act.put, List.setIfInBounds_toArray, List.set_cons_zero, List.set_cons_succ]
  refine wpAnyH_take (i := 3) (oi := { dst := some 18, op := Go.Op.load 3 (Go.Operand.tmp 17), type := 3, pos := "due.go:81", after := #[{ on := 2, ground := Go.Ground.data }], guard := none }) (v := ?_) rfl (by kernel_rfl) (by kernel_rfl) (by kernel_rfl) (fun _ _ _ h => h) (Or.inl ⟨by rfl, ?_⟩) hHeld ?_
  rotate_left 1
  · (intro w hSw; (try dsimp only at hSw); go_simp <;> with_reducible rfl)
  simp only [Act.put, List.setIfInBounds_toArray, List.set_cons_zero, List.set_cons_succ]
  refine wpAnyH_ready (rs := [1]) (by kernel_rfl) (by simp) ?_
  refine AllReadyH.cons (o := { dst := some 16, op := Go.Op.call { callee := Go.Callee.value (Go.Operand.func 19), args := #[Go.Operand.tmp 15], argTypes := #[52] }, type := 3, pos := "due.go:81", after := #[{ on := 0, ground := Go.Ground.data }], guard := none }) rfl (fun K hK => ?_) AllReadyH.nil
  go_simp
  refine Calls.mono (KM.out _ (Below.refl _ w3).drew) ?_
  rintro e w4 ⟨⟨m, rfl, hm1, hm2⟩, e4⟩
  have e5 := e4.symm
  subst e5
  clear e4
  have HM : Hid (m ∈ tmsL s ∧ ∀ y ∈ tmsL s, m ≤ y) := ⟨hm1, hm2⟩
  refine hK.out _ _ hHeld (fun hHeld => ?_)
  clear hK K hm1 hm2
  refine wpAnyH_ready (rs := [4]) (by kernel_rfl) (by simp) ?_
  refine AllReadyH.cons (o := { dst := some 19, op := Go.Op.call { callee := Go.Callee.builtin Go.Builtin.max, args := #[Go.Operand.tmp 16, Go.Operand.tmp 18], argTypes := #[3, 3] }, type := 3, pos := "due.go:81", after := #[{ on := 1, ground := Go.Ground.data }, { on := 3, ground := Go.Ground.data }], guard := none }) rfl (fun K hK => ?_) AllReadyH.nil
  go_simp
  refine hK.out _ _ hHeld (fun hHeld => ?_)
  clear hK K
  refine wpAnyH_take (i := 5) (oi := { dst := some 2, op := Go.Op.assign (Go.Operand.tmp 19), type := 3, pos := "due.go:81", after := #[{ on := 4, ground := Go.Ground.data }, { on := 1, ground := Go.Ground.chain }, { on := 0, ground := Go.Ground.phase }, { on := 1, ground := Go.Ground.phase }, { on := 2, ground := Go.Ground.phase }, { on := 3, ground := Go.Ground.phase }, { on := 4, ground := Go.Ground.phase }], guard := none }) (v := ?_) rfl (by kernel_rfl) (by kernel_rfl) (by kernel_rfl) (fun _ _ _ h => h) (Or.inl ⟨by rfl, ?_⟩) hHeld ?_
  rotate_left 1
  · (intro w hSw; (try dsimp only at hSw); go_simp <;> with_reducible rfl)
  simp only [Act.put, List.setIfInBounds_toArray, List.set_cons_zero, List.set_cons_succ]
  refine wpAnyH_take (i := 6) (oi := { dst := some 3, op := Go.Op.assign (Go.Operand.const (Go.Value.bool true)), type := 4, pos := "due.go:81", after := #[{ on := 5, ground := Go.Ground.chain }, { on := 0, ground := Go.Ground.phase }, { on := 1, ground := Go.Ground.phase }, { on := 2, ground := Go.Ground.phase }, { on := 3, ground := Go.Ground.phase }, { on := 4, ground := Go.Ground.phase }, { on := 5, ground := Go.Ground.phase }], guard := none }) (v := ?_) rfl (by kernel_rfl) (by kernel_rfl) (by kernel_rfl) (fun _ _ _ h => h) (Or.inl ⟨by rfl, ?_⟩) hHeld ?_
  rotate_left 1
  · (intro w hSw; (try dsimp only at hSw); go_simp <;> with_reducible rfl)
  simp only [Act.put, List.setIfInBounds_toArray, List.set_cons_zero, List.set_cons_succ]
  refine wpAnyH_done (by kernel_rfl) ?_ _
  go_wp2_with fail
  exact HYe.out HS.out _ HM.out _ HB3.out.drew
theorem fir_pos (s : Sta) (t : Int) : 0 < (firR s t).length ↔ ∃ x ∈ s.tm, x.d ≤ t := by
  unfold firR
  rw [List.length_map, isort_length, offT, List.length_pos_iff_exists_mem]
  constructor
  · rintro ⟨x, hx⟩
    rw [List.mem_filter] at hx
    exact ⟨x, hx.1, of_decide_eq_true hx.2⟩
  · rintro ⟨x, hx, hd⟩
    exact ⟨x, List.mem_filter.2 ⟨hx, decide_eq_true hd⟩⟩
theorem mem_if (p : Prop) [Decidable p] (a y : Int) : y ∈ (if p then [a] else []) ↔ p ∧ y = a := by
  by_cases h : p
  · rw [if_pos h]; exact ⟨fun k => ⟨h, List.mem_singleton.1 k⟩, fun k => List.mem_singleton.2 k.2⟩
  · rw [if_neg h]; exact ⟨(fun k => by cases k), fun k => absurd k.1 h⟩
theorem mem_tms (s : Sta) (y : Int) : y ∈ tmsL s ↔ (0 < s.dl ∧ y = s.dl) ∨ (s.ts = 2 ∧ y = s.td) ∨ (∃ x ∈ s.tm, x.d = y) ∨ ((s.ts = 0 ∧ s.fresh = true) ∧ y = s.time) := by
  unfold tmsL preL
  rw [List.mem_append, List.mem_append, List.mem_append, List.mem_map]
  rw [mem_if, mem_if, mem_if, or_assoc, or_assoc]
/-- Something is due just if one of the times has come. -/
theorem at_iff (s : Sta) (t : Int) (ht : s.time ≤ t) : 0 < (atR s t).length ↔ s.status = 1 ∧ ∃ y ∈ tmsL s, y ≤ t := by
  have hg : 0 < (goR s t (firR s t)).length ↔ (s.ts = 2 ∧ s.td ≤ t) ∨ (∃ x ∈ s.tm, x.d ≤ t) ∨ (s.ts = 0 ∧ s.fresh = true) := by
    rw [← fir_pos]
    unfold goR
    rw [List.length_append, List.length_append]
    generalize firR s t = fr
    unfold retR wokR
    by_cases h1 : s.ts = 2 ∧ s.td ≤ t
    · rw [if_pos h1]
      refine ⟨fun _ => .inl h1, fun _ => ?_⟩
      simp only [List.length_cons]
      omega
    · rw [if_neg h1]
      by_cases h2 : 0 < fr.length
      · simp only [h2, h1, true_or, or_true, iff_true]; omega
      · have h3 : fr = [] := List.eq_nil_of_length_eq_zero (by omega)
        subst h3
        by_cases h4 : s.ts = 0 ∧ s.fresh = true
        · simp [h4]
        · simp only [h1, h4, false_or]
          have : ¬ (s.ts = 0 ∧ (s.fresh = true ∨ decide (0 < ([] : List (List Value)).length) = true)) := fun h => h4 ⟨h.1, h.2.elim id fun h => by cases h⟩
          rw [if_neg this]
          simp
  unfold atR
  by_cases h1 : s.status = 1
  · rw [if_pos h1]
    simp only [h1, true_and]
    by_cases h2 : 0 < s.dl ∧ s.dl ≤ t
    · rw [if_pos h2]
      exact ⟨fun _ => ⟨s.dl, (mem_tms s _).2 (.inl ⟨h2.1, rfl⟩), h2.2⟩, fun _ => Nat.one_pos⟩
    · rw [if_neg h2, hg]
      constructor
      · rintro (⟨a, b⟩ | ⟨x, hx, hd⟩ | hf)
        · exact ⟨s.td, (mem_tms s _).2 (.inr (.inl ⟨a, rfl⟩)), b⟩
        · exact ⟨x.d, (mem_tms s _).2 (.inr (.inr (.inl ⟨x, hx, rfl⟩))), hd⟩
        · exact ⟨s.time, (mem_tms s _).2 (.inr (.inr (.inr ⟨hf, rfl⟩))), ht⟩
      · rintro ⟨y, hy, hd⟩
        rcases (mem_tms s y).1 hy with ⟨a, rfl⟩ | ⟨a, rfl⟩ | ⟨x, hx, rfl⟩ | ⟨a, rfl⟩
        · exact absurd ⟨a, hd⟩ h2
        · exact .inl ⟨a, hd⟩
        · exact .inr (.inl ⟨x, hx, hd⟩)
        · exact .inr (.inr a)
  · rw [if_neg h1]
    exact ⟨fun h => absurd h (Nat.lt_irrefl 0), fun h => absurd h.1 h1⟩
theorem at13 (s : Sta) (t : Int) : Rw13 (atR s t) := by
  unfold atR
  split
  · split
    · intro r hr
      simp only [List.mem_cons, List.not_mem_nil, or_false] at hr
      subst hr
      exact ev13 _ _ _ _ _
    · intro r hr
      rcases List.mem_append.1 hr with hr | hr
      · rcases List.mem_append.1 hr with hr | hr
        · exact ret13 _ _ r hr
        · exact fir13 _ _ r hr
      · exact wok13 _ _ _ r hr
  · intro r hr; cases hr
theorem tm_ge (s : Sta) (a : Int) : s.time ≤ tmD s a := by unfold tmD; omega
set_option maxHeartbeats 8000000 in
set_option maxRecDepth 100000 in
theorem next_walk (n : Nat) (cs : Array Value) (s : Sta) (y1 : Int) (w : World) (h : Rs w n cs s) (hc : s.pc < 18446744073709551616) : Calls Try.prog 3 #[.agg cs, .int .i64 y1] w fun e w' => e = .returned (.bool true) ∧ Below w.heap.size w w' := by
  have KC := can_any n cs s (w.alloc (.cells cs 33)) (h.below (bel1 w _))
  have KA0 : Hid (s.tm.length ≤ 12 → ∀ W, Below w.heap.size w W → _) := fun hl W hB => at_calls n cs s y1 W (h.below hB) hl hc
  have KN0 : Hid (s.tm.length ≤ 12 → ∀ W, Below w.heap.size w W → _) := fun hl W hB => next_time_calls n cs s W (h.below hB) hl
  have KT : Hid (∀ W, Below w.heap.size w W → _) := fun W hB => time_calls cs s y1 W n (h.below hB)
  have HA : Hid (0 < (atR s (tmD s y1)).length ↔ s.status = 1 ∧ ∃ y ∈ tmsL s, y ≤ tmD s y1) := at_iff s _ (tm_ge s y1)
  have HG : Hid (s.time ≤ tmD s y1) := tm_ge s y1
  have hi33 := info33s cs h.size
  have HG0 : Hid ((w.alloc (.cells cs 33)).heap[w.heap.size]? = some (.cells cs 33 (0, 0))) := heap_alloc_new w _
  have HB0 : Hid (Below w.heap.size w (w.alloc (.cells cs 33))) := bel1 w _
  clear h hc
  go_enter Try.func3, Try.ntmps3
  go_wp2_with (refine wpList_load_row rfl 33 _ rfl w.heap.size rfl 33 cs (0, 0) _ HG0.out Try.underlying33 rfl hi33 ?_)
  refine KC.mono ?_
  rintro e w1 ⟨⟨b, rfl, hl⟩, hb⟩
  have HB1 : Hid (Below w.heap.size w w1) := bel2 HB0.out hb
  have HG1 : Hid (w1.heap[w.heap.size]? = some (.cells cs 33 (0, 0))) := row_below hb HG0.out
  clear hb HG0 KC
  cases b with
  | false =>
    clear hl
    go_wp2_with fail
    refine Calls.mono (awake_calls _) ?_
    rintro e w9 ⟨rfl, hb⟩
    have HB9 : Hid (Below w.heap.size w w9) := bel2 HB1.out hb
    clear hb
    go_wp2_with fail
    go_ret
    exact ⟨rfl, HB9.out⟩
  | true =>
    have hl12 : s.tm.length ≤ 12 := by have := hl rfl; omega
    have KA : Hid (∀ W, Below w.heap.size w W → _) := KA0.out hl12
    have KN : Hid (∀ W, Below w.heap.size w W → _) := KN0.out hl12
    clear hl hl12 KA0 KN0
    go_wp2_with (refine wpList_load_row rfl 33 _ rfl w.heap.size rfl 33 cs (0, 0) _ HG1.out Try.underlying33 rfl hi33 ?_)
    refine Calls.mono (KN.out _ HB1.out) ?_
    rintro e w2 ⟨⟨z, b, rfl, hy, hn⟩, hb⟩
    have HB2 : Hid (Below w.heap.size w w2) := bel2 HB1.out hb
    have HG2 : Hid (w2.heap[w.heap.size]? = some (.cells cs 33 (0, 0))) := row_below hb HG1.out
    clear hb
    cases b with
    | false =>
      have h0 : (atR s (tmD s y1)).length = 0 := by
        have := hn rfl
        rcases Nat.eq_zero_or_pos (atR s (tmD s y1)).length with h | h
        · exact h
        · obtain ⟨h1, y, hy, _⟩ := HA.out.1 h
          exact absurd ⟨h1, fun h2 => by rw [h2] at hy; cases hy⟩ this
      have HZ : Hid ((atR s (tmD s y1)).length = 0) := h0
      clear hy hn h0
      go_wp2_with (refine wpList_load_row rfl 33 _ rfl w.heap.size rfl 33 cs (0, 0) _ HG2.out Try.underlying33 rfl hi33 ?_)
      refine Calls.mono (KA.out _ HB2.out) ?_
      rintro e w3 ⟨⟨v3, rfl, hO⟩, hb⟩
      have HB3 : Hid (Below w.heap.size w w3) := bel2 HB2.out hb
      have HG3 : Hid (w3.heap[w.heap.size]? = some (.cells cs 33 (0, 0))) := row_below hb HG2.out
      clear hb
      have hsr := Src.form (OwnR.src hO (at13 _ _) (Nat.le_refl _))
      obtain ⟨fa, fc, e3⟩ := hsr
      subst e3
      clear hO
      rw [HZ.out]
      go_wp2_with fail
      refine Calls.mono (awake_calls _) ?_
      rintro e w9 ⟨rfl, hb⟩
      have HB9 : Hid (Below w.heap.size w w9) := bel2 HB3.out hb
      clear hb
      go_wp2_with fail
      go_ret
      exact ⟨rfl, HB9.out⟩
    | true =>
      obtain ⟨h1, m, hm, hle, rfl⟩ := hy rfl
      have hiff : 0 < (atR s (tmD s y1)).length ↔ max m s.time ≤ tmD s y1 := by
        rw [HA.out]
        constructor
        · rintro ⟨_, y, hy, hd⟩
          have := hle y hy
          have := HG.out
          omega
        · intro h
          exact ⟨h1, m, hm, by omega⟩
      by_cases hz : max m s.time ≤ tmD s y1
      · have d1 : decide (max m s.time ≤ tmD s y1) = true := decide_eq_true hz
        have d2 : 0 < (atR s (tmD s y1)).length := hiff.2 hz
        have HD2 : Hid (0 < (atR s (tmD s y1)).length) := d2
        clear hy hn h1 hm hle hiff hz HA HG d2
        generalize max m s.time = z at d1 ⊢
        go_wp2_with (refine wpList_load_row rfl 33 _ rfl w.heap.size rfl 33 cs (0, 0) _ HG2.out Try.underlying33 rfl hi33 ?_)
        refine Calls.mono (KA.out _ HB2.out) ?_
        rintro e w3 ⟨⟨v3, rfl, hO⟩, hb⟩
        have HB3 : Hid (Below w.heap.size w w3) := bel2 HB2.out hb
        have HG3 : Hid (w3.heap[w.heap.size]? = some (.cells cs 33 (0, 0))) := row_below hb HG2.out
        clear hb
        have hsr := Src.form (OwnR.src hO (at13 _ _) (Nat.le_refl _))
        obtain ⟨fa, fc, e3⟩ := hsr
        subst e3
        clear hO
        have HD2 : Hid (0 < (atR s (tmD s y1)).length) := HD2
        generalize (atR s (tmD s y1)).length = q at HD2 ⊢
        have d2 : 0 < q := HD2.out
        go_wp2_with (refine wpList_load_rowG rfl 33 _ rfl w.heap.size rfl 33 cs (0, 0) _ HG3.out Try.underlying33 rfl hi33 ?_)
        refine Calls.mono (KT.out _ HB3.out) ?_
        rintro e w4 ⟨rfl, hb⟩
        have HB4 : Hid (Below w.heap.size w w4) := bel2 HB3.out hb
        have HG4 : Hid (w4.heap[w.heap.size]? = some (.cells cs 33 (0, 0))) := row_below hb HG3.out
        clear hb
        go_wp2_with fail
        refine Calls.mono (awake_calls _) ?_
        rintro e w9 ⟨rfl, hb⟩
        have HB9 : Hid (Below w.heap.size w w9) := bel2 HB4.out hb
        clear hb
        go_wp2_with fail
        go_ret
        exact ⟨rfl, HB9.out⟩
      · have d1 : decide (max m s.time ≤ tmD s y1) = false := decide_eq_false hz
        have HZ : Hid ((atR s (tmD s y1)).length = 0) := by
          show _ = _
          rcases Nat.eq_zero_or_pos (atR s (tmD s y1)).length with h | h
          · exact h
          · exact absurd (hiff.1 h) hz
        clear hy hn h1 hm hle hiff hz HA HG
        generalize max m s.time = z at d1 ⊢
        go_wp2_with (refine wpList_load_row rfl 33 _ rfl w.heap.size rfl 33 cs (0, 0) _ HG2.out Try.underlying33 rfl hi33 ?_)
        refine Calls.mono (KA.out _ HB2.out) ?_
        rintro e w3 ⟨⟨v3, rfl, hO⟩, hb⟩
        have HB3 : Hid (Below w.heap.size w w3) := bel2 HB2.out hb
        have HG3 : Hid (w3.heap[w.heap.size]? = some (.cells cs 33 (0, 0))) := row_below hb HG2.out
        clear hb
        have hsr := Src.form (OwnR.src hO (at13 _ _) (Nat.le_refl _))
        obtain ⟨fa, fc, e3⟩ := hsr
        subst e3
        clear hO
        rw [HZ.out]
        go_wp2_with (refine wpList_load_rowG rfl 33 _ rfl w.heap.size rfl 33 cs (0, 0) _ HG3.out Try.underlying33 rfl hi33 ?_)
        refine Calls.mono (KT.out _ HB3.out) ?_
        rintro e w4 ⟨rfl, hb⟩
        have HB4 : Hid (Below w.heap.size w w4) := bel2 HB3.out hb
        have HG4 : Hid (w4.heap[w.heap.size]? = some (.cells cs 33 (0, 0))) := row_below hb HG3.out
        clear hb
        go_wp2_with fail
        refine Calls.mono (awake_calls _) ?_
        rintro e w9 ⟨rfl, hb⟩
        have HB9 : Hid (Below w.heap.size w w9) := bel2 HB4.out hb
        clear hb
        go_wp2_with fail
        go_ret
        exact ⟨rfl, HB9.out⟩
end Go.Proofs.Ytmcbgfcpalfcjaa
