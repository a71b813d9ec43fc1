/- The contract of due.At. -/
import Derived.Test.YtmcbgfcpalfcjaaOI
import Derived.Deep.MidRow
namespace Go.Proofs.Ytmcbgfcpalfcjaa
open Go.ChangeShapes Go.WideShapes Go.ChangeAt Go.RowKit
theorem Src.mono {w : World} {base base' : Nat} {v : Value} {rows : List (List Value)} (h : Src w base v rows) (hb : base ≤ base') : Src w base' v rows := by
  obtain ⟨h1, h2 | ⟨g, c, h3, h4, h5⟩⟩ := h
  · exact ⟨h1, .inl h2⟩
  · exact ⟨h1, .inr ⟨g, c, h3, Nat.lt_of_lt_of_le h4 hb, h5⟩⟩
theorem OwnR.mono {w : World} {base base' : Nat} {v : Value} {rows : List (List Value)} (h : OwnR w base v rows) (hb : base' ≤ base) : OwnR w base' v rows := by
  obtain ⟨h1, h2 | ⟨g, c, cur, h3, h4, h5⟩⟩ := h
  · exact ⟨h1, .inl h2⟩
  · exact ⟨h1, .inr ⟨g, c, cur, h3, Nat.le_trans hb h4, h5⟩⟩
theorem ev13 (k t n d : Int) (s : ByteArray) : (evR k t n d s).length = 13 ∧ ∀ u ∈ evR k t n d s, u.oneCell' = true := by
  refine ⟨rfl, ?_⟩
  simp [evR, Value.oneCell']
theorem ret13 (s : Sta) (t : Int) : Rw13 (retR s t) := by
  intro r hr
  unfold retR at hr
  split at hr
  · simp only [List.mem_cons, List.not_mem_nil, or_false] at hr
    rcases hr with rfl | rfl <;> exact ev13 _ _ _ _ _
  · cases hr
theorem ret20 (s : Sta) (t : Int) : (retR s t).length ≤ 20 := by unfold retR; split <;> simp
theorem wok13 (s : Sta) (t : Int) (f : Bool) : Rw13 (wokR s t f) := by
  intro r hr
  unfold wokR at hr
  split at hr
  · simp only [List.mem_cons, List.not_mem_nil, or_false] at hr
    rcases hr with rfl
    exact ev13 _ _ _ _ _
  · cases hr
theorem wok20 (s : Sta) (t : Int) (f : Bool) : (wokR s t f).length ≤ 20 := by unfold wokR; split <;> simp
theorem fir13 (l : List Tm) (t : Int) : Rw13 (l.map fun x : Tm => evR 10 t 0 0 x.s) := by
  intro r hr
  obtain ⟨x, _, rfl⟩ := List.mem_map.1 hr
  exact ev13 _ _ _ _ _
/-- The events that are due at an hour. -/
def firR (s : Sta) (t : Int) : List (List Value) := (isort (offT s t)).map fun x : Tm => evR 10 t 0 0 x.s
def goR (s : Sta) (t : Int) (fr : List (List Value)) : List (List Value) := retR s t ++ fr ++ wokR s t (decide (0 < fr.length))
def atR (s : Sta) (t : Int) : List (List Value) := if s.status = 1 then (if 0 < s.dl ∧ s.dl ≤ t then [evR 19 t 0 0 ⟨#[]⟩] else goR s t (firR s t)) else []
def AtP (s : Sta) (t : Int) (w : World) (e : Ending) (w' : World) : Prop := (∃ v, e = .returned v ∧ OwnR w' w.heap.size v (atR s t)) ∧ Below w.heap.size w w'
set_option maxHeartbeats 8000000 in
set_option maxRecDepth 100000 in
theorem at_calls (n : Nat) (cs : Array Value) (s : Sta) (now : Int) (w : World) (h : Rs w n cs s) (hl : s.tm.length ≤ 12) (hc : s.pc < 18446744073709551616) : Calls Try.prog 7 #[.agg cs, .int .i64 now] w (AtP s (tmD s now) w) := by
  have KT := time_calls cs s now (w.alloc (.cells cs 33)) n (h.below (bel1 w _))
  generalize tmD s now = t at KT ⊢
  have HN : Hid (¬ s.status = 1 → ∀ w', Below w.heap.size w w' → AtP s t w (.returned (.slice none 0 0)) w') := fun hn w' hb => ⟨⟨_, rfl, by unfold atR; rw [if_neg hn]; exact World.ownsRow_nil _ _ _ _⟩, hb⟩
  have HT : Hid (s.status = 1 → 0 < s.dl ∧ s.dl ≤ t → ∀ v w', OwnR w' w.heap.size v [evR 19 t 0 0 ⟨#[]⟩] → Below w.heap.size w w' → AtP s t w (.returned v) w') := fun h1 h2 v w' ho hb => ⟨⟨_, rfl, by unfold atR; rw [if_pos h1, if_pos h2]; exact ho⟩, hb⟩
  have HY : Hid (s.status = 1 → ¬ (0 < s.dl ∧ s.dl ≤ t) → ∀ v w', OwnR w' w.heap.size v (goR s t ((isort (offT s t)).map fun x : Tm => evR 10 t 0 0 x.s)) → Below w.heap.size w w' → AtP s t w (.returned v) w') := fun h1 h2 v w' ho hb => ⟨⟨_, rfl, by unfold atR; rw [if_pos h1, if_neg h2]; exact ho⟩, hb⟩
  have HL20 : Hid (((isort (offT s t)).map fun x : Tm => evR 10 t 0 0 x.s).length ≤ 20) := by
    show _ ≤ _
    rw [List.length_map, isort_length]
    exact Nat.le_trans (List.length_filter_le _ _) (by omega)
  have KR : Hid (∀ W, _) := fun W => running_calls cs s.status W h.c1
  have KF : Hid (∀ W, Below w.heap.size w W → _) := fun W hB => fired_calls n cs s t W (h.below hB) hl
  have KE : Hid (∀ W, Below w.heap.size w W → _) := fun W hB => retried_calls n cs s t W (h.below hB) hc
  have KW : Hid (∀ W f, Below w.heap.size w W → _) := fun W f hB => woken_calls n cs s t f W (h.below hB)
  have hi33 := info33s cs h.size
  have hi33l : (Try.prog.info? 33).map (·.size) = some cs.toList.length := by rw [Array.length_toList]; exact hi33
  have c4 := h.c4
  have HG0 : Hid ((w.alloc (.cells cs 33)).heap[w.heap.size]? = some (.cells cs 33 (0, 0))) := heap_alloc_new w _
  have HB0 : Hid (Below w.heap.size w (w.alloc (.cells cs 33))) := bel1 w _
  clear h hl hc
  generalize AtP s t w = Q at HN HT HY ⊢
  go_enter Try.func7, Try.ntmps7
  go_wp2_with (refine wpList_load_row rfl 33 _ rfl w.heap.size rfl 33 cs (0, 0) _ HG0.out Try.underlying33 rfl hi33 ?_)
  refine KT.mono ?_
  rintro e w1 ⟨rfl, hb⟩
  have HB1 : Hid (Below w.heap.size w w1) := bel2 HB0.out hb
  have HG1 : Hid (w1.heap[w.heap.size]? = some (.cells cs 33 (0, 0))) := row_below hb HG0.out
  clear hb KT HG0
  go_wp2_with (refine wpList_load_row rfl 33 _ rfl w.heap.size rfl 33 cs (0, 0) _ HG1.out Try.underlying33 rfl hi33 ?_)
  refine Calls.mono (KR.out _) ?_
  rintro e w2 ⟨rfl, hb⟩
  have HB2 : Hid (Below w.heap.size w w2) := bel2 HB1.out hb
  have HG2 : Hid (w2.heap[w.heap.size]? = some (.cells cs 33 (0, 0))) := row_below hb HG1.out
  have g2 : ∀ j, w2.cell? ⟨w.heap.size, j, none⟩ = cs[j]? := fun j => cell_of_row w2 _ j cs 33 (0, 0) HG2.out
  clear hb
  by_cases hs : s.status = 1
  case neg =>
    have d : (s.status == 1) = false := by simpa using hs
    have HS : Hid (¬ s.status = 1) := hs
    clear hs
    go_wp2_with fail
    exact HN.out HS.out _ HB2.out
  have d : (s.status == 1) = true := by simpa using hs
  have HS : Hid (s.status = 1) := hs
  clear hs
  by_cases hd : 0 < s.dl
  case neg =>
    have d1 : decide (0 < s.dl) = false := decide_eq_false hd
    have HD : Hid (¬ (0 < s.dl ∧ s.dl ≤ t)) := fun h => hd h.1
    clear hd
    go_wp2_with (refine wpList_load_row rfl 33 _ rfl w.heap.size rfl 33 cs (0, 0) _ HG2.out Try.underlying33 rfl hi33 ?_)
    refine Calls.mono (KF.out _ HB2.out) ?_
    rintro e w3 ⟨⟨v3, rfl, hO⟩, hb⟩
    have HB3 : Hid (Below w.heap.size w w3) := bel2 HB2.out hb
    have HG3 : Hid (w3.heap[w.heap.size]? = some (.cells cs 33 (0, 0))) := row_below hb HG2.out
    have hsr := OwnR.src hO.rows (fir13 _ _) (Nat.le_refl _)
    obtain ⟨fa, fc, e3⟩ := hsr.form
    subst e3
    have HF3 : Hid (Src w3 w3.heap.size _ _) := hsr
    clear hb hO hsr
    generalize hfr : (isort (offT s t)).map (fun x : Tm => evR 10 t 0 0 x.s) = fr at HF3 HL20 HY ⊢
    clear hfr
    generalize hm : fr.length = m at HF3 HY ⊢
    have HM : Hid (fr.length = m) := hm
    clear hm
    go_wp2_with fail
    refine wp_region_held_drew (S := (fun w' => w'.rangeAt w.heap.size 0 cs.toList)) (by kernel_rfl) (lies_range (Lies.row HG3.out)) (fun hHeld => ?_)
    change wpAnyH _ _ _ _ _ _ _ _ (World.drew _)
    refine wpAnyH_take (i := 0) (oi := { dst := some 28, op := Go.Op.load 33 (Go.Operand.tmp 2), type := 33, pos := "due.go:30", after := #[], guard := none }) (v := _) rfl (by kernel_rfl) (by kernel_rfl) (by kernel_rfl) (fun _ _ _ h => h) (yieldsIf_load_mid rfl 33 _ rfl w.heap.size 0 rfl cs.toList _ (fun w h => h) Try.underlying33 rfl hi33l) hHeld ?_
    simp only [Act.put, List.setIfInBounds_toArray, List.set_cons_zero, List.set_cons_succ]
    refine wpAnyH_take (i := 1) (oi := { dst := some 29, op := Go.Op.move (Go.Operand.tmp 5), type := 3, pos := "due.go:30", after := #[], guard := none }) (v := ?_) rfl (by kernel_rfl) (by kernel_rfl) (by kernel_rfl) (fun _ _ _ h => h) (Or.inl ⟨by rfl, ?_⟩) hHeld ?_
    rotate_left 1
    · (intro w hSw; (try dsimp only at hSw); go_simp <;> with_reducible rfl)
    simp only [Act.put, List.setIfInBounds_toArray, List.set_cons_zero, List.set_cons_succ]
    refine wpAnyH_take (i := 3) (oi := { dst := some 31, op := Go.Op.move (Go.Operand.tmp 6), type := 38, pos := "due.go:30", after := #[], guard := none }) (v := ?_) rfl (by kernel_rfl) (by kernel_rfl) (by kernel_rfl) (fun _ _ _ h => h) (Or.inl ⟨by rfl, ?_⟩) hHeld ?_
    rotate_left 1
    · (intro w hSw; (try dsimp only at hSw); go_simp <;> with_reducible rfl)
    simp only [Act.put, List.setIfInBounds_toArray, List.set_cons_zero, List.set_cons_succ]
    refine wpAnyH_take (i := 4) (oi := { dst := some 32, op := Go.Op.load 33 (Go.Operand.tmp 2), type := 33, pos := "due.go:30", after := #[], guard := none }) (v := _) rfl (by kernel_rfl) (by kernel_rfl) (by kernel_rfl) (fun _ _ _ h => h) (yieldsIf_load_mid rfl 33 _ rfl w.heap.size 0 rfl cs.toList _ (fun w h => h) Try.underlying33 rfl hi33l) hHeld ?_
    simp only [Act.put, List.setIfInBounds_toArray, List.set_cons_zero, List.set_cons_succ]
    refine wpAnyH_take (i := 5) (oi := { dst := some 33, op := Go.Op.move (Go.Operand.tmp 5), type := 3, pos := "due.go:30", after := #[], guard := none }) (v := ?_) rfl (by kernel_rfl) (by kernel_rfl) (by kernel_rfl) (fun _ _ _ h => h) (Or.inl ⟨by rfl, ?_⟩) hHeld ?_
    rotate_left 1
    · (intro w hSw; (try dsimp only at hSw); go_simp <;> with_reducible rfl)
    simp only [Act.put, List.setIfInBounds_toArray, List.set_cons_zero, List.set_cons_succ]
    refine wpAnyH_take (i := 6) (oi := { dst := some 34, op := Go.Op.move (Go.Operand.tmp 6), type := 38, pos := "due.go:30", after := #[], guard := none }) (v := ?_) rfl (by kernel_rfl) (by kernel_rfl) (by kernel_rfl) (fun _ _ _ h => h) (Or.inl ⟨by rfl, ?_⟩) hHeld ?_
    rotate_left 1
    · (intro w hSw; (try dsimp only at hSw); go_simp <;> with_reducible rfl)
    simp only [Act.put, List.setIfInBounds_toArray, List.set_cons_zero, List.set_cons_succ]
    refine wpAnyH_take (i := 7) (oi := { dst := some 35, op := Go.Op.call { callee := Go.Callee.builtin Go.Builtin.len, args := #[Go.Operand.tmp 34], argTypes := #[38] }, type := 3, pos := "due.go:30", after := #[{ on := 6, ground := Go.Ground.data }], guard := none }) (v := ?_) rfl (by kernel_rfl) (by kernel_rfl) (by kernel_rfl) (fun _ _ _ h => h) (Or.inl ⟨by rfl, ?_⟩) hHeld ?_
    rotate_left 1
    · (intro w hSw; (try dsimp only at hSw); go_simp <;> with_reducible rfl)
    simp only [Act.put, List.setIfInBounds_toArray, List.set_cons_zero, List.set_cons_succ]
    refine wpAnyH_take (i := 8) (oi := { dst := some 36, op := Go.Op.binOp Go.BinOp.gtr 3 (Go.Operand.tmp 35) (Go.Operand.const (Go.Value.int Go.IntKind.i64 0)) 3, type := 4, pos := "due.go:30", after := #[{ on := 7, ground := Go.Ground.data }], guard := none }) (v := ?_) rfl (by kernel_rfl) (by kernel_rfl) (by kernel_rfl) (fun _ _ _ h => h) (Or.inl ⟨by rfl, ?_⟩) hHeld ?_
    rotate_left 1
    · (intro w hSw; (try dsimp only at hSw); go_simp <;> with_reducible rfl)
    simp only [Act.put, List.setIfInBounds_toArray, List.set_cons_zero, List.set_cons_succ]
    refine wpAnyH_ready (rs := [2]) (by kernel_rfl) (by simp) ?_
    refine AllReadyH.cons (o := { dst := some 30, op := Go.Op.call { callee := Go.Callee.value (Go.Operand.func 22), args := #[Go.Operand.tmp 28, Go.Operand.tmp 29], argTypes := #[33, 3] }, type := 38, pos := "due.go:30", after := #[{ on := 0, ground := Go.Ground.data }, { on := 1, ground := Go.Ground.data }], guard := none }) rfl (fun K hK => ?_) AllReadyH.nil
    go_simp
    refine Calls.mono (KE.out _ HB3.out.drew) ?_
    rintro e w4 ⟨⟨v4, rfl, hO⟩, hb⟩
    have HB4 : Hid (Below w.heap.size w w4) := bel2 HB3.out.drew hb
    have HG4 : Hid (w4.heap[w.heap.size]? = some (.cells cs 33 (0, 0))) := row_below hb HG3.out
    have hsr := OwnR.src hO (ret13 s t) (Nat.le_refl _)
    obtain ⟨ra, rc, e3⟩ := hsr.form
    subst e3
    have H04 : Hid (Src w4 w4.heap.size (.slice ra (retR s t).length rc) (retR s t)) := hsr
    have HF4 : Hid (Src w4 w4.heap.size (.slice fa m fc) fr) := (HF3.out.below (bel2 (Below.refl _ w3).drew hb)).mono hb.size
    clear hsr
    refine hK.out _ _ (lies_range (Lies.row HG4.out)) (fun hHeld => ?_)
    clear hK K hb hO
    refine wpAnyH_ready (rs := [9]) (by kernel_rfl) (by simp) ?_
    refine AllReadyH.cons (o := { dst := some 37, op := Go.Op.call { callee := Go.Callee.value (Go.Operand.func 23), args := #[Go.Operand.tmp 32, Go.Operand.tmp 33, Go.Operand.tmp 36], argTypes := #[33, 3, 4] }, type := 38, pos := "due.go:30", after := #[{ on := 4, ground := Go.Ground.data }, { on := 5, ground := Go.Ground.data }, { on := 8, ground := Go.Ground.data }, { on := 2, ground := Go.Ground.chain }], guard := none }) rfl (fun K hK => ?_) AllReadyH.nil
    go_simp
    refine Calls.mono (KW.out _ _ HB4.out) ?_
    rintro e w5 ⟨⟨v5, rfl, hO⟩, hb⟩
    have HB5 : Hid (Below w.heap.size w w5) := bel2 HB4.out hb
    have HG5 : Hid (w5.heap[w.heap.size]? = some (.cells cs 33 (0, 0))) := row_below hb HG4.out
    have hsr := OwnR.src hO (wok13 _ _ _) (Nat.le_refl _)
    obtain ⟨ka, kc, e3⟩ := hsr.form
    subst e3
    have H15 : Hid (Src w5 w5.heap.size _ _) := hsr
    clear hsr
    have H05 : Hid (Src w5 w5.heap.size _ (retR s t)) := (H04.out.below hb).mono hb.size
    have HF5 : Hid (Src w5 w5.heap.size (.slice fa m fc) fr) := (HF4.out.below hb).mono hb.size
    refine hK.out _ _ (lies_range (Lies.row HG5.out)) (fun hHeld => ?_)
    clear hK K hb hO
    refine wpAnyH_ready (rs := [10]) (by kernel_rfl) (by simp) ?_
    refine AllReadyH.cons (o := { dst := some 38, op := Go.Op.buildSlice 71 3 #[(0, Go.Operand.tmp 30), (1, Go.Operand.tmp 31), (2, Go.Operand.tmp 37)], type := 71, pos := "due.go:30", after := #[{ on := 2, ground := Go.Ground.data }, { on := 3, ground := Go.Ground.data }, { on := 9, ground := Go.Ground.data }], guard := none }) rfl (fun K hK => ?_) AllReadyH.nil
    go_simp
    refine hK.out _ _ (lies_range (Lies.row (row_below (bel1 w5 _) HG5.out))) (fun hHeld => ?_)
    clear hK K
    refine wpAnyH_ready (rs := [11]) (by kernel_rfl) (by simp) ?_
    refine AllReadyH.cons (o := { dst := some 39, op := Go.Op.call { callee := Go.Callee.value (Go.Operand.func 21), args := #[Go.Operand.tmp 38], argTypes := #[71] }, type := 38, pos := "due.go:30", after := #[{ on := 10, ground := Go.Ground.data }, { on := 9, ground := Go.Ground.chain }], guard := none }) rfl (fun K hK => ?_) AllReadyH.nil
    go_simp
    refine Calls.mono (concat_calls w5.heap.size 3 _ _ _ _ _ _ _ ((H05.out.below (bel1 w5 _)).mono (bel1 w5 _).size) ((HF5.out.below (bel1 w5 _)).mono (bel1 w5 _).size) ((H15.out.below (bel1 w5 _)).mono (bel1 w5 _).size) (by simp) (cell_of_row _ _ 0 _ _ (0, 0) (heap_alloc_new w5 _)) (cell_of_row _ _ 1 _ _ (0, 0) (heap_alloc_new w5 _)) (cell_of_row _ _ 2 _ _ (0, 0) (heap_alloc_new w5 _)) (ret20 _ _) HL20.out (wok20 _ _ _)) ?_
    rintro e w6 ⟨v6, rfl, hO, hb⟩
    have HB6 : Hid (Below w.heap.size w w6) := bel2 (bel2 HB5.out (bel1 w5 _)) hb
    have HO6 : Hid (OwnR w6 w.heap.size v6 _) := hO.mono (bel2 HB5.out (bel1 w5 _)).size
    refine hK.out _ _ (lies_range (Lies.row (row_below hb (row_below (bel1 w5 _) HG5.out)))) (fun hHeld => ?_)
    clear hK K hb hO
    refine wpAnyH_take (i := 12) (oi := { dst := some 4, op := Go.Op.assign (Go.Operand.tmp 39), type := 38, pos := "due.go:30", after := #[{ on := 11, ground := Go.Ground.data }, { on := 11, ground := Go.Ground.chain }, { on := 0, ground := Go.Ground.phase }, { on := 1, ground := Go.Ground.phase }, { on := 2, ground := Go.Ground.phase }, { on := 3, ground := Go.Ground.phase }, { on := 4, ground := Go.Ground.phase }, { on := 5, ground := Go.Ground.phase }, { on := 6, ground := Go.Ground.phase }, { on := 7, ground := Go.Ground.phase }, { on := 8, ground := Go.Ground.phase }, { on := 9, ground := Go.Ground.phase }, { on := 10, ground := Go.Ground.phase }, { on := 11, ground := Go.Ground.phase }], guard := none }) (v := ?_) rfl (by kernel_rfl) (by kernel_rfl) (by kernel_rfl) (fun _ _ _ h => h) (Or.inl ⟨by rfl, ?_⟩) hHeld ?_
    rotate_left 1
    · (intro w hSw; (try dsimp only at hSw); go_simp <;> with_reducible rfl)
    simp only [Act.put, List.setIfInBounds_toArray, List.set_cons_zero, List.set_cons_succ]
    refine wpAnyH_done (by kernel_rfl) ?_ _
    go_wp2_with fail
    exact HY.out HS.out HD.out _ _ (by have h := HO6.out; rw [← HM.out] at h; exact h) HB6.out
  have d1 : decide (0 < s.dl) = true := decide_eq_true hd
  by_cases hd2 : s.dl ≤ t
  case neg =>
    have d2 : decide (s.dl ≤ t) = false := decide_eq_false hd2
    have HD : Hid (¬ (0 < s.dl ∧ s.dl ≤ t)) := fun h => hd2 h.2
    clear hd hd2
    go_wp2_with (refine wpList_load_row rfl 33 _ rfl w.heap.size rfl 33 cs (0, 0) _ HG2.out Try.underlying33 rfl hi33 ?_)
    refine Calls.mono (KF.out _ HB2.out) ?_
    rintro e w3 ⟨⟨v3, rfl, hO⟩, hb⟩
    have HB3 : Hid (Below w.heap.size w w3) := bel2 HB2.out hb
    have HG3 : Hid (w3.heap[w.heap.size]? = some (.cells cs 33 (0, 0))) := row_below hb HG2.out
    have hsr := OwnR.src hO.rows (fir13 _ _) (Nat.le_refl _)
    obtain ⟨fa, fc, e3⟩ := hsr.form
    subst e3
    have HF3 : Hid (Src w3 w3.heap.size _ _) := hsr
    clear hb hO hsr
    generalize hfr : (isort (offT s t)).map (fun x : Tm => evR 10 t 0 0 x.s) = fr at HF3 HL20 HY ⊢
    clear hfr
    generalize hm : fr.length = m at HF3 HY ⊢
    have HM : Hid (fr.length = m) := hm
    clear hm
    go_wp2_with fail
    refine wp_region_held_drew (S := (fun w' => w'.rangeAt w.heap.size 0 cs.toList)) (by kernel_rfl) (lies_range (Lies.row HG3.out)) (fun hHeld => ?_)
    change wpAnyH _ _ _ _ _ _ _ _ (World.drew _)
    refine wpAnyH_take (i := 0) (oi := { dst := some 28, op := Go.Op.load 33 (Go.Operand.tmp 2), type := 33, pos := "due.go:30", after := #[], guard := none }) (v := _) rfl (by kernel_rfl) (by kernel_rfl) (by kernel_rfl) (fun _ _ _ h => h) (yieldsIf_load_mid rfl 33 _ rfl w.heap.size 0 rfl cs.toList _ (fun w h => h) Try.underlying33 rfl hi33l) hHeld ?_
    simp only [Act.put, List.setIfInBounds_toArray, List.set_cons_zero, List.set_cons_succ]
    refine wpAnyH_take (i := 1) (oi := { dst := some 29, op := Go.Op.move (Go.Operand.tmp 5), type := 3, pos := "due.go:30", after := #[], guard := none }) (v := ?_) rfl (by kernel_rfl) (by kernel_rfl) (by kernel_rfl) (fun _ _ _ h => h) (Or.inl ⟨by rfl, ?_⟩) hHeld ?_
    rotate_left 1
    · (intro w hSw; (try dsimp only at hSw); go_simp <;> with_reducible rfl)
    simp only [Act.put, List.setIfInBounds_toArray, List.set_cons_zero, List.set_cons_succ]
    refine wpAnyH_take (i := 3) (oi := { dst := some 31, op := Go.Op.move (Go.Operand.tmp 6), type := 38, pos := "due.go:30", after := #[], guard := none }) (v := ?_) rfl (by kernel_rfl) (by kernel_rfl) (by kernel_rfl) (fun _ _ _ h => h) (Or.inl ⟨by rfl, ?_⟩) hHeld ?_
    rotate_left 1
    · (intro w hSw; (try dsimp only at hSw); go_simp <;> with_reducible rfl)
    simp only [Act.put, List.setIfInBounds_toArray, List.set_cons_zero, List.set_cons_succ]
    refine wpAnyH_take (i := 4) (oi := { dst := some 32, op := Go.Op.load 33 (Go.Operand.tmp 2), type := 33, pos := "due.go:30", after := #[], guard := none }) (v := _) rfl (by kernel_rfl) (by kernel_rfl) (by kernel_rfl) (fun _ _ _ h => h) (yieldsIf_load_mid rfl 33 _ rfl w.heap.size 0 rfl cs.toList _ (fun w h => h) Try.underlying33 rfl hi33l) hHeld ?_
    simp only [Act.put, List.setIfInBounds_toArray, List.set_cons_zero, List.set_cons_succ]
    refine wpAnyH_take (i := 5) (oi := { dst := some 33, op := Go.Op.move (Go.Operand.tmp 5), type := 3, pos := "due.go:30", after := #[], guard := none }) (v := ?_) rfl (by kernel_rfl) (by kernel_rfl) (by kernel_rfl) (fun _ _ _ h => h) (Or.inl ⟨by rfl, ?_⟩) hHeld ?_
    rotate_left 1
    · (intro w hSw; (try dsimp only at hSw); go_simp <;> with_reducible rfl)
    simp only [Act.put, List.setIfInBounds_toArray, List.set_cons_zero, List.set_cons_succ]
    refine wpAnyH_take (i := 6) (oi := { dst := some 34, op := Go.Op.move (Go.Operand.tmp 6), type := 38, pos := "due.go:30", after := #[], guard := none }) (v := ?_) rfl (by kernel_rfl) (by kernel_rfl) (by kernel_rfl) (fun _ _ _ h => h) (Or.inl ⟨by rfl, ?_⟩) hHeld ?_
    rotate_left 1
    · (intro w hSw; (try dsimp only at hSw); go_simp <;> with_reducible rfl)
    simp only [Act.put, List.setIfInBounds_toArray, List.set_cons_zero, List.set_cons_succ]
    refine wpAnyH_take (i := 7) (oi := { dst := some 35, op := Go.Op.call { callee := Go.Callee.builtin Go.Builtin.len, args := #[Go.Operand.tmp 34], argTypes := #[38] }, type := 3, pos := "due.go:30", after := #[{ on := 6, ground := Go.Ground.data }], guard := none }) (v := ?_) rfl (by kernel_rfl) (by kernel_rfl) (by kernel_rfl) (fun _ _ _ h => h) (Or.inl ⟨by rfl, ?_⟩) hHeld ?_
    rotate_left 1
    · (intro w hSw; (try dsimp only at hSw); go_simp <;> with_reducible rfl)
    simp only [Act.put, List.setIfInBounds_toArray, List.set_cons_zero, List.set_cons_succ]
    refine wpAnyH_take (i := 8) (oi := { dst := some 36, op := Go.Op.binOp Go.BinOp.gtr 3 (Go.Operand.tmp 35) (Go.Operand.const (Go.Value.int Go.IntKind.i64 0)) 3, type := 4, pos := "due.go:30", after := #[{ on := 7, ground := Go.Ground.data }], guard := none }) (v := ?_) rfl (by kernel_rfl) (by kernel_rfl) (by kernel_rfl) (fun _ _ _ h => h) (Or.inl ⟨by rfl, ?_⟩) hHeld ?_
    rotate_left 1
    · (intro w hSw; (try dsimp only at hSw); go_simp <;> with_reducible rfl)
    simp only [Act.put, List.setIfInBounds_toArray, List.set_cons_zero, List.set_cons_succ]
    refine wpAnyH_ready (rs := [2]) (by kernel_rfl) (by simp) ?_
    refine AllReadyH.cons (o := { dst := some 30, op := Go.Op.call { callee := Go.Callee.value (Go.Operand.func 22), args := #[Go.Operand.tmp 28, Go.Operand.tmp 29], argTypes := #[33, 3] }, type := 38, pos := "due.go:30", after := #[{ on := 0, ground := Go.Ground.data }, { on := 1, ground := Go.Ground.data }], guard := none }) rfl (fun K hK => ?_) AllReadyH.nil
    go_simp
    refine Calls.mono (KE.out _ HB3.out.drew) ?_
    rintro e w4 ⟨⟨v4, rfl, hO⟩, hb⟩
    have HB4 : Hid (Below w.heap.size w w4) := bel2 HB3.out.drew hb
    have HG4 : Hid (w4.heap[w.heap.size]? = some (.cells cs 33 (0, 0))) := row_below hb HG3.out
    have hsr := OwnR.src hO (ret13 s t) (Nat.le_refl _)
    obtain ⟨ra, rc, e3⟩ := hsr.form
    subst e3
    have H04 : Hid (Src w4 w4.heap.size (.slice ra (retR s t).length rc) (retR s t)) := hsr
    have HF4 : Hid (Src w4 w4.heap.size (.slice fa m fc) fr) := (HF3.out.below (bel2 (Below.refl _ w3).drew hb)).mono hb.size
    clear hsr
    refine hK.out _ _ (lies_range (Lies.row HG4.out)) (fun hHeld => ?_)
    clear hK K hb hO
    refine wpAnyH_ready (rs := [9]) (by kernel_rfl) (by simp) ?_
    refine AllReadyH.cons (o := { dst := some 37, op := Go.Op.call { callee := Go.Callee.value (Go.Operand.func 23), args := #[Go.Operand.tmp 32, Go.Operand.tmp 33, Go.Operand.tmp 36], argTypes := #[33, 3, 4] }, type := 38, pos := "due.go:30", after := #[{ on := 4, ground := Go.Ground.data }, { on := 5, ground := Go.Ground.data }, { on := 8, ground := Go.Ground.data }, { on := 2, ground := Go.Ground.chain }], guard := none }) rfl (fun K hK => ?_) AllReadyH.nil
    go_simp
    refine Calls.mono (KW.out _ _ HB4.out) ?_
    rintro e w5 ⟨⟨v5, rfl, hO⟩, hb⟩
    have HB5 : Hid (Below w.heap.size w w5) := bel2 HB4.out hb
    have HG5 : Hid (w5.heap[w.heap.size]? = some (.cells cs 33 (0, 0))) := row_below hb HG4.out
    have hsr := OwnR.src hO (wok13 _ _ _) (Nat.le_refl _)
    obtain ⟨ka, kc, e3⟩ := hsr.form
    subst e3
    have H15 : Hid (Src w5 w5.heap.size _ _) := hsr
    clear hsr
    have H05 : Hid (Src w5 w5.heap.size _ (retR s t)) := (H04.out.below hb).mono hb.size
    have HF5 : Hid (Src w5 w5.heap.size (.slice fa m fc) fr) := (HF4.out.below hb).mono hb.size
    refine hK.out _ _ (lies_range (Lies.row HG5.out)) (fun hHeld => ?_)
    clear hK K hb hO
    refine wpAnyH_ready (rs := [10]) (by kernel_rfl) (by simp) ?_
    refine AllReadyH.cons (o := { dst := some 38, op := Go.Op.buildSlice 71 3 #[(0, Go.Operand.tmp 30), (1, Go.Operand.tmp 31), (2, Go.Operand.tmp 37)], type := 71, pos := "due.go:30", after := #[{ on := 2, ground := Go.Ground.data }, { on := 3, ground := Go.Ground.data }, { on := 9, ground := Go.Ground.data }], guard := none }) rfl (fun K hK => ?_) AllReadyH.nil
    go_simp
    refine hK.out _ _ (lies_range (Lies.row (row_below (bel1 w5 _) HG5.out))) (fun hHeld => ?_)
    clear hK K
    refine wpAnyH_ready (rs := [11]) (by kernel_rfl) (by simp) ?_
    refine AllReadyH.cons (o := { dst := some 39, op := Go.Op.call { callee := Go.Callee.value (Go.Operand.func 21), args := #[Go.Operand.tmp 38], argTypes := #[71] }, type := 38, pos := "due.go:30", after := #[{ on := 10, ground := Go.Ground.data }, { on := 9, ground := Go.Ground.chain }], guard := none }) rfl (fun K hK => ?_) AllReadyH.nil
    go_simp
    refine Calls.mono (concat_calls w5.heap.size 3 _ _ _ _ _ _ _ ((H05.out.below (bel1 w5 _)).mono (bel1 w5 _).size) ((HF5.out.below (bel1 w5 _)).mono (bel1 w5 _).size) ((H15.out.below (bel1 w5 _)).mono (bel1 w5 _).size) (by simp) (cell_of_row _ _ 0 _ _ (0, 0) (heap_alloc_new w5 _)) (cell_of_row _ _ 1 _ _ (0, 0) (heap_alloc_new w5 _)) (cell_of_row _ _ 2 _ _ (0, 0) (heap_alloc_new w5 _)) (ret20 _ _) HL20.out (wok20 _ _ _)) ?_
    rintro e w6 ⟨v6, rfl, hO, hb⟩
    have HB6 : Hid (Below w.heap.size w w6) := bel2 (bel2 HB5.out (bel1 w5 _)) hb
    have HO6 : Hid (OwnR w6 w.heap.size v6 _) := hO.mono (bel2 HB5.out (bel1 w5 _)).size
    refine hK.out _ _ (lies_range (Lies.row (row_below hb (row_below (bel1 w5 _) HG5.out)))) (fun hHeld => ?_)
    clear hK K hb hO
    refine wpAnyH_take (i := 12) (oi := { dst := some 4, op := Go.Op.assign (Go.Operand.tmp 39), type := 38, pos := "due.go:30", after := #[{ on := 11, ground := Go.Ground.data }, { on := 11, ground := Go.Ground.chain }, { on := 0, ground := Go.Ground.phase }, { on := 1, ground := Go.Ground.phase }, { on := 2, ground := Go.Ground.phase }, { on := 3, ground := Go.Ground.phase }, { on := 4, ground := Go.Ground.phase }, { on := 5, ground := Go.Ground.phase }, { on := 6, ground := Go.Ground.phase }, { on := 7, ground := Go.Ground.phase }, { on := 8, ground := Go.Ground.phase }, { on := 9, ground := Go.Ground.phase }, { on := 10, ground := Go.Ground.phase }, { on := 11, ground := Go.Ground.phase }], guard := none }) (v := ?_) rfl (by kernel_rfl) (by kernel_rfl) (by kernel_rfl) (fun _ _ _ h => h) (Or.inl ⟨by rfl, ?_⟩) hHeld ?_
    rotate_left 1
    · (intro w hSw; (try dsimp only at hSw); go_simp <;> with_reducible rfl)
    simp only [Act.put, List.setIfInBounds_toArray, List.set_cons_zero, List.set_cons_succ]
    refine wpAnyH_done (by kernel_rfl) ?_ _
    go_wp2_with fail
    exact HY.out HS.out HD.out _ _ (by have h := HO6.out; rw [← HM.out] at h; exact h) HB6.out
  · have d2 : decide (s.dl ≤ t) = true := decide_eq_true hd2
    have HD : Hid (0 < s.dl ∧ s.dl ≤ t) := ⟨hd, hd2⟩
    clear hd hd2
    go_wp2_with fail
    exact HT.out HS.out HD.out _ _ (own_lit1 w2 _ HB2.out.size (evR 19 t 0 0 ⟨#[]⟩) rfl _ rfl _ rfl) (bel2 HB2.out (bel1 _ _))
end Go.Proofs.Ytmcbgfcpalfcjaa
