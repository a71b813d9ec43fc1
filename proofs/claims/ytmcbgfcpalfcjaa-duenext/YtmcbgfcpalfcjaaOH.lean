/- The contracts of nextTry, retriedAt, wokenAt, Time, Running. -/
import Derived.Test.YtmcbgfcpalfcjaaOG
import Derived.Test.YtmcbgfcpalfcjaaB
namespace Go.Proofs.Ytmcbgfcpalfcjaa
open Go.ChangeShapes Go.WideShapes Go.ChangeAt Go.RowKit
/-- A row of the call's own of so many events. -/
def OwnR (w : World) (base : Nat) (v : Value) (rows : List (List Value)) : Prop := w.ownsRow base 51 13 v rows.length rows.flatten
theorem OwnL.rows {α : Type} {w : World} {base : Nat} {f : α → List Value} {v : Value} {l : List α} (h : OwnL w base 51 13 f v l) : OwnR w base v (l.map f) := by
  unfold OwnR
  rw [List.length_map, ← List.flatMap_def]
  exact h
/-- One more than the attempt, but at most 2^31. -/
def nx (a : Int) : Int := wrap64 (min a 2147483647 + 1)
set_option maxHeartbeats 1000000 in
theorem next_calls (a : Int) (w : World) : Calls Try.prog 36 #[.int .i64 a] w fun e w' => e = .returned (.int .i64 (nx a)) ∧ w' = w := by
  unfold nx
  go_enter Try.func36, Try.ntmps36
  go_wp2_with fail
  go_ret
  exact ⟨rfl, rfl⟩
/-- What comes of a task that is late. -/
def retR (s : Sta) (t : Int) : List (List Value) := if s.ts = 2 ∧ s.td ≤ t then [evR 6 t 0 0 ⟨#[]⟩, evR 2 t (nx s.ta) (IntKind.i64.wrap (t + dlA s.pf s.pc s.pm s.ta)) ⟨#[]⟩] else []
def RtP (s : Sta) (t : Int) (w : World) (e : Ending) (w' : World) : Prop := (∃ v, e = .returned v ∧ OwnR w' w.heap.size v (retR s t)) ∧ Below w.heap.size w w'
theorem own_lit2 (w : World) (base : Nat) (h : base ≤ w.heap.size) (r1 r2 : List Value) (h1 : r1.length = 13) (h2 : r2.length = 13) (cs : Array Value) (hc : cs = (r1 ++ r2).toArray) : OwnR (w.alloc (.cells cs 51)) base (.slice (some ⟨w.heap.size, 0, none⟩) 2 2) [r1, r2] := by
  subst hc
  have := World.ownsRow_lit (base := base) (e := 51) (size := 13) w (r1 ++ r2).toArray 2 h (by unfold maxLen; omega) (by simp [h1, h2])
  simpa [OwnR] using this
theorem own_lit1 (w : World) (base : Nat) (h : base ≤ w.heap.size) (r1 : List Value) (h1 : r1.length = 13) (cs : Array Value) (hc : cs = r1.toArray) (g : Nat) (hg : w.heap.size = g) : OwnR (w.alloc (.cells cs 51)) base (.slice (some ⟨g, 0, none⟩) 1 1) [r1] := by
  subst hc
  subst hg
  have := World.ownsRow_lit (base := base) (e := 51) (size := 13) w r1.toArray 1 h (by unfold maxLen; omega) (by simp [h1])
  simpa [OwnR] using this
set_option maxHeartbeats 4000000 in
set_option maxRecDepth 100000 in
theorem retried_calls (n : Nat) (cs : Array Value) (s : Sta) (t : Int) (w : World) (h : Rs w n cs s) (hc : s.pc < 18446744073709551616) : Calls Try.prog 22 #[.agg cs, .int .i64 t] w (RtP s t w) := by
  have HN : Hid (¬ (s.ts = 2 ∧ s.td ≤ t) → ∀ w', Below w.heap.size w w' → RtP s t w (.returned (.slice none 0 0)) w') := fun hn w' hb => ⟨⟨_, rfl, by unfold retR; rw [if_neg hn]; exact World.ownsRow_nil _ _ _ _⟩, hb⟩
  have HY : Hid (s.ts = 2 ∧ s.td ≤ t → ∀ v w', OwnR w' w.heap.size v [evR 6 t 0 0 ⟨#[]⟩, evR 2 t (nx s.ta) (IntKind.i64.wrap (t + dlA s.pf s.pc s.pm s.ta)) ⟨#[]⟩] → Below w.heap.size w w' → RtP s t w (.returned v) w') := fun hy v w' ho hb => ⟨⟨_, rfl, by unfold retR; rw [if_pos hy]; exact ho⟩, hb⟩
  have KN := next_calls s.ta
  have KD := fun W => delay_calls s.pf s.pc s.pm s.ta hc W
  have c13 := h.c13
  have c14 := h.c14
  have c15 := h.c15
  have c16 := h.c16
  have c17 := h.c17
  have c18 := h.c18
  have HG : Hid ((w.alloc (.cells cs 33)).heap[w.heap.size]? = some (.cells cs 33 (0, 0))) := heap_alloc_new w _
  clear h hc
  generalize RtP s t w = Q at HN HY ⊢
  go_enter Try.func22, Try.ntmps22
  by_cases h2 : s.ts = 2
  case neg =>
    have d : (s.ts != 2) = true := by simpa using h2
    have HF : Hid (¬ (s.ts = 2 ∧ s.td ≤ t)) := fun h => h2 h.1
    clear h2
    go_wp2_with fail
    exact HN.out HF.out _ (bel1 _ _)
  have d : (s.ts != 2) = false := by simpa using h2
  by_cases h3 : s.td ≤ t
  case neg =>
    have d3 : decide (t < s.td) = true := decide_eq_true (by omega)
    have HF : Hid (¬ (s.ts = 2 ∧ s.td ≤ t)) := fun h => h3 h.2
    clear h2 h3
    go_wp2_with fail
    exact HN.out HF.out _ (bel1 _ _)
  · have d3 : decide (t < s.td) = false := decide_eq_false (by omega)
    have HF : Hid (s.ts = 2 ∧ s.td ≤ t) := ⟨h2, h3⟩
    clear h2 h3
    go_wp2_with fail
    refine wp_region_held_drew (S := (fun w' => ∀ j, w'.cell? ⟨w.heap.size, j, none⟩ = cs[j]?)) (by kernel_rfl) (fun j => cell_of_row _ _ j cs 33 (0, 0) HG.out) (fun hHeld => ?_)
    change wpAnyH _ _ _ _ _ _ _ _ (World.drew _)
    refine wpAnyH_take (i := 0) (oi := { dst := some 16, op := Go.Op.move (Go.Operand.tmp 1), type := 3, pos := "due.go:38", after := #[], guard := none }) (v := ?_) rfl (by kernel_rfl) (by kernel_rfl) (by kernel_rfl) (fun _ _ _ h => h) (Or.inl ⟨by rfl, ?_⟩) hHeld ?_
    rotate_left 1
    · (intro w hSw; (try dsimp only at hSw); go_simp <;> with_reducible rfl)
    simp only [Act.put, List.setIfInBounds_toArray, List.set_cons_zero, List.set_cons_succ]
    refine wpAnyH_take (i := 1) (oi := { dst := some 17, op := Go.Op.build 51 #[(0, Go.Operand.const (Go.Value.int Go.IntKind.i64 6)), (1, Go.Operand.tmp 16)], type := 51, pos := "due.go:38", after := #[{ on := 0, ground := Go.Ground.data }], guard := none }) (v := ?_) rfl (by kernel_rfl) (by kernel_rfl) (by kernel_rfl) (fun _ _ _ h => h) (Or.inl ⟨by rfl, ?_⟩) hHeld ?_
    rotate_left 1
    · (intro w hSw; (try dsimp only at hSw); go_simp <;> with_reducible rfl)
    simp only [Act.put, List.setIfInBounds_toArray, List.set_cons_zero, List.set_cons_succ]
    refine wpAnyH_take (i := 2) (oi := { dst := some 18, op := Go.Op.move (Go.Operand.tmp 1), type := 3, pos := "due.go:38", after := #[], guard := none }) (v := ?_) rfl (by kernel_rfl) (by kernel_rfl) (by kernel_rfl) (fun _ _ _ h => h) (Or.inl ⟨by rfl, ?_⟩) hHeld ?_
    rotate_left 1
    · (intro w hSw; (try dsimp only at hSw); go_simp <;> with_reducible rfl)
    simp only [Act.put, List.setIfInBounds_toArray, List.set_cons_zero, List.set_cons_succ]
    refine wpAnyH_take (i := 3) (oi := { dst := some 19, op := Go.Op.fieldAddr 33 (Go.Operand.tmp 2) 10, type := 0, pos := "due.go:38", after := #[], guard := none }) (v := ?_) rfl (by kernel_rfl) (by kernel_rfl) (by kernel_rfl) (fun _ _ _ h => h) (Or.inl ⟨by rfl, ?_⟩) hHeld ?_
    rotate_left 1
    · (intro w hSw; (try dsimp only at hSw); go_simp <;> with_reducible rfl)
    simp only [Act.put, List.setIfInBounds_toArray, List.set_cons_zero, List.set_cons_succ]
    refine wpAnyH_take (i := 4) (oi := { dst := some 20, op := Go.Op.fieldAddr 29 (Go.Operand.tmp 19) 1, type := 0, pos := "due.go:38", after := #[{ on := 3, ground := Go.Ground.data }], guard := none }) (v := ?_) rfl (by kernel_rfl) (by kernel_rfl) (by kernel_rfl) (fun _ _ _ h => h) (Or.inl ⟨by rfl, ?_⟩) hHeld ?_
    rotate_left 1
    · (intro w hSw; (try dsimp only at hSw); go_simp <;> with_reducible rfl)
    simp only [Act.put, List.setIfInBounds_toArray, List.set_cons_zero, List.set_cons_succ]
    refine wpAnyH_take (i := 5) (oi := { dst := some 21, op := Go.Op.load 3 (Go.Operand.tmp 20), type := 3, pos := "due.go:38", after := #[{ on := 4, ground := Go.Ground.data }], guard := none }) (v := ?_) rfl (by kernel_rfl) (by kernel_rfl) (by kernel_rfl) (fun _ _ _ h => h) (Or.inl ⟨by rfl, ?_⟩) hHeld ?_
    rotate_left 1
    · (intro w hSw; (try dsimp only at hSw); go_simp <;> with_reducible rfl)
    simp only [Act.put, List.setIfInBounds_toArray, List.set_cons_zero, List.set_cons_succ]
    refine wpAnyH_take (i := 7) (oi := { dst := some 23, op := Go.Op.move (Go.Operand.tmp 1), type := 3, pos := "due.go:38", after := #[], guard := none }) (v := ?_) rfl (by kernel_rfl) (by kernel_rfl) (by kernel_rfl) (fun _ _ _ h => h) (Or.inl ⟨by rfl, ?_⟩) hHeld ?_
    rotate_left 1
    · (intro w hSw; (try dsimp only at hSw); go_simp <;> with_reducible rfl)
    simp only [Act.put, List.setIfInBounds_toArray, List.set_cons_zero, List.set_cons_succ]
    refine wpAnyH_take (i := 8) (oi := { dst := some 24, op := Go.Op.fieldAddr 33 (Go.Operand.tmp 2) 9, type := 0, pos := "due.go:38", after := #[], guard := none }) (v := ?_) rfl (by kernel_rfl) (by kernel_rfl) (by kernel_rfl) (fun _ _ _ h => h) (Or.inl ⟨by rfl, ?_⟩) hHeld ?_
    rotate_left 1
    · (intro w hSw; (try dsimp only at hSw); go_simp <;> with_reducible rfl)
    simp only [Act.put, List.setIfInBounds_toArray, List.set_cons_zero, List.set_cons_succ]
    refine wpAnyH_take (i := 9) (oi := { dst := some 25, op := Go.Op.load 27 (Go.Operand.tmp 24), type := 27, pos := "due.go:38", after := #[{ on := 8, ground := Go.Ground.data }], guard := none }) (v := ?_) rfl (by kernel_rfl) (by kernel_rfl) (by kernel_rfl) (fun _ _ _ h => h) (Or.inl ⟨by rfl, ?_⟩) hHeld ?_
    rotate_left 1
    · (intro w hSw; (try dsimp only at hSw); go_simp <;> with_reducible rfl)
    simp only [Act.put, List.setIfInBounds_toArray, List.set_cons_zero, List.set_cons_succ]
    refine wpAnyH_take (i := 10) (oi := { dst := some 26, op := Go.Op.fieldAddr 33 (Go.Operand.tmp 2) 10, type := 0, pos := "due.go:38", after := #[], guard := none }) (v := ?_) rfl (by kernel_rfl) (by kernel_rfl) (by kernel_rfl) (fun _ _ _ h => h) (Or.inl ⟨by rfl, ?_⟩) hHeld ?_
    rotate_left 1
    · (intro w hSw; (try dsimp only at hSw); go_simp <;> with_reducible rfl)
    simp only [Act.put, List.setIfInBounds_toArray, List.set_cons_zero, List.set_cons_succ]
    refine wpAnyH_take (i := 11) (oi := { dst := some 27, op := Go.Op.fieldAddr 29 (Go.Operand.tmp 26) 1, type := 0, pos := "due.go:38", after := #[{ on := 10, ground := Go.Ground.data }], guard := none }) (v := ?_) rfl (by kernel_rfl) (by kernel_rfl) (by kernel_rfl) (fun _ _ _ h => h) (Or.inl ⟨by rfl, ?_⟩) hHeld ?_
    rotate_left 1
    · (intro w hSw; (try dsimp only at hSw); go_simp <;> with_reducible rfl)
    simp only [Act.put, List.setIfInBounds_toArray, List.set_cons_zero, List.set_cons_succ]
    refine wpAnyH_take (i := 12) (oi := { dst := some 28, op := Go.Op.load 3 (Go.Operand.tmp 27), type := 3, pos := "due.go:38", after := #[{ on := 11, ground := Go.Ground.data }], guard := none }) (v := ?_) rfl (by kernel_rfl) (by kernel_rfl) (by kernel_rfl) (fun _ _ _ h => h) (Or.inl ⟨by rfl, ?_⟩) hHeld ?_
    rotate_left 1
    · (intro w hSw; (try dsimp only at hSw); go_simp <;> with_reducible rfl)
    simp only [Act.put, List.setIfInBounds_toArray, List.set_cons_zero, List.set_cons_succ]
    refine wpAnyH_ready (rs := [6]) (by kernel_rfl) (by simp) ?_
    refine AllReadyH.cons (o := { dst := some 22, op := Go.Op.call { callee := Go.Callee.value (Go.Operand.func 36), args := #[Go.Operand.tmp 21], argTypes := #[3] }, type := 3, pos := "due.go:40", after := #[{ on := 5, ground := Go.Ground.data }], guard := none }) rfl (fun K hK => ?_) AllReadyH.nil
    go_simp
    refine (KN _).mono ?_
    rintro e w2 ⟨rfl, rfl⟩
    refine hK.out _ _ hHeld (fun hHeld => ?_)
    clear hK K
    refine wpAnyH_ready (rs := [13]) (by kernel_rfl) (by simp) ?_
    refine AllReadyH.cons (o := { dst := some 29, op := Go.Op.call { callee := Go.Callee.value (Go.Operand.func 37), args := #[Go.Operand.tmp 25, Go.Operand.tmp 28], argTypes := #[27, 3] }, type := 3, pos := "due.go:40", after := #[{ on := 9, ground := Go.Ground.data }, { on := 12, ground := Go.Ground.data }, { on := 6, ground := Go.Ground.chain }], guard := none }) rfl (fun K hK => ?_) AllReadyH.nil
    go_simp
    refine (KD _).mono ?_
    rintro e w2 ⟨rfl, hb⟩
    have HG2 : Hid (w2.heap[w.heap.size]? = some (.cells cs 33 (0, 0))) := row_below hb HG.out
    have HB2 : Hid (Below w.heap.size w w2) := bel2 (bel1 w _).drew hb
    refine hK.out _ _ (fun j => cell_of_row w2 _ j cs 33 (0, 0) HG2.out) (fun hHeld => ?_)
    clear hK K hb
    refine wpAnyH_take (i := 14) (oi := { dst := some 30, op := Go.Op.binOp Go.BinOp.add 3 (Go.Operand.tmp 23) (Go.Operand.tmp 29) 3, type := 3, pos := "due.go:38", after := #[{ on := 7, ground := Go.Ground.data }, { on := 13, ground := Go.Ground.data }], guard := none }) (v := ?_) rfl (by kernel_rfl) (by kernel_rfl) (by kernel_rfl) (fun _ _ _ h => h) (Or.inl ⟨by rfl, ?_⟩) hHeld ?_
    rotate_left 1
    · (intro w hSw; (try dsimp only at hSw); go_simp <;> with_reducible rfl)
    simp only [Act.put, List.setIfInBounds_toArray, List.set_cons_zero, List.set_cons_succ]
    refine wpAnyH_take (i := 15) (oi := { dst := some 31, op := Go.Op.build 51 #[(0, Go.Operand.const (Go.Value.int Go.IntKind.i64 2)), (1, Go.Operand.tmp 18), (2, Go.Operand.tmp 22), (3, Go.Operand.tmp 30)], type := 51, pos := "due.go:38", after := #[{ on := 2, ground := Go.Ground.data }, { on := 6, ground := Go.Ground.data }, { on := 14, ground := Go.Ground.data }], guard := none }) (v := ?_) rfl (by kernel_rfl) (by kernel_rfl) (by kernel_rfl) (fun _ _ _ h => h) (Or.inl ⟨by rfl, ?_⟩) hHeld ?_
    rotate_left 1
    · (intro w hSw; (try dsimp only at hSw); go_simp <;> with_reducible rfl)
    simp only [Act.put, List.setIfInBounds_toArray, List.set_cons_zero, List.set_cons_succ]
    refine wpAnyH_ready (rs := [16]) (by kernel_rfl) (by simp) ?_
    refine AllReadyH.cons (o := { dst := some 32, op := Go.Op.buildSlice 38 2 #[(0, Go.Operand.tmp 17), (1, Go.Operand.tmp 31)], type := 38, pos := "due.go:38", after := #[{ on := 1, ground := Go.Ground.data }, { on := 15, ground := Go.Ground.data }], guard := none }) rfl (fun K hK => ?_) AllReadyH.nil
    go_simp
    refine hK.out _ _ (fun j => cell_of_row _ _ j cs 33 (0, 0) (row_below (bel1 w2 _) HG2.out)) (fun hHeld => ?_)
    clear hK K
    refine wpAnyH_take (i := 17) (oi := { dst := some 4, op := Go.Op.assign (Go.Operand.tmp 32), type := 38, pos := "due.go:38", after := #[{ on := 16, ground := Go.Ground.data }, { on := 13, ground := Go.Ground.chain }, { on := 0, ground := Go.Ground.phase }, { on := 1, ground := Go.Ground.phase }, { on := 2, ground := Go.Ground.phase }, { on := 3, ground := Go.Ground.phase }, { on := 4, ground := Go.Ground.phase }, { on := 5, ground := Go.Ground.phase }, { on := 6, ground := Go.Ground.phase }, { on := 7, ground := Go.Ground.phase }, { on := 8, ground := Go.Ground.phase }, { on := 9, ground := Go.Ground.phase }, { on := 10, ground := Go.Ground.phase }, { on := 11, ground := Go.Ground.phase }, { on := 12, ground := Go.Ground.phase }, { on := 13, ground := Go.Ground.phase }, { on := 14, ground := Go.Ground.phase }, { on := 15, ground := Go.Ground.phase }, { on := 16, ground := Go.Ground.phase }], guard := none }) (v := ?_) rfl (by kernel_rfl) (by kernel_rfl) (by kernel_rfl) (fun _ _ _ h => h) (Or.inl ⟨by rfl, ?_⟩) hHeld ?_
    rotate_left 1
    · (intro w hSw; (try dsimp only at hSw); go_simp <;> with_reducible rfl)
    simp only [Act.put, List.setIfInBounds_toArray, List.set_cons_zero, List.set_cons_succ]
    refine wpAnyH_done (by kernel_rfl) ?_ _
    go_wp2_with fail
    exact HY.out HF.out _ _ (own_lit2 w2 _ HB2.out.size _ _ rfl rfl _ rfl) (bel2 HB2.out (bel1 w2 _))
/-- What a worker has yet to see. -/
def wokR (s : Sta) (t : Int) (f : Bool) : List (List Value) := if s.ts = 0 ∧ (s.fresh = true ∨ f = true) then [evR 2 t 1 t ⟨#[]⟩] else []
def WkP (s : Sta) (t : Int) (f : Bool) (w : World) (e : Ending) (w' : World) : Prop := (∃ v, e = .returned v ∧ OwnR w' w.heap.size v (wokR s t f)) ∧ Below w.heap.size w w'
set_option maxHeartbeats 4000000 in
theorem woken_calls (n : Nat) (cs : Array Value) (s : Sta) (t : Int) (f : Bool) (w : World) (h : Rs w n cs s) : Calls Try.prog 23 #[.agg cs, .int .i64 t, .bool f] w (WkP s t f w) := by
  have HN : Hid (¬ (s.ts = 0 ∧ (s.fresh = true ∨ f = true)) → ∀ w', Below w.heap.size w w' → WkP s t f w (.returned (.slice none 0 0)) w') := fun hn w' hb => ⟨⟨_, rfl, by unfold wokR; rw [if_neg hn]; exact World.ownsRow_nil _ _ _ _⟩, hb⟩
  have HY : Hid (s.ts = 0 ∧ (s.fresh = true ∨ f = true) → ∀ v w', OwnR w' w.heap.size v [evR 2 t 1 t ⟨#[]⟩] → Below w.heap.size w w' → WkP s t f w (.returned v) w') := fun hy v w' ho hb => ⟨⟨_, rfl, by unfold wokR; rw [if_pos hy]; exact ho⟩, hb⟩
  have c16 := h.c16
  have c21 := h.c21
  clear h
  generalize WkP s t f w = Q at HN HY ⊢
  go_enter Try.func23, Try.ntmps23
  by_cases h2 : s.ts = 0
  case neg =>
    have d : (s.ts != 0) = true := by simpa using h2
    have HF : Hid (¬ (s.ts = 0 ∧ (s.fresh = true ∨ f = true))) := fun h => h2 h.1
    clear h2
    go_wp2_with fail
    exact HN.out HF.out _ (bel1 _ _)
  have d : (s.ts != 0) = false := by simpa using h2
  have HT0 : Hid (s.ts = 0) := h2
  clear h2
  cases hfr : s.fresh with
  | true =>
    have HF : Hid (s.ts = 0 ∧ (s.fresh = true ∨ f = true)) := ⟨HT0.out, .inl hfr⟩
    rw [hfr] at c21
    clear hfr
    go_wp2_with fail
    exact HY.out HF.out _ _ (own_lit1 (w.alloc (.cells cs 33)) _ (bel1 w _).size (evR 2 t 1 t ⟨#[]⟩) rfl _ rfl _ (by simp)) (bel2 (bel1 w _) (bel1 _ _))
  | false =>
    cases f with
    | true =>
      have HF : Hid (s.ts = 0 ∧ (s.fresh = true ∨ true = true)) := ⟨HT0.out, .inr rfl⟩
      rw [hfr] at c21
      clear hfr
      go_wp2_with fail
      exact HY.out HF.out _ _ (own_lit1 (w.alloc (.cells cs 33)) _ (bel1 w _).size (evR 2 t 1 t ⟨#[]⟩) rfl _ rfl _ (by simp)) (bel2 (bel1 w _) (bel1 _ _))
    | false =>
      have HF : Hid (¬ (s.ts = 0 ∧ (s.fresh = true ∨ false = true))) := fun h => by rcases h.2 with h | h; rw [hfr] at h; cases h; cases h
      rw [hfr] at c21
      clear hfr
      go_wp2_with fail
      exact HN.out HF.out _ (bel1 _ _)
/-- The time that an event would have. -/
def tmD (s : Sta) (now : Int) : Int := max (min now 1099511627776) s.time
theorem time_calls (cs : Array Value) (s : Sta) (now : Int) (w : World) (n : Nat) (h : Rs w n cs s) : Calls Try.prog 8 #[.agg cs, .int .i64 now] w fun e w' => e = .returned (.int .i64 (tmD s now)) ∧ Below w.heap.size w w' := by
  have c3 := h.c3
  have HE : Hid (∀ z, z = tmD s now → Ending.returned (.int .i64 z) = .returned (.int .i64 (tmD s now))) := fun z hz => by rw [hz]
  have HD : Hid (tmD s now = max (min now 1099511627776) s.time) := rfl
  generalize tmD s now = Z at HE HD ⊢
  clear h
  go_enter Try.func8, Try.ntmps8
  go_wp2_with fail
  go_ret
  exact ⟨HE.out _ (by rw [HD.out]), bel1 _ _⟩
set_option maxHeartbeats 1000000 in
theorem running_calls (cs : Array Value) (z : Int) (w : World) (h : cs[1]? = some (.int .i64 z)) : Calls Try.prog 18 #[.agg cs] w fun e w' => e = .returned (.bool (z == 1)) ∧ Below w.heap.size w w' := by
  go_enter Try.func18, Try.ntmps18
  go_wp2_with fail
  go_ret
  exact ⟨rfl, bel1 _ _⟩
end Go.Proofs.Ytmcbgfcpalfcjaa
