/- The contracts of cmp.Compare, of cmp.Or of two numbers, and of the closure by which timers are sorted. -/
import Derived.Test.YtmcbgfcpalfcjaaOA
import Derived.Test.YtmcbgfcpalfcjaaFOrd
namespace Go.Proofs.Ytmcbgfcpalfcjaa
open Go.ChangeShapes Go.WideShapes Go.ChangeAt Go.RowKit
theorem compare_calls (a b : Int) (w : World) : Calls Try.prog 33 #[.int .i64 a, .int .i64 b] w fun e w' => e = .returned (.int .i64 (cmp3 a b)) ∧ w' = w := by
  obtain ⟨r, hr⟩ : ∃ r, r = cmp3 a b := ⟨_, rfl⟩
  rw [← hr]
  have HR : Hid (r = cmp3 a b) := hr
  clear hr
  rcases Int.lt_trichotomy a b with h | h | h
  · have d1 : decide (a < b) = true := decide_eq_true h
    have HE : Hid (r = -1) := by show _ = _; rw [HR.out]; unfold cmp3; rw [if_neg (by omega), if_pos h]
    clear h HR
    go_enter Try.func33, Try.ntmps33
    go_wp2
    go_ret
    exact ⟨by rw [HE.out]; rfl, rfl⟩
  · subst h
    have HE : Hid (r = 0) := by show _ = _; rw [HR.out]; unfold cmp3; rw [if_pos rfl]
    have d1 : decide (a < a) = false := decide_eq_false (by omega)
    clear HR
    go_enter Try.func33, Try.ntmps33
    go_wp2
    go_ret
    exact ⟨by rw [HE.out]; rfl, rfl⟩
  · have d1 : decide (a < b) = false := decide_eq_false (by omega)
    have d2 : decide (b < a) = true := decide_eq_true h
    have HE : Hid (r = 1) := by show _ = _; rw [HR.out]; unfold cmp3; rw [if_neg (by omega), if_neg (by omega)]
    clear h HR
    go_enter Try.func33, Try.ntmps33
    go_wp2
    go_ret
    exact ⟨by rw [HE.out]; rfl, rfl⟩
/-- How two texts stand. -/
def cmpS (s t : ByteArray) : Int := if Op.bytesLess s.toList t.toList then -1 else if (!Op.bytesLess s.toList t.toList && !(s.toList == t.toList)) then 1 else 0
theorem compareS_calls (a b : ByteArray) (w : World) : Calls Try.prog 34 #[.string a, .string b] w fun e w' => e = .returned (.int .i64 (cmpS a b)) ∧ w' = w := by
  obtain ⟨r, hr⟩ : ∃ r, r = cmpS a b := ⟨_, rfl⟩
  rw [← hr]
  have HR : Hid (r = cmpS a b) := hr
  clear hr
  cases h1 : Op.bytesLess a.toList b.toList with
  | true =>
    have HE : Hid (r = -1) := by show _ = _; rw [HR.out]; unfold cmpS; simp [h1]
    clear HR
    go_enter Try.func34, Try.ntmps34
    go_wp2
    go_ret
    exact ⟨by rw [HE.out]; rfl, rfl⟩
  | false =>
    cases h2 : (a.toList == b.toList) with
    | true =>
      have HE : Hid (r = 0) := by show _ = _; rw [HR.out]; unfold cmpS; simp [h1, h2]
      clear HR
      go_enter Try.func34, Try.ntmps34
      go_wp2
      go_ret
      exact ⟨by rw [HE.out]; rfl, rfl⟩
    | false =>
      have HE : Hid (r = 1) := by show _ = _; rw [HR.out]; unfold cmpS; simp [h1, h2]
      clear HR
      go_enter Try.func34, Try.ntmps34
      go_wp2
      go_ret
      exact ⟨by rw [HE.out]; rfl, rfl⟩
/-- The first that is not 0. -/
def or2 (a b : Int) : Int := if a != 0 then a else b
theorem or_calls (r0 r1 : Int) (w : World) (g : Nat) (h0 : w.cell? ⟨g, 0, none⟩ = some (.int .i64 r0)) (h1 : w.cell? ⟨g, 1, none⟩ = some (.int .i64 r1)) :
    Calls Try.prog 32 #[.slice (some ⟨g, 0, none⟩) 2 2] w fun e w' => e = .returned (.int .i64 (or2 r0 r1)) ∧ w' = w := by
  obtain ⟨r, hr⟩ : ∃ r, r = or2 r0 r1 := ⟨_, rfl⟩
  rw [← hr]
  have HR : Hid (r = or2 r0 r1) := hr
  clear hr
  go_enter Try.func32, Try.ntmps32
  go_wp2
  go_loop [8] (fun i => (i = .int .i64 0) ∨ (i = .int .i64 1 ∧ Hid (r0 = 0)) ∨ (i = .int .i64 2 ∧ Hid (r0 = 0 ∧ r1 = 0))) (fun i => (2 - intOf i).toNat)
  case atStart => exact .inl rfl
  case round =>
    rcases hrel with rfl | ⟨rfl, HE⟩ | ⟨rfl, HE⟩
    · by_cases h : r0 = 0
      · have hd : (r0 != 0) = false := by simpa using h
        have HZ : Hid (r0 = 0) := h
        clear h
        go_wp2
        exact ⟨.inr (.inl ⟨rfl, HZ⟩), by decide⟩
      · have hd : (r0 != 0) = true := by simpa using h
        have HE2 : Hid (r = r0) := by show _ = _; rw [HR.out]; unfold or2; rw [if_pos hd]
        clear h
        go_wp2
        go_ret
        exact ⟨by rw [HE2.out]; rfl, rfl⟩
    · by_cases h : r1 = 0
      · have hd : (r1 != 0) = false := by simpa using h
        have HZ : Hid (r1 = 0) := h
        clear h
        go_wp2
        exact ⟨.inr (.inr ⟨rfl, ⟨HE.out, HZ.out⟩⟩), by decide⟩
      · have hd : (r1 != 0) = true := by simpa using h
        have HE2 : Hid (r = r1) := by show _ = _; rw [HR.out]; unfold or2; rw [if_neg (by simp [HE.out])]
        clear h
        go_wp2
        go_ret
        exact ⟨by rw [HE2.out]; rfl, rfl⟩
    · have HE2 : Hid (r = 0) := by show _ = _; rw [HR.out]; unfold or2; rw [if_neg (by simp [HE.out.1]), HE.out.2]
      go_wp2
      go_ret
      exact ⟨by rw [HE2.out]; rfl, rfl⟩
/-- How two timers stand: by Due, then by Name. -/
def tcmp (x y : Tm) : Int := or2 (cmp3 x.d y.d) (cmpS x.s y.s)
set_option maxHeartbeats 2000000 in
theorem closure_calls (x y : Tm) (w : World) : Calls Try.prog 31 #[.agg #[.string x.s, .int .i64 x.d], .agg #[.string y.s, .int .i64 y.d]] w fun e w' => e = .returned (.int .i64 (tcmp x y)) ∧ Below w.heap.size w w' := by
  have HQ : Hid (∀ w', Below w.heap.size w w' → (Ending.returned (.int .i64 (or2 (cmp3 x.d y.d) (cmpS x.s y.s))) = .returned (.int .i64 (tcmp x y)) ∧ Below w.heap.size w w')) := fun w' h => ⟨rfl, h⟩
  generalize tcmp x y = Z at HQ ⊢
  go_enter Try.func31, Try.ntmps31
  go_wp2_with fail
  have x0 : ((w.alloc (.cells #[.string x.s, .int .i64 x.d] 49)).alloc (.cells #[.string y.s, .int .i64 y.d] 49)).cell? ⟨w.heap.size, 0, none⟩ = some (.string x.s) := by go_simp
  have x1 : ((w.alloc (.cells #[.string x.s, .int .i64 x.d] 49)).alloc (.cells #[.string y.s, .int .i64 y.d] 49)).cell? ⟨w.heap.size, 1, none⟩ = some (.int .i64 x.d) := by go_simp
  have y0 : ((w.alloc (.cells #[.string x.s, .int .i64 x.d] 49)).alloc (.cells #[.string y.s, .int .i64 y.d] 49)).cell? ⟨w.heap.size + 1, 0, none⟩ = some (.string y.s) := by go_simp
  have y1 : ((w.alloc (.cells #[.string x.s, .int .i64 x.d] 49)).alloc (.cells #[.string y.s, .int .i64 y.d] 49)).cell? ⟨w.heap.size + 1, 1, none⟩ = some (.int .i64 y.d) := by go_simp
  have HB : Hid (Below w.heap.size w ((w.alloc (.cells #[.string x.s, .int .i64 x.d] 49)).alloc (.cells #[.string y.s, .int .i64 y.d] 49))) := bel2 (bel1 _ _) (bel1 _ _)
  generalize (w.alloc (.cells #[.string x.s, .int .i64 x.d] 49)).alloc (.cells #[.string y.s, .int .i64 y.d] 49) = W0 at x0 x1 y0 y1 HB ⊢
  refine wp_region_held_drew (S := (fun w' => w'.cell? ⟨w.heap.size, 0, none⟩ = some (.string x.s) ∧ w'.cell? ⟨w.heap.size, 1, none⟩ = some (.int .i64 x.d) ∧ w'.cell? ⟨w.heap.size + 1, 0, none⟩ = some (.string y.s) ∧ w'.cell? ⟨w.heap.size + 1, 1, none⟩ = some (.int .i64 y.d))) (by kernel_rfl) ⟨x0, x1, y0, y1⟩ (fun hHeld => ?_)
  change wpAnyH _ _ _ _ _ _ _ _ (World.drew _)
  refine wpAnyH_take (i := 0) (oi := { dst := some 5, op := Go.Op.fieldAddr 49 (Go.Operand.tmp 2) 1, type := 0, pos := "due.go:58", after := #[], guard := none }) (v := ?_) rfl (by kernel_rfl) (by kernel_rfl) (by kernel_rfl) (fun _ _ _ h => h) (Or.inl ⟨by rfl, ?_⟩) hHeld ?_
  rotate_left 1
  · (intro w hSw; (try dsimp only at hSw); go_simp <;> with_reducible rfl)
  simp only [Act.put, List.setIfInBounds_toArray, List.set_cons_zero, List.set_cons_succ]
  refine wpAnyH_take (i := 1) (oi := { dst := some 6, op := Go.Op.load 3 (Go.Operand.tmp 5), type := 3, pos := "due.go:58", after := #[{ on := 0, ground := Go.Ground.data }], guard := none }) (v := ?_) rfl (by kernel_rfl) (by kernel_rfl) (by kernel_rfl) (fun _ _ _ h => h) (Or.inl ⟨by rfl, ?_⟩) hHeld ?_
  rotate_left 1
  · (intro w hSw; (try dsimp only at hSw); go_simp <;> with_reducible rfl)
  simp only [Act.put, List.setIfInBounds_toArray, List.set_cons_zero, List.set_cons_succ]
  refine wpAnyH_take (i := 2) (oi := { dst := some 7, op := Go.Op.fieldAddr 49 (Go.Operand.tmp 3) 1, type := 0, pos := "due.go:58", after := #[], guard := none }) (v := ?_) rfl (by kernel_rfl) (by kernel_rfl) (by kernel_rfl) (fun _ _ _ h => h) (Or.inl ⟨by rfl, ?_⟩) hHeld ?_
  rotate_left 1
  · (intro w hSw; (try dsimp only at hSw); go_simp <;> with_reducible rfl)
  simp only [Act.put, List.setIfInBounds_toArray, List.set_cons_zero, List.set_cons_succ]
  refine wpAnyH_take (i := 3) (oi := { dst := some 8, op := Go.Op.load 3 (Go.Operand.tmp 7), type := 3, pos := "due.go:58", after := #[{ on := 2, ground := Go.Ground.data }], guard := none }) (v := ?_) rfl (by kernel_rfl) (by kernel_rfl) (by kernel_rfl) (fun _ _ _ h => h) (Or.inl ⟨by rfl, ?_⟩) hHeld ?_
  rotate_left 1
  · (intro w hSw; (try dsimp only at hSw); go_simp <;> with_reducible rfl)
  simp only [Act.put, List.setIfInBounds_toArray, List.set_cons_zero, List.set_cons_succ]
  refine wpAnyH_take (i := 5) (oi := { dst := some 10, op := Go.Op.fieldAddr 49 (Go.Operand.tmp 2) 0, type := 0, pos := "due.go:58", after := #[], guard := none }) (v := ?_) rfl (by kernel_rfl) (by kernel_rfl) (by kernel_rfl) (fun _ _ _ h => h) (Or.inl ⟨by rfl, ?_⟩) hHeld ?_
  rotate_left 1
  · (intro w hSw; (try dsimp only at hSw); go_simp <;> with_reducible rfl)
  simp only [Act.put, List.setIfInBounds_toArray, List.set_cons_zero, List.set_cons_succ]
  refine wpAnyH_take (i := 6) (oi := { dst := some 11, op := Go.Op.load 9 (Go.Operand.tmp 10), type := 9, pos := "due.go:58", after := #[{ on := 5, ground := Go.Ground.data }], guard := none }) (v := ?_) rfl (by kernel_rfl) (by kernel_rfl) (by kernel_rfl) (fun _ _ _ h => h) (Or.inl ⟨by rfl, ?_⟩) hHeld ?_
  rotate_left 1
  · (intro w hSw; (try dsimp only at hSw); go_simp <;> with_reducible rfl)
  simp only [Act.put, List.setIfInBounds_toArray, List.set_cons_zero, List.set_cons_succ]
  refine wpAnyH_take (i := 7) (oi := { dst := some 12, op := Go.Op.fieldAddr 49 (Go.Operand.tmp 3) 0, type := 0, pos := "due.go:58", after := #[], guard := none }) (v := ?_) rfl (by kernel_rfl) (by kernel_rfl) (by kernel_rfl) (fun _ _ _ h => h) (Or.inl ⟨by rfl, ?_⟩) hHeld ?_
  rotate_left 1
  · (intro w hSw; (try dsimp only at hSw); go_simp <;> with_reducible rfl)
  simp only [Act.put, List.setIfInBounds_toArray, List.set_cons_zero, List.set_cons_succ]
  refine wpAnyH_take (i := 8) (oi := { dst := some 13, op := Go.Op.load 9 (Go.Operand.tmp 12), type := 9, pos := "due.go:58", after := #[{ on := 7, ground := Go.Ground.data }], guard := none }) (v := ?_) rfl (by kernel_rfl) (by kernel_rfl) (by kernel_rfl) (fun _ _ _ h => h) (Or.inl ⟨by rfl, ?_⟩) hHeld ?_
  rotate_left 1
  · (intro w hSw; (try dsimp only at hSw); go_simp <;> with_reducible rfl)
  simp only [Act.put, List.setIfInBounds_toArray, List.set_cons_zero, List.set_cons_succ]
  refine wpAnyH_ready (rs := [4]) (by kernel_rfl) (by simp) ?_
  refine AllReadyH.cons (o := { dst := some 9, op := Go.Op.call { callee := Go.Callee.value (Go.Operand.func 33), args := #[Go.Operand.tmp 6, Go.Operand.tmp 8], argTypes := #[3, 3] }, type := 3, pos := "due.go:58", after := #[{ on := 1, ground := Go.Ground.data }, { on := 3, ground := Go.Ground.data }], guard := none }) rfl (fun K hK => ?_) AllReadyH.nil
  go_simp
  refine (compare_calls _ _ _).mono ?_
  rintro e w2 ⟨rfl, rfl⟩
  refine hK.out _ _ hHeld (fun hHeld => ?_)
  clear hK K
  refine wpAnyH_ready (rs := [9]) (by kernel_rfl) (by simp) ?_
  refine AllReadyH.cons (o := { dst := some 14, op := Go.Op.call { callee := Go.Callee.value (Go.Operand.func 34), args := #[Go.Operand.tmp 11, Go.Operand.tmp 13], argTypes := #[9, 9] }, type := 3, pos := "due.go:58", after := #[{ on := 6, ground := Go.Ground.data }, { on := 8, ground := Go.Ground.data }, { on := 4, ground := Go.Ground.chain }], guard := none }) rfl (fun K hK => ?_) AllReadyH.nil
  go_simp
  refine (compareS_calls _ _ _).mono ?_
  rintro e w2 ⟨rfl, rfl⟩
  refine hK.out _ _ hHeld (fun hHeld => ?_)
  clear hK K
  refine wpAnyH_ready (rs := [10]) (by kernel_rfl) (by simp) ?_
  refine AllReadyH.cons (o := { dst := some 15, op := Go.Op.buildSlice 52 2 #[(0, Go.Operand.tmp 9), (1, Go.Operand.tmp 14)], type := 52, pos := "due.go:58", after := #[{ on := 4, ground := Go.Ground.data }, { on := 9, ground := Go.Ground.data }], guard := none }) rfl (fun K hK => ?_) AllReadyH.nil
  go_simp
  refine hK.out _ _ ⟨cellW (w := W0) x0 (bel1 W0 _).drew, cellW (w := W0) x1 (bel1 W0 _).drew, cellW (w := W0) y0 (bel1 W0 _).drew, cellW (w := W0) y1 (bel1 W0 _).drew⟩ (fun hHeld => ?_)
  clear hK K
  refine wpAnyH_ready (rs := [11]) (by kernel_rfl) (by simp) ?_
  refine AllReadyH.cons (o := { dst := some 16, op := Go.Op.call { callee := Go.Callee.value (Go.Operand.func 32), args := #[Go.Operand.tmp 15], argTypes := #[52] }, type := 3, pos := "due.go:58", after := #[{ on := 10, ground := Go.Ground.data }, { on := 9, ground := Go.Ground.chain }], guard := none }) rfl (fun K hK => ?_) AllReadyH.nil
  go_simp
  refine (or_calls (cmp3 x.d y.d) (cmpS x.s y.s) _ W0.heap.size (by simp) (by simp)).mono ?_
  rintro e w2 ⟨rfl, rfl⟩
  refine hK.out _ _ hHeld (fun hHeld => ?_)
  clear hK K
  refine wpAnyH_take (i := 12) (oi := { dst := some 4, op := Go.Op.assign (Go.Operand.tmp 16), type := 3, pos := "due.go:58", after := #[{ on := 11, ground := Go.Ground.data }, { on := 11, ground := Go.Ground.chain }, { on := 0, ground := Go.Ground.phase }, { on := 1, ground := Go.Ground.phase }, { on := 2, ground := Go.Ground.phase }, { on := 3, ground := Go.Ground.phase }, { on := 4, ground := Go.Ground.phase }, { on := 5, ground := Go.Ground.phase }, { on := 6, ground := Go.Ground.phase }, { on := 7, ground := Go.Ground.phase }, { on := 8, ground := Go.Ground.phase }, { on := 9, ground := Go.Ground.phase }, { on := 10, ground := Go.Ground.phase }, { on := 11, ground := Go.Ground.phase }], guard := none }) (v := ?_) rfl (by kernel_rfl) (by kernel_rfl) (by kernel_rfl) (fun _ _ _ h => h) (Or.inl ⟨by rfl, ?_⟩) hHeld ?_
  rotate_left 1
  · (intro w hSw; (try dsimp only at hSw); go_simp <;> with_reducible rfl)
  simp only [Act.put, List.setIfInBounds_toArray, List.set_cons_zero, List.set_cons_succ]
  refine wpAnyH_done (by kernel_rfl) ?_ _
  go_wp2_with fail
  go_ret
  exact HQ.out _ (bel2 HB.out (bel1 W0 _)).drew
end Go.Proofs.Ytmcbgfcpalfcjaa
