/- What is asked of a wait, an answer, an ask; the contracts of Find, open, isSession, handed, end. -/
import Derived.Test.YtocjgcjechhehaaI
namespace Go.Proofs.Ytocjgcjechhehaa
open Go.ChangeAt Go.ChangeShapes Go.Deep Go.RowKit Go.WideShapes
/-- An answer. -/
structure An where
  o : Int
  v : Tv
/-- Six cells are an answer. -/
structure IsAn (R : Value → Tv → Prop) (r : Array Value) (d : An) : Prop where
  size : r.size = 6
  c0 : r[0]? = some (.int .i64 d.o)
  v : V5 R r 1 d.v
/-- An ask. -/
structure Ak where
  o : Int
  s : ByteArray
  v : Tv
/-- Seven cells are an ask. -/
structure IsA (R : Value → Tv → Prop) (r : Array Value) (d : Ak) : Prop where
  size : r.size = 7
  c0 : r[0]? = some (.int .i64 d.o)
  c1 : r[1]? = some (.string d.s)
  v : V5 R r 2 d.v
theorem tl_ne {s t : ByteArray} (h : ¬ s = t) : (s.toList == t.toList) = false := by
  cases e : (s.toList == t.toList)
  · rfl
  · exact absurd (tl_inj (by simpa using e)) h
theorem fop_calls (r : Array Value) (op q : Int) (_hs : r.size = 19) (h0 : r[0]? = some (.int .i64 op)) (g : Nat) (w : World) (hg : w.cell? ⟨g, 0, none⟩ = some (.int .i64 q)) :
    Calls Try.prog 32 #[.agg r, .pointer (some ⟨g, 0, none⟩)] w fun e w' => e = .returned (.bool (decide (op = q))) ∧ Below w.heap.size w w' := by
  have HB : Hid (Below w.heap.size w (w.alloc (.cells r 29))) := bel1 w _
  have e0 : (w.alloc (.cells r 29)).cell? ⟨w.heap.size, 0, none⟩ = some (.int .i64 op) := row_cell (heap_alloc_new w _) h0
  have eg := cellW hg (bel1 w (.cells r 29))
  clear h0 hg
  go_enter Try.func32, Try.ntmps32
  go_upto_region 1 with fail
  generalize w.alloc (.cells r 29) = W at HB e0 eg ⊢
  by_cases he : op = q
  · subst he
    go_wp2_with fail
    go_ret
    exact ⟨by simp, HB.out⟩
  · have e1 : (op == q) = false := by simpa using he
    go_wp2_with fail
    go_ret
    exact ⟨by simp [he], HB.out⟩
set_option maxHeartbeats 1000000 in
theorem aop_calls (r : Array Value) (d q : Int) (h0 : r[0]? = some (.int .i64 d)) (g b : Nat) (w : World) (hg : w.cell? ⟨g, 0, none⟩ = some (.pointer (some ⟨b, 0, none⟩))) (hb : w.cell? ⟨b, 0, none⟩ = some (.int .i64 q)) :
    Calls Try.prog 46 #[.agg r, .pointer (some ⟨g, 0, none⟩)] w fun e w' => e = .returned (.bool (decide (d = q))) ∧ Below w.heap.size w w' := by
  have HB : Hid (Below w.heap.size w (w.alloc (.cells r 66))) := bel1 w _
  have e0 : (w.alloc (.cells r 66)).cell? ⟨w.heap.size, 0, none⟩ = some (.int .i64 d) := row_cell (heap_alloc_new w _) h0
  have eg := cellW hg (bel1 w (.cells r 66))
  have eb := cellW hb (bel1 w (.cells r 66))
  clear h0 hg hb
  go_enter Try.func46, Try.ntmps46
  go_upto_region 1 with fail
  generalize w.alloc (.cells r 66) = W at HB e0 eg eb ⊢
  by_cases he : d = q
  · subst he
    refine wp_region_held_drew (S := (fun w' => w'.cell? ⟨w.heap.size, 0, none⟩ = some (.int .i64 d) ∧ w'.cell? ⟨g, 0, none⟩ = some (.pointer (some ⟨b, 0, none⟩)) ∧ w'.cell? ⟨b, 0, none⟩ = some (.int .i64 d))) (by kernel_rfl) ⟨e0, eg, eb⟩ (fun hHeld => ?_)
    change wpAnyH _ _ _ _ _ _ _ _ (World.drew _)
    refine wpAnyH_take (i := 0) (oi := { dst := some 4, op := Go.Op.fieldAddr 66 (Go.Operand.tmp 2) 0, type := 0, pos := "waits.go:75", after := #[], guard := none }) (v := ?_) rfl (by kernel_rfl) (by kernel_rfl) (by kernel_rfl) (fun _ _ _ h => h) (Or.inl ⟨by rfl, ?_⟩) hHeld ?_
    rotate_left 1
    · (intro w hSw; (try dsimp only at hSw); go_simp <;> with_reducible rfl)
    simp only [Act.put, List.setIfInBounds_toArray, List.set_cons_zero, List.set_cons_succ]
    refine wpAnyH_take (i := 1) (oi := { dst := some 5, op := Go.Op.load 3 (Go.Operand.tmp 4), type := 3, pos := "waits.go:75", after := #[{ on := 0, ground := Go.Ground.data }], guard := none }) (v := ?_) rfl (by kernel_rfl) (by kernel_rfl) (by kernel_rfl) (fun _ _ _ h => h) (Or.inl ⟨by rfl, ?_⟩) hHeld ?_
    rotate_left 1
    · (intro w hSw; (try dsimp only at hSw); go_simp <;> with_reducible rfl)
    simp only [Act.put, List.setIfInBounds_toArray, List.set_cons_zero, List.set_cons_succ]
    refine wpAnyH_take (i := 2) (oi := { dst := some 6, op := Go.Op.load 68 (Go.Operand.tmp 1), type := 68, pos := "waits.go:75", after := #[], guard := none }) (v := ?_) rfl (by kernel_rfl) (by kernel_rfl) (by kernel_rfl) (fun _ _ _ h => h) (Or.inl ⟨by rfl, ?_⟩) hHeld ?_
    rotate_left 1
    · (intro w hSw; (try dsimp only at hSw); go_simp <;> with_reducible rfl)
    simp only [Act.put, List.setIfInBounds_toArray, List.set_cons_zero, List.set_cons_succ]
    refine wpAnyH_take (i := 3) (oi := { dst := some 7, op := Go.Op.nilCheck (Go.Operand.tmp 6), type := 0, pos := "waits.go:75", after := #[{ on := 2, ground := Go.Ground.data }], guard := none }) (v := ?_) rfl (by kernel_rfl) (by kernel_rfl) (by kernel_rfl) (fun _ _ _ h => h) (Or.inl ⟨by rfl, ?_⟩) hHeld ?_
    rotate_left 1
    · (intro w hSw; (try dsimp only at hSw); go_simp <;> with_reducible rfl)
    simp only [Act.put, List.setIfInBounds_toArray, List.set_cons_zero, List.set_cons_succ]
    refine wpAnyH_take (i := 4) (oi := { dst := some 8, op := Go.Op.fieldAddr 29 (Go.Operand.tmp 7) 0, type := 0, pos := "waits.go:75", after := #[{ on := 3, ground := Go.Ground.data }], guard := none }) (v := ?_) rfl (by kernel_rfl) (by kernel_rfl) (by kernel_rfl) (fun _ _ _ h => h) (Or.inl ⟨by rfl, ?_⟩) hHeld ?_
    rotate_left 1
    · (intro w hSw; (try dsimp only at hSw); go_simp <;> with_reducible rfl)
    simp only [Act.put, List.setIfInBounds_toArray, List.set_cons_zero, List.set_cons_succ]
    refine wpAnyH_take (i := 5) (oi := { dst := some 9, op := Go.Op.load 3 (Go.Operand.tmp 8), type := 3, pos := "waits.go:75", after := #[{ on := 4, ground := Go.Ground.data }], guard := none }) (v := ?_) rfl (by kernel_rfl) (by kernel_rfl) (by kernel_rfl) (fun _ _ _ h => h) (Or.inl ⟨by rfl, ?_⟩) hHeld ?_
    rotate_left 1
    · (intro w hSw; (try dsimp only at hSw); go_simp <;> with_reducible rfl)
    simp only [Act.put, List.setIfInBounds_toArray, List.set_cons_zero, List.set_cons_succ]
    refine wpAnyH_take (i := 6) (oi := { dst := some 10, op := Go.Op.binOp Go.BinOp.eql 3 (Go.Operand.tmp 5) (Go.Operand.tmp 9) 3, type := 4, pos := "waits.go:75", after := #[{ on := 1, ground := Go.Ground.data }, { on := 5, ground := Go.Ground.data }], guard := none }) (v := ?_) rfl (by kernel_rfl) (by kernel_rfl) (by kernel_rfl) (fun _ _ _ h => h) (Or.inl ⟨by rfl, ?_⟩) hHeld ?_
    rotate_left 1
    · (intro w hSw; (try dsimp only at hSw); go_simp <;> with_reducible rfl)
    simp only [Act.put, List.setIfInBounds_toArray, List.set_cons_zero, List.set_cons_succ]
    refine wpAnyH_take (i := 7) (oi := { dst := some 3, op := Go.Op.assign (Go.Operand.tmp 10), type := 4, pos := "waits.go:75", after := #[{ on := 6, ground := Go.Ground.data }, { on := 0, ground := Go.Ground.phase }, { on := 1, ground := Go.Ground.phase }, { on := 2, ground := Go.Ground.phase }, { on := 3, ground := Go.Ground.phase }, { on := 4, ground := Go.Ground.phase }, { on := 5, ground := Go.Ground.phase }, { on := 6, ground := Go.Ground.phase }], guard := none }) (v := ?_) rfl (by kernel_rfl) (by kernel_rfl) (by kernel_rfl) (fun _ _ _ h => h) (Or.inl ⟨by rfl, ?_⟩) hHeld ?_
    rotate_left 1
    · (intro w hSw; (try dsimp only at hSw); go_simp <;> with_reducible rfl)
    simp only [Act.put, List.setIfInBounds_toArray, List.set_cons_zero, List.set_cons_succ]
    refine wpAnyH_done (by kernel_rfl) ?_ _
    go_wp2_with fail
    go_ret
    exact ⟨by simp, HB.out.drew⟩
  · have e1 : (d == q) = false := by simpa using he
    refine wp_region_held_drew (S := (fun w' => w'.cell? ⟨w.heap.size, 0, none⟩ = some (.int .i64 d) ∧ w'.cell? ⟨g, 0, none⟩ = some (.pointer (some ⟨b, 0, none⟩)) ∧ w'.cell? ⟨b, 0, none⟩ = some (.int .i64 q))) (by kernel_rfl) ⟨e0, eg, eb⟩ (fun hHeld => ?_)
    change wpAnyH _ _ _ _ _ _ _ _ (World.drew _)
    refine wpAnyH_take (i := 0) (oi := { dst := some 4, op := Go.Op.fieldAddr 66 (Go.Operand.tmp 2) 0, type := 0, pos := "waits.go:75", after := #[], guard := none }) (v := ?_) rfl (by kernel_rfl) (by kernel_rfl) (by kernel_rfl) (fun _ _ _ h => h) (Or.inl ⟨by rfl, ?_⟩) hHeld ?_
    rotate_left 1
    · (intro w hSw; (try dsimp only at hSw); go_simp <;> with_reducible rfl)
    simp only [Act.put, List.setIfInBounds_toArray, List.set_cons_zero, List.set_cons_succ]
    refine wpAnyH_take (i := 1) (oi := { dst := some 5, op := Go.Op.load 3 (Go.Operand.tmp 4), type := 3, pos := "waits.go:75", after := #[{ on := 0, ground := Go.Ground.data }], guard := none }) (v := ?_) rfl (by kernel_rfl) (by kernel_rfl) (by kernel_rfl) (fun _ _ _ h => h) (Or.inl ⟨by rfl, ?_⟩) hHeld ?_
    rotate_left 1
    · (intro w hSw; (try dsimp only at hSw); go_simp <;> with_reducible rfl)
    simp only [Act.put, List.setIfInBounds_toArray, List.set_cons_zero, List.set_cons_succ]
    refine wpAnyH_take (i := 2) (oi := { dst := some 6, op := Go.Op.load 68 (Go.Operand.tmp 1), type := 68, pos := "waits.go:75", after := #[], guard := none }) (v := ?_) rfl (by kernel_rfl) (by kernel_rfl) (by kernel_rfl) (fun _ _ _ h => h) (Or.inl ⟨by rfl, ?_⟩) hHeld ?_
    rotate_left 1
    · (intro w hSw; (try dsimp only at hSw); go_simp <;> with_reducible rfl)
    simp only [Act.put, List.setIfInBounds_toArray, List.set_cons_zero, List.set_cons_succ]
    refine wpAnyH_take (i := 3) (oi := { dst := some 7, op := Go.Op.nilCheck (Go.Operand.tmp 6), type := 0, pos := "waits.go:75", after := #[{ on := 2, ground := Go.Ground.data }], guard := none }) (v := ?_) rfl (by kernel_rfl) (by kernel_rfl) (by kernel_rfl) (fun _ _ _ h => h) (Or.inl ⟨by rfl, ?_⟩) hHeld ?_
    rotate_left 1
    · (intro w hSw; (try dsimp only at hSw); go_simp <;> with_reducible rfl)
    simp only [Act.put, List.setIfInBounds_toArray, List.set_cons_zero, List.set_cons_succ]
    refine wpAnyH_take (i := 4) (oi := { dst := some 8, op := Go.Op.fieldAddr 29 (Go.Operand.tmp 7) 0, type := 0, pos := "waits.go:75", after := #[{ on := 3, ground := Go.Ground.data }], guard := none }) (v := ?_) rfl (by kernel_rfl) (by kernel_rfl) (by kernel_rfl) (fun _ _ _ h => h) (Or.inl ⟨by rfl, ?_⟩) hHeld ?_
    rotate_left 1
    · (intro w hSw; (try dsimp only at hSw); go_simp <;> with_reducible rfl)
    simp only [Act.put, List.setIfInBounds_toArray, List.set_cons_zero, List.set_cons_succ]
    refine wpAnyH_take (i := 5) (oi := { dst := some 9, op := Go.Op.load 3 (Go.Operand.tmp 8), type := 3, pos := "waits.go:75", after := #[{ on := 4, ground := Go.Ground.data }], guard := none }) (v := ?_) rfl (by kernel_rfl) (by kernel_rfl) (by kernel_rfl) (fun _ _ _ h => h) (Or.inl ⟨by rfl, ?_⟩) hHeld ?_
    rotate_left 1
    · (intro w hSw; (try dsimp only at hSw); go_simp <;> with_reducible rfl)
    simp only [Act.put, List.setIfInBounds_toArray, List.set_cons_zero, List.set_cons_succ]
    refine wpAnyH_take (i := 6) (oi := { dst := some 10, op := Go.Op.binOp Go.BinOp.eql 3 (Go.Operand.tmp 5) (Go.Operand.tmp 9) 3, type := 4, pos := "waits.go:75", after := #[{ on := 1, ground := Go.Ground.data }, { on := 5, ground := Go.Ground.data }], guard := none }) (v := ?_) rfl (by kernel_rfl) (by kernel_rfl) (by kernel_rfl) (fun _ _ _ h => h) (Or.inl ⟨by rfl, ?_⟩) hHeld ?_
    rotate_left 1
    · (intro w hSw; (try dsimp only at hSw); go_simp <;> with_reducible rfl)
    simp only [Act.put, List.setIfInBounds_toArray, List.set_cons_zero, List.set_cons_succ]
    refine wpAnyH_take (i := 7) (oi := { dst := some 3, op := Go.Op.assign (Go.Operand.tmp 10), type := 4, pos := "waits.go:75", after := #[{ on := 6, ground := Go.Ground.data }, { on := 0, ground := Go.Ground.phase }, { on := 1, ground := Go.Ground.phase }, { on := 2, ground := Go.Ground.phase }, { on := 3, ground := Go.Ground.phase }, { on := 4, ground := Go.Ground.phase }, { on := 5, ground := Go.Ground.phase }, { on := 6, ground := Go.Ground.phase }], guard := none }) (v := ?_) rfl (by kernel_rfl) (by kernel_rfl) (by kernel_rfl) (fun _ _ _ h => h) (Or.inl ⟨by rfl, ?_⟩) hHeld ?_
    rotate_left 1
    · (intro w hSw; (try dsimp only at hSw); go_simp <;> with_reducible rfl)
    simp only [Act.put, List.setIfInBounds_toArray, List.set_cons_zero, List.set_cons_succ]
    refine wpAnyH_done (by kernel_rfl) ?_ _
    go_wp2_with fail
    go_ret
    exact ⟨by simp [he], HB.out.drew⟩
set_option maxHeartbeats 1000000 in
theorem knm_calls (r : Array Value) (d q : ByteArray) (h0 : r[1]? = some (.string d)) (g b : Nat) (w : World) (hg : w.cell? ⟨g, 0, none⟩ = some (.pointer (some ⟨b, 0, none⟩))) (hb : w.cell? ⟨b, 5, none⟩ = some (.string q)) :
    Calls Try.prog 51 #[.agg r, .pointer (some ⟨g, 0, none⟩)] w fun e w' => e = .returned (.bool (decide (d = q))) ∧ Below w.heap.size w w' := by
  have HB : Hid (Below w.heap.size w (w.alloc (.cells r 58))) := bel1 w _
  have e0 : (w.alloc (.cells r 58)).cell? ⟨w.heap.size, 1, none⟩ = some (.string d) := row_cell (heap_alloc_new w _) h0
  have eg := cellW hg (bel1 w (.cells r 58))
  have eb := cellW hb (bel1 w (.cells r 58))
  clear h0 hg hb
  go_enter Try.func51, Try.ntmps51
  go_upto_region 1 with fail
  generalize w.alloc (.cells r 58) = W at HB e0 eg eb ⊢
  by_cases he : d = q
  · subst he
    refine wp_region_held_drew (S := (fun w' => w'.cell? ⟨w.heap.size, 1, none⟩ = some (.string d) ∧ w'.cell? ⟨g, 0, none⟩ = some (.pointer (some ⟨b, 0, none⟩)) ∧ w'.cell? ⟨b, 5, none⟩ = some (.string d))) (by kernel_rfl) ⟨e0, eg, eb⟩ (fun hHeld => ?_)
    change wpAnyH _ _ _ _ _ _ _ _ (World.drew _)
    refine wpAnyH_take (i := 0) (oi := { dst := some 4, op := Go.Op.fieldAddr 58 (Go.Operand.tmp 2) 1, type := 0, pos := "waits.go:88", after := #[], guard := none }) (v := ?_) rfl (by kernel_rfl) (by kernel_rfl) (by kernel_rfl) (fun _ _ _ h => h) (Or.inl ⟨by rfl, ?_⟩) hHeld ?_
    rotate_left 1
    · (intro w hSw; (try dsimp only at hSw); go_simp <;> with_reducible rfl)
    simp only [Act.put, List.setIfInBounds_toArray, List.set_cons_zero, List.set_cons_succ]
    refine wpAnyH_take (i := 1) (oi := { dst := some 5, op := Go.Op.load 9 (Go.Operand.tmp 4), type := 9, pos := "waits.go:88", after := #[{ on := 0, ground := Go.Ground.data }], guard := none }) (v := ?_) rfl (by kernel_rfl) (by kernel_rfl) (by kernel_rfl) (fun _ _ _ h => h) (Or.inl ⟨by rfl, ?_⟩) hHeld ?_
    rotate_left 1
    · (intro w hSw; (try dsimp only at hSw); go_simp <;> with_reducible rfl)
    simp only [Act.put, List.setIfInBounds_toArray, List.set_cons_zero, List.set_cons_succ]
    refine wpAnyH_take (i := 2) (oi := { dst := some 6, op := Go.Op.load 68 (Go.Operand.tmp 1), type := 68, pos := "waits.go:88", after := #[], guard := none }) (v := ?_) rfl (by kernel_rfl) (by kernel_rfl) (by kernel_rfl) (fun _ _ _ h => h) (Or.inl ⟨by rfl, ?_⟩) hHeld ?_
    rotate_left 1
    · (intro w hSw; (try dsimp only at hSw); go_simp <;> with_reducible rfl)
    simp only [Act.put, List.setIfInBounds_toArray, List.set_cons_zero, List.set_cons_succ]
    refine wpAnyH_take (i := 3) (oi := { dst := some 7, op := Go.Op.nilCheck (Go.Operand.tmp 6), type := 0, pos := "waits.go:88", after := #[{ on := 2, ground := Go.Ground.data }], guard := none }) (v := ?_) rfl (by kernel_rfl) (by kernel_rfl) (by kernel_rfl) (fun _ _ _ h => h) (Or.inl ⟨by rfl, ?_⟩) hHeld ?_
    rotate_left 1
    · (intro w hSw; (try dsimp only at hSw); go_simp <;> with_reducible rfl)
    simp only [Act.put, List.setIfInBounds_toArray, List.set_cons_zero, List.set_cons_succ]
    refine wpAnyH_take (i := 4) (oi := { dst := some 8, op := Go.Op.fieldAddr 29 (Go.Operand.tmp 7) 5, type := 0, pos := "waits.go:88", after := #[{ on := 3, ground := Go.Ground.data }], guard := none }) (v := ?_) rfl (by kernel_rfl) (by kernel_rfl) (by kernel_rfl) (fun _ _ _ h => h) (Or.inl ⟨by rfl, ?_⟩) hHeld ?_
    rotate_left 1
    · (intro w hSw; (try dsimp only at hSw); go_simp <;> with_reducible rfl)
    simp only [Act.put, List.setIfInBounds_toArray, List.set_cons_zero, List.set_cons_succ]
    refine wpAnyH_take (i := 5) (oi := { dst := some 9, op := Go.Op.load 9 (Go.Operand.tmp 8), type := 9, pos := "waits.go:88", after := #[{ on := 4, ground := Go.Ground.data }], guard := none }) (v := ?_) rfl (by kernel_rfl) (by kernel_rfl) (by kernel_rfl) (fun _ _ _ h => h) (Or.inl ⟨by rfl, ?_⟩) hHeld ?_
    rotate_left 1
    · (intro w hSw; (try dsimp only at hSw); go_simp <;> with_reducible rfl)
    simp only [Act.put, List.setIfInBounds_toArray, List.set_cons_zero, List.set_cons_succ]
    refine wpAnyH_take (i := 6) (oi := { dst := some 10, op := Go.Op.binOp Go.BinOp.eql 9 (Go.Operand.tmp 5) (Go.Operand.tmp 9) 9, type := 4, pos := "waits.go:88", after := #[{ on := 1, ground := Go.Ground.data }, { on := 5, ground := Go.Ground.data }], guard := none }) (v := ?_) rfl (by kernel_rfl) (by kernel_rfl) (by kernel_rfl) (fun _ _ _ h => h) (Or.inl ⟨by rfl, ?_⟩) hHeld ?_
    rotate_left 1
    · (intro w hSw; (try dsimp only at hSw); go_simp <;> with_reducible rfl)
    simp only [Act.put, List.setIfInBounds_toArray, List.set_cons_zero, List.set_cons_succ]
    refine wpAnyH_take (i := 7) (oi := { dst := some 3, op := Go.Op.assign (Go.Operand.tmp 10), type := 4, pos := "waits.go:88", after := #[{ on := 6, ground := Go.Ground.data }, { on := 0, ground := Go.Ground.phase }, { on := 1, ground := Go.Ground.phase }, { on := 2, ground := Go.Ground.phase }, { on := 3, ground := Go.Ground.phase }, { on := 4, ground := Go.Ground.phase }, { on := 5, ground := Go.Ground.phase }, { on := 6, ground := Go.Ground.phase }], guard := none }) (v := ?_) rfl (by kernel_rfl) (by kernel_rfl) (by kernel_rfl) (fun _ _ _ h => h) (Or.inl ⟨by rfl, ?_⟩) hHeld ?_
    rotate_left 1
    · (intro w hSw; (try dsimp only at hSw); go_simp <;> with_reducible rfl)
    simp only [Act.put, List.setIfInBounds_toArray, List.set_cons_zero, List.set_cons_succ]
    refine wpAnyH_done (by kernel_rfl) ?_ _
    go_wp2_with fail
    go_ret
    exact ⟨by simp, HB.out.drew⟩
  · have e1 : (d.toList == q.toList) = false := tl_ne he
    refine wp_region_held_drew (S := (fun w' => w'.cell? ⟨w.heap.size, 1, none⟩ = some (.string d) ∧ w'.cell? ⟨g, 0, none⟩ = some (.pointer (some ⟨b, 0, none⟩)) ∧ w'.cell? ⟨b, 5, none⟩ = some (.string q))) (by kernel_rfl) ⟨e0, eg, eb⟩ (fun hHeld => ?_)
    change wpAnyH _ _ _ _ _ _ _ _ (World.drew _)
    refine wpAnyH_take (i := 0) (oi := { dst := some 4, op := Go.Op.fieldAddr 58 (Go.Operand.tmp 2) 1, type := 0, pos := "waits.go:88", after := #[], guard := none }) (v := ?_) rfl (by kernel_rfl) (by kernel_rfl) (by kernel_rfl) (fun _ _ _ h => h) (Or.inl ⟨by rfl, ?_⟩) hHeld ?_
    rotate_left 1
    · (intro w hSw; (try dsimp only at hSw); go_simp <;> with_reducible rfl)
    simp only [Act.put, List.setIfInBounds_toArray, List.set_cons_zero, List.set_cons_succ]
    refine wpAnyH_take (i := 1) (oi := { dst := some 5, op := Go.Op.load 9 (Go.Operand.tmp 4), type := 9, pos := "waits.go:88", after := #[{ on := 0, ground := Go.Ground.data }], guard := none }) (v := ?_) rfl (by kernel_rfl) (by kernel_rfl) (by kernel_rfl) (fun _ _ _ h => h) (Or.inl ⟨by rfl, ?_⟩) hHeld ?_
    rotate_left 1
    · (intro w hSw; (try dsimp only at hSw); go_simp <;> with_reducible rfl)
    simp only [Act.put, List.setIfInBounds_toArray, List.set_cons_zero, List.set_cons_succ]
    refine wpAnyH_take (i := 2) (oi := { dst := some 6, op := Go.Op.load 68 (Go.Operand.tmp 1), type := 68, pos := "waits.go:88", after := #[], guard := none }) (v := ?_) rfl (by kernel_rfl) (by kernel_rfl) (by kernel_rfl) (fun _ _ _ h => h) (Or.inl ⟨by rfl, ?_⟩) hHeld ?_
    rotate_left 1
    · (intro w hSw; (try dsimp only at hSw); go_simp <;> with_reducible rfl)
    simp only [Act.put, List.setIfInBounds_toArray, List.set_cons_zero, List.set_cons_succ]
    refine wpAnyH_take (i := 3) (oi := { dst := some 7, op := Go.Op.nilCheck (Go.Operand.tmp 6), type := 0, pos := "waits.go:88", after := #[{ on := 2, ground := Go.Ground.data }], guard := none }) (v := ?_) rfl (by kernel_rfl) (by kernel_rfl) (by kernel_rfl) (fun _ _ _ h => h) (Or.inl ⟨by rfl, ?_⟩) hHeld ?_
    rotate_left 1
    · (intro w hSw; (try dsimp only at hSw); go_simp <;> with_reducible rfl)
    simp only [Act.put, List.setIfInBounds_toArray, List.set_cons_zero, List.set_cons_succ]
    refine wpAnyH_take (i := 4) (oi := { dst := some 8, op := Go.Op.fieldAddr 29 (Go.Operand.tmp 7) 5, type := 0, pos := "waits.go:88", after := #[{ on := 3, ground := Go.Ground.data }], guard := none }) (v := ?_) rfl (by kernel_rfl) (by kernel_rfl) (by kernel_rfl) (fun _ _ _ h => h) (Or.inl ⟨by rfl, ?_⟩) hHeld ?_
    rotate_left 1
    · (intro w hSw; (try dsimp only at hSw); go_simp <;> with_reducible rfl)
    simp only [Act.put, List.setIfInBounds_toArray, List.set_cons_zero, List.set_cons_succ]
    refine wpAnyH_take (i := 5) (oi := { dst := some 9, op := Go.Op.load 9 (Go.Operand.tmp 8), type := 9, pos := "waits.go:88", after := #[{ on := 4, ground := Go.Ground.data }], guard := none }) (v := ?_) rfl (by kernel_rfl) (by kernel_rfl) (by kernel_rfl) (fun _ _ _ h => h) (Or.inl ⟨by rfl, ?_⟩) hHeld ?_
    rotate_left 1
    · (intro w hSw; (try dsimp only at hSw); go_simp <;> with_reducible rfl)
    simp only [Act.put, List.setIfInBounds_toArray, List.set_cons_zero, List.set_cons_succ]
    refine wpAnyH_take (i := 6) (oi := { dst := some 10, op := Go.Op.binOp Go.BinOp.eql 9 (Go.Operand.tmp 5) (Go.Operand.tmp 9) 9, type := 4, pos := "waits.go:88", after := #[{ on := 1, ground := Go.Ground.data }, { on := 5, ground := Go.Ground.data }], guard := none }) (v := ?_) rfl (by kernel_rfl) (by kernel_rfl) (by kernel_rfl) (fun _ _ _ h => h) (Or.inl ⟨by rfl, ?_⟩) hHeld ?_
    rotate_left 1
    · (intro w hSw; (try dsimp only at hSw); go_simp <;> with_reducible rfl)
    simp only [Act.put, List.setIfInBounds_toArray, List.set_cons_zero, List.set_cons_succ]
    refine wpAnyH_take (i := 7) (oi := { dst := some 3, op := Go.Op.assign (Go.Operand.tmp 10), type := 4, pos := "waits.go:88", after := #[{ on := 6, ground := Go.Ground.data }, { on := 0, ground := Go.Ground.phase }, { on := 1, ground := Go.Ground.phase }, { on := 2, ground := Go.Ground.phase }, { on := 3, ground := Go.Ground.phase }, { on := 4, ground := Go.Ground.phase }, { on := 5, ground := Go.Ground.phase }, { on := 6, ground := Go.Ground.phase }], guard := none }) (v := ?_) rfl (by kernel_rfl) (by kernel_rfl) (by kernel_rfl) (fun _ _ _ h => h) (Or.inl ⟨by rfl, ?_⟩) hHeld ?_
    rotate_left 1
    · (intro w hSw; (try dsimp only at hSw); go_simp <;> with_reducible rfl)
    simp only [Act.put, List.setIfInBounds_toArray, List.set_cons_zero, List.set_cons_succ]
    refine wpAnyH_done (by kernel_rfl) ?_ _
    go_wp2_with fail
    go_ret
    exact ⟨by simp [he], HB.out.drew⟩
/-- The zero wait. -/
def zX : Wt := ⟨0, 0, 0, 0, ⟨#[]⟩, ⟨#[]⟩, .mk 0 0 0 ⟨#[]⟩ [], .mk 0 0 0 ⟨#[]⟩ [], false, false, 0⟩
theorem zT_is (w : World) (n : Nat) : Is w (n + 1) (.agg #[.int .i64 0, .int .i64 0, .int .u64 0, .string ⟨#[]⟩, .slice none 0 0]) (.mk 0 0 0 ⟨#[]⟩ []) := ⟨none, 0, rfl, ⟨by decide, by decide, by decide, by decide, by decide, by decide, by decide, by decide, by decide⟩, fun i t h => by simp at h⟩
theorem zX_is (w : World) (n : Nat) : IsW (Is w (n + 1)) zW zX :=
  { size := rfl, c0 := rfl, c1 := rfl, c2 := rfl, c3 := rfl, c4 := rfl, c5 := rfl, c16 := rfl, c17 := rfl, c18 := rfl, asked := ⟨0, 0, 0, ⟨#[]⟩, none, 0, 0, rfl, rfl, rfl, rfl, rfl, zT_is w n⟩, value := ⟨0, 0, 0, ⟨#[]⟩, none, 0, 0, rfl, rfl, rfl, rfl, rfl, zT_is w n⟩ }
theorem ret_cell_tmp {fn : Func} {p q : Tmp} {ty : TypeId} (h : fn.results = #[.cell p ty, .tmp q]) (tmps : Array Value) {w : World} {v u : Value} {a : Addr} (hp : tmps.getD p undef = .pointer (some a)) (hq : tmps.getD q undef = u) (hl : (loadVar ty a).run Try.prog w = .ok v w) : (results fn tmps).run Try.prog w = .ok (.tuple #[v, u]) w := by
  have hp' : tmps[p]?.getD undef = .pointer (some a) := by simpa using hp
  have hq' : tmps[q]?.getD undef = u := by simpa using hq
  simp [results, h, hp', hq', asAddr, hl]
/-- What Find tells. -/
def FdP (n : Nat) (w : World) (o : Option Wt) (e : Ending) (w' : World) : Prop := (∃ cs, e = .returned (.tuple #[.agg cs, .bool o.isSome]) ∧ IsW (Is w' (n + 1)) cs (o.getD zX)) ∧ Below w.heap.size w w'
set_option maxHeartbeats 4000000 in
set_option maxRecDepth 100000 in
theorem find_calls (n : Nat) (a : Option Addr) (c N : Nat) (ws : List Wt) (hN : ws.length = N) (hl : N ≤ 1000) (op : Int) (w : World) (hR : LsW w (n + 1) a ws) (hs : ∀ x ∈ ws, SmX (n + 1) x) :
    Calls Try.prog 11 #[.slice a N c, .int .i64 op] w (FdP n w (ws.find? fun x => decide (x.op = op))) := by
  have hbb : Below w.heap.size w ((w.alloc (.cells #[.int .i64 op] 3)).alloc (.cells zW 29)) := bel2 (bel1 _ _) (bel1 _ _)
  have hz : ((w.alloc (.cells #[.int .i64 op] 3)).alloc (.cells zW 29)).heap[w.heap.size + 1]? = some (.cells zW 29 (0, 0)) := heap_alloc2_new _ _ _
  have hg : ((w.alloc (.cells #[.int .i64 op] 3)).alloc (.cells zW 29)).cell? ⟨w.heap.size, 0, none⟩ = some (.int .i64 op) := row_cell (heap_alloc2_old _ _ _) rfl
  have HQ : Hid (∀ e w', (∃ cs, e = .returned (.tuple #[.agg cs, .bool (ws.find? fun x => decide (x.op = op)).isSome]) ∧ IsW (Is w' (n + 1)) cs ((ws.find? fun x => decide (x.op = op)).getD zX)) → Below w.heap.size w w' → FdP n w (ws.find? fun x => decide (x.op = op)) e w') := fun e w' h1 h2 => ⟨h1, h2⟩
  have HR : Hid (LsW w (n + 1) a ws) := hR
  have HS : Hid (∀ x ∈ ws, SmX (n + 1) x) := hs
  have HN : Hid (ws.length = N) := hN
  have HL : Hid (N ≤ 1000) := hl
  generalize FdP n w (ws.find? fun x => decide (x.op = op)) = Q at HQ ⊢
  clear hR hs hN hl
  go_enter Try.func11, Try.ntmps11
  go_upto_region 1 with fail
  change Code.wp _ _ _ _ ((w.alloc (.cells #[.int .i64 op] 3)).alloc (.cells zW 29))
  have HSZ : Hid (((w.alloc (.cells #[.int .i64 op] 3)).alloc (.cells zW 29)).heap.size = w.heap.size + 2) := by show _ = _; simp
  generalize (w.alloc (.cells #[.int .i64 op] 3)).alloc (.cells zW 29) = W0 at hbb hz hg HSZ ⊢
  have KX : Hid (Calls Try.prog 31 #[.slice a N c, .func (.func 32) #[] #[.pointer (some ⟨w.heap.size, 0, none⟩)]] W0 (IxP (fun x : Wt => decide (x.op = op)) ws W0)) := ix31_calls (IsW (Is w (n + 1))) (fun x : Wt => decide (x.op = op)) w.heap.size ws a N c HN.out HL.out W0 (HR.out.rows.below hbb) (fun W hW r d h1 h2 => fop_calls r d.op op h1 h2.c0 w.heap.size W (cellW hg hW))
  have HB0 : Hid (Below w.heap.size w W0) := hbb
  have HZ : Hid (W0.heap[w.heap.size + 1]? = some (.cells zW 29 (0, 0))) := hz
  clear hbb hz hg
  go_wp2_with fail
  refine KX.out.mono ?_
  rintro e w1 ⟨h1, hb1⟩
  have HB1 : Hid (Below w.heap.size w w1) := bel2 HB0.out hb1
  have hz1 : w1.heap[w.heap.size + 1]? = some (.cells zW 29 (0, 0)) := row_below hb1 HZ.out
  have hs1 := hb1.size
  have HS1 : Hid (w.heap.size + 2 ≤ w1.heap.size) := by have := HSZ.out; show _ ≤ _; omega
  clear hb1 hs1 KX HZ HSZ HB0
  rcases h1 with ⟨j, x, rfl, hj, hf⟩ | ⟨rfl, hf⟩
  · rw [hf] at HQ
    obtain ⟨B, o, cs, rfl, hl, hi⟩ := HR.out j x hj
    have hrng := lies_range (hl.below HB1.out)
    have hi29 : (Try.prog.info? 29).map (·.size) = some cs.toList.length := by rw [Array.length_toList]; exact info29s cs hi.size
    have HC : Hid (Calls Try.prog 33 #[.agg cs] w1 (ClW (n + 1) w1 x)) := clone_calls (n + 1) cs x w1 (hi.map fun _ _ h => h.below HB1.out) (HS.out x (List.mem_of_getElem? hj))
    have hjl : (j : Int) < (N : Int) := by have := (List.getElem?_eq_some_iff.1 hj).1; have := HN.out; omega
    have hj0 : ¬ ((j : Int) < 0) := by omega
    clear hl hi hj hf
    go_wp2_with (refine wpList_load_mid rfl 29 _ rfl B (o + j * 19) rfl cs.toList _ hrng Try.underlying29 rfl hi29 ?_)
    refine HC.out.mono ?_
    rintro e w2 ⟨⟨us, rfl, hi2⟩, hb2⟩
    have hz2 : w2.heap[w.heap.size + 1]? = some (.cells zW 29 (0, 0)) := row_below hb2 hz1
    have hu := info29s us hi2.size
    have ho : zW.size = us.size := hi2.size.symm
    have h1 := all_one hi2.one
    have HB2 : Hid (Below w.heap.size w w2) := bel2 HB1.out hb2
    have HI2 : Hid (IsW (IsN w1.heap.size w2 (n + 1)) us x) := hi2
    clear hb2 hi2 hrng hi29 HC hz1
    go_wp2_with (refine wpList_store_row rfl 29 _ _ rfl (w.heap.size + 1) us rfl rfl 29 zW hz2 hu ho h1 ?_)
    have hl : (loadVar 29 ⟨w.heap.size + 1, 0, none⟩).run Try.prog (w2.setRow (w.heap.size + 1) us) = .ok (.agg us) (w2.setRow (w.heap.size + 1) us) := run_loadVar_row _ (w.heap.size + 1) 29 29 us (0, 0) _ (setRow_heap w2 (w.heap.size + 1) zW us 29 (0, 0) hz2) Try.underlying29 rfl hu
    refine bodyPost_ret (v := .tuple #[.agg us, .bool true]) (ret_cell_tmp Try.results11 _ rfl rfl hl) rfl (HQ.out _ _ ⟨us, rfl, ?_⟩ ?_)
    · exact HI2.out.map fun _ _ h => (h.kb (setRow_kb w2 (w.heap.size + 1) us) (by have := HS1.out; omega)).is
    · exact below_setRow HB2.out (by omega) us
  · rw [hf] at HQ
    have hu := info29s zW rfl
    have h1 : zW.all (·.oneCell') = true := by kernel_rfl
    go_wp2_with (refine wpList_store_row rfl 29 _ _ rfl (w.heap.size + 1) zW rfl rfl 29 zW hz1 hu rfl h1 ?_)
    have hl : (loadVar 29 ⟨w.heap.size + 1, 0, none⟩).run Try.prog (w1.setRow (w.heap.size + 1) zW) = .ok (.agg zW) (w1.setRow (w.heap.size + 1) zW) := run_loadVar_row _ (w.heap.size + 1) 29 29 zW (0, 0) _ (setRow_heap w1 (w.heap.size + 1) zW zW 29 (0, 0) hz1) Try.underlying29 rfl hu
    refine bodyPost_ret (v := .tuple #[.agg zW, .bool false]) (ret_cell_tmp Try.results11 _ rfl rfl hl) rfl (HQ.out _ _ ⟨zW, rfl, zX_is _ n⟩ ?_)
    exact below_setRow HB1.out (by omega) zW
end Go.Proofs.Ytocjgcjechhehaa
