/- The contracts of the reference's Ask and Add. -/
import Derived.Test.YtlcgjehepalmcaaTP
import Derived.Laws.Strings
namespace Go.Proofs.Ytlcgjehepalmcaa
open Go.ChangeShapes Go.WideShapes Go.ChangeAt Go.RowKit
theorem str_list (l : List UInt8) : (strOfNums (Lib.numsL l)).toList = l := by
  rw [ByteArray.toList_eq, strOfNums_data]
  have := Lib.bytesOf_numsL l
  simpa [Lib.bytesOf] using this
set_option maxHeartbeats 4000000 in
set_option maxRecDepth 100000 in
theorem rask_calls (ds : List Dn) (a : Option Addr) (n c : Nat) (hn : ds.length = n) (hs : n ≤ 500) (hy : ∀ d ∈ ds, d.y.length ≤ 140737488355328) (N : Nat) (cs : Array Value) (r : Rq) (w : World) (h : Tb w a ds) (hr : IsR w N cs r) :
    Calls Try.prog 12 #[.slice a n c, .agg cs] w (AkP w (askR ds r)) := by
  have KF : Hid (∀ W, Below w.heap.size w W → Calls Try.prog 10 #[.slice a n c, .string r.req] W (RfP W (fnd ds r.req))) := fun W hB => rfind_calls r.req ds a n c hn (by omega) hy W (h.below hB)
  have KK : Hid (∀ W, Below w.heap.size w W → Calls Try.prog 20 #[.agg cs] W (HpP W (keyB r))) := fun W hB => rkey_calls N cs r W (hr.below hB)
  have hi32 := info32s cs hr.size
  have hi32l := info32l cs hr.size
  have c0 := hr.c0
  have c2 := hr.c2
  have HQ0 : Hid (fnd ds r.req = none → ∀ w', Below w.heap.size w w' → AkP w (askR ds r) (.returned (.tuple #[.int .i64 0, .int .i64 6])) w') := fun e w' hb => by
    unfold askR
    rw [e]
    exact ⟨rfl, hb⟩
  have HQ1 : Hid (∀ d, fnd ds r.req = some d → (d.k == r.kind && d.y == keyB r) = true → ∀ w', Below w.heap.size w w' → AkP w (askR ds r) (.returned (.tuple #[.int .i64 d.r, .int .i64 0])) w') := fun d e h2 w' hb => by
    unfold askR
    rw [e]
    dsimp only
    rw [if_pos h2]
    exact ⟨rfl, hb⟩
  have HQ2 : Hid (∀ d, fnd ds r.req = some d → (d.k == r.kind && d.y == keyB r) = false → ∀ w', Below w.heap.size w w' → AkP w (askR ds r) (.returned (.tuple #[.int .i64 0, .int .i64 15])) w') := fun d e h2 w' hb => by
    unfold askR
    rw [e]
    dsimp only
    rw [if_neg (by rw [h2]; decide)]
    exact ⟨rfl, hb⟩
  generalize AkP w (askR ds r) = Q at HQ0 HQ1 HQ2 ⊢
  have HG0 : Hid ((w.alloc (.cells cs 32)).heap[w.heap.size]? = some (.cells cs 32 (0, 0))) := heap_alloc_last w _
  have g0 : ∀ j, (w.alloc (.cells cs 32)).cell? ⟨w.heap.size, j, none⟩ = cs[j]? := fun j => cell_of_row _ _ j cs 32 (0, 0) HG0.out
  have HB0 : Hid (Below w.heap.size w (w.alloc (.cells cs 32))) := bel1 _ _
  obtain ⟨o, ho⟩ : ∃ o, o = fnd ds r.req := ⟨_, rfl⟩
  rw [← ho] at KF HQ0 HQ1 HQ2
  clear h hr hn hs hy ho
  go_enter Try.func12, Try.ntmps12
  go_upto_region 1 with fail
  change Code.wp _ _ _ _ (w.alloc (.cells cs 32))
  generalize w.alloc (.cells cs 32) = W0 at HG0 HB0 g0 ⊢
  go_wp2_with fail
  refine (KF.out _ HB0.out).mono ?_
  rintro e w1 ⟨hf1, hf2, hb⟩
  have HB1 : Hid (Below w.heap.size w w1) := bel2 HB0.out hb
  have HG1 : Hid (w1.heap[w.heap.size]? = some (.cells cs 32 (0, 0))) := row_below hb HG0.out
  have n1 : (w1.alloc (.cells #[.string ⟨#[]⟩, .int .i64 0, .slice none 0 0, .int .i64 0] 37)).heap[w1.heap.size]? = some (.cells #[.string ⟨#[]⟩, .int .i64 0, .slice none 0 0, .int .i64 0] 37 (0, 0)) := heap_alloc_last w1 _
  cases o with
  | none =>
    obtain rfl := hf2 rfl
    clear hf1 hf2 hb g0 KF KK
    go_wp2_with (refine wpList_store_row rfl 37 _ _ rfl w1.heap.size _ rfl rfl 37 _ n1 info37s rfl (one4 _ _ _ _ _ _) ?_)
    exact HQ0.out trivial _ (below_setRow (g := w1.heap.size) (bel2 HB1.out (bel1 w1 _)) HB1.out.size _)
  | some d =>
    obtain ⟨p, c', rfl, hown⟩ := hf1 d rfl
    have HD : Hid ((w1.alloc (.cells #[.string d.s, .int .i64 d.k, .slice p d.y.length c', .int .i64 d.r] 37)).heap[w1.heap.size]? = some (.cells #[.string d.s, .int .i64 d.k, .slice p d.y.length c', .int .i64 d.r] 37 (0, 0))) := heap_alloc_last w1 _
    have HG : Hid ((w1.alloc (.cells #[.string d.s, .int .i64 d.k, .slice p d.y.length c', .int .i64 d.r] 37)).heap[w.heap.size]? = some (.cells cs 32 (0, 0))) := row_below (bel1 w1 _) HG1.out
    have HB : Hid (Below w.heap.size w (w1.alloc (.cells #[.string d.s, .int .i64 d.k, .slice p d.y.length c', .int .i64 d.r] 37))) := bel2 HB1.out (bel1 w1 _)
    have HY4 : Hid (Lib.HoldsBytes (w1.alloc (.cells #[.string d.s, .int .i64 d.k, .slice p d.y.length c', .int .i64 d.r] 37)) (.slice p d.y.length c') d.y) := holds_below hown (bel1 w1 _)
    clear hf1 hf2 hb g0 KF hown
    go_upto_region 2 with (refine wpList_store_row rfl 37 _ _ rfl w1.heap.size _ rfl rfl 37 _ n1 info37s rfl (one4 _ _ _ _ _ _) ?_)
    rw [World.setRow_alloc_new]
    generalize w1.alloc (.cells #[.string d.s, .int .i64 d.k, .slice p d.y.length c', .int .i64 d.r] 37) = W2 at HD HG HB HY4 ⊢
    generalize w1.heap.size = gd at HD ⊢
    clear n1 HB1 HG1
    go_upto_region 4 with fail
    obtain ⟨S0, hS0⟩ : ∃ S0, S0 = strOfNums (Lib.numsL d.y) := ⟨_, rfl⟩
    obtain ⟨S1, hS1⟩ : ∃ S1, S1 = strOfNums (Lib.numsL (keyB r)) := ⟨_, rfl⟩
    have HCv : Hid (∀ (w : World) p c, Lib.HoldsBytes w (.slice p d.y.length c) d.y → (convert 35 9 (.slice p d.y.length c)).run Try.prog w = .ok (.string S0) w) := fun w p c h => by
      rw [hS0]
      exact conv_string w p c d.y h
    have HCw : Hid (∀ (w : World) p c, Lib.HoldsBytes w (.slice p (keyB r).length c) (keyB r) → (convert 35 9 (.slice p (keyB r).length c)).run Try.prog w = .ok (.string S1) w) := fun w p c h => by
      rw [hS1]
      exact conv_string w p c _ h
    have hSS : (S0.toList == S1.toList) = (d.y == keyB r) := by rw [hS0, hS1, str_list, str_list]
    clear hS0 hS1
    have hx0 : (#[.string d.s, .int .i64 d.k, .slice p d.y.length c', .int .i64 d.r] : Array Value)[1]? = some (.int .i64 d.k) := rfl
    have hx2 : (#[.string d.s, .int .i64 d.k, .slice p d.y.length c', .int .i64 d.r] : Array Value)[2]? = some (.slice p d.y.length c') := rfl
    by_cases hk : d.k = r.kind
    · have hk1 : (d.k == r.kind) = true := by simpa using hk
      have hk2 : (d.k != r.kind) = false := by simp [hk]
      have HKe : Hid ((d.k == r.kind) = true) := hk1
      clear hk
      obtain ⟨be, hbe⟩ : ∃ be, be = (d.y == keyB r) := ⟨_, rfl⟩
      have HBe : Hid (be = (d.y == keyB r)) := hbe
      rw [← hbe] at hSS
      clear hbe
      have hSn : (S0.toList != S1.toList) = !be := by rw [← hSS]; rfl
      refine wp_region_held_drew (S := (fun w' => (∀ j, w'.cell? ⟨gd, j, none⟩ = (#[.string d.s, .int .i64 d.k, .slice p d.y.length c', .int .i64 d.r] : Array Value)[j]?) ∧ (∀ j, w'.cell? ⟨w.heap.size, j, none⟩ = cs[j]?) ∧ Lib.HoldsBytes w' (.slice p d.y.length c') d.y)) (by kernel_rfl) ⟨fun j => cell_of_row _ _ j _ 37 (0, 0) HD.out, fun j => cell_of_row _ _ j cs 32 (0, 0) HG.out, (holds_below HY4.out (Below.refl _ _).drew)⟩ (fun hHeld => ?_)
      change wpAnyH _ _ _ _ _ _ _ _ (World.drew _)
      refine wpAnyH_take (i := 0) (oi := { dst := some 17, op := Go.Op.fieldAddr 37 (Go.Operand.tmp 6) 1, type := 0, pos := "ref.go:50", after := #[], guard := none }) (v := ?_) rfl (by kernel_rfl) (by kernel_rfl) (by kernel_rfl) (fun _ _ _ h => h) (Or.inl ⟨by rfl, ?_⟩) hHeld ?_
      rotate_left 1
      · (intro w hSw; (try dsimp only at hSw); go_simp <;> with_reducible rfl)
      simp only [Act.put, List.setIfInBounds_toArray, List.set_cons_zero, List.set_cons_succ]
      refine wpAnyH_take (i := 1) (oi := { dst := some 18, op := Go.Op.load 3 (Go.Operand.tmp 17), type := 3, pos := "ref.go:50", after := #[{ on := 0, ground := Go.Ground.data }], guard := none }) (v := ?_) rfl (by kernel_rfl) (by kernel_rfl) (by kernel_rfl) (fun _ _ _ h => h) (Or.inl ⟨by rfl, ?_⟩) hHeld ?_
      rotate_left 1
      · (intro w hSw; (try dsimp only at hSw); go_simp <;> with_reducible rfl)
      simp only [Act.put, List.setIfInBounds_toArray, List.set_cons_zero, List.set_cons_succ]
      refine wpAnyH_take (i := 2) (oi := { dst := some 19, op := Go.Op.fieldAddr 32 (Go.Operand.tmp 3) 0, type := 0, pos := "ref.go:50", after := #[], guard := none }) (v := ?_) rfl (by kernel_rfl) (by kernel_rfl) (by kernel_rfl) (fun _ _ _ h => h) (Or.inl ⟨by rfl, ?_⟩) hHeld ?_
      rotate_left 1
      · (intro w hSw; (try dsimp only at hSw); go_simp <;> with_reducible rfl)
      simp only [Act.put, List.setIfInBounds_toArray, List.set_cons_zero, List.set_cons_succ]
      refine wpAnyH_take (i := 3) (oi := { dst := some 20, op := Go.Op.load 3 (Go.Operand.tmp 19), type := 3, pos := "ref.go:50", after := #[{ on := 2, ground := Go.Ground.data }], guard := none }) (v := ?_) rfl (by kernel_rfl) (by kernel_rfl) (by kernel_rfl) (fun _ _ _ h => h) (Or.inl ⟨by rfl, ?_⟩) hHeld ?_
      rotate_left 1
      · (intro w hSw; (try dsimp only at hSw); go_simp <;> with_reducible rfl)
      simp only [Act.put, List.setIfInBounds_toArray, List.set_cons_zero, List.set_cons_succ]
      refine wpAnyH_take (i := 4) (oi := { dst := some 21, op := Go.Op.binOp Go.BinOp.neq 3 (Go.Operand.tmp 18) (Go.Operand.tmp 20) 3, type := 4, pos := "ref.go:50", after := #[{ on := 1, ground := Go.Ground.data }, { on := 3, ground := Go.Ground.data }], guard := none }) (v := ?_) rfl (by kernel_rfl) (by kernel_rfl) (by kernel_rfl) (fun _ _ _ h => h) (Or.inl ⟨by rfl, ?_⟩) hHeld ?_
      rotate_left 1
      · (intro w hSw; (try dsimp only at hSw); go_simp <;> with_reducible rfl)
      simp only [Act.put, List.setIfInBounds_toArray, List.set_cons_zero, List.set_cons_succ]
      refine wpAnyH_take (i := 5) (oi := { dst := some 22, op := Go.Op.move (Go.Operand.tmp 21), type := 4, pos := "ref.go:50", after := #[{ on := 4, ground := Go.Ground.data }], guard := none }) (v := ?_) rfl (by kernel_rfl) (by kernel_rfl) (by kernel_rfl) (fun _ _ _ h => h) (Or.inl ⟨by rfl, ?_⟩) hHeld ?_
      rotate_left 1
      · (intro w hSw; (try dsimp only at hSw); go_simp <;> with_reducible rfl)
      simp only [Act.put, List.setIfInBounds_toArray, List.set_cons_zero, List.set_cons_succ]
      refine wpAnyH_take (i := 6) (oi := { dst := some 23, op := Go.Op.fieldAddr 37 (Go.Operand.tmp 6) 2, type := 0, pos := "ref.go:50", after := #[{ on := 5, ground := Go.Ground.guard }], guard := some (5, false) }) (v := ?_) rfl (by kernel_rfl) (by kernel_rfl) (by kernel_rfl) (fun _ _ _ h => h) (Or.inl ⟨by rfl, ?_⟩) hHeld ?_
      rotate_left 1
      · (intro w hSw; (try dsimp only at hSw); go_simp <;> with_reducible rfl)
      simp only [Act.put, List.setIfInBounds_toArray, List.set_cons_zero, List.set_cons_succ]
      refine wpAnyH_take (i := 7) (oi := { dst := some 24, op := Go.Op.load 35 (Go.Operand.tmp 23), type := 35, pos := "ref.go:50", after := #[{ on := 6, ground := Go.Ground.data }, { on := 5, ground := Go.Ground.guard }], guard := some (5, false) }) (v := ?_) rfl (by kernel_rfl) (by kernel_rfl) (by kernel_rfl) (fun _ _ _ h => h) (Or.inl ⟨by rfl, ?_⟩) hHeld ?_
      rotate_left 1
      · (intro w hSw; (try dsimp only at hSw); go_simp <;> with_reducible rfl)
      simp only [Act.put, List.setIfInBounds_toArray, List.set_cons_zero, List.set_cons_succ]
      refine wpAnyH_take (i := 8) (oi := { dst := some 25, op := Go.Op.convert 35 9 (Go.Operand.tmp 24), type := 9, pos := "ref.go:50", after := #[{ on := 7, ground := Go.Ground.data }, { on := 5, ground := Go.Ground.guard }], guard := some (5, false) }) (v := .string S0) rfl (by kernel_rfl) (by kernel_rfl) (by kernel_rfl) (fun _ _ _ h => h) (Or.inl ⟨by rfl, ?_⟩) hHeld ?_
      · (intro w hSw; (try dsimp only at hSw); have cv := HCv.out _ _ _ hSw.2.2; go_simp <;> with_reducible rfl)
      simp only [Act.put, List.setIfInBounds_toArray, List.set_cons_zero, List.set_cons_succ]
      refine wpAnyH_take (i := 9) (oi := { dst := some 26, op := Go.Op.load 32 (Go.Operand.tmp 3), type := 32, pos := "ref.go:50", after := #[{ on := 5, ground := Go.Ground.guard }], guard := some (5, false) }) (v := _) rfl (by kernel_rfl) (by kernel_rfl) (by kernel_rfl) (fun _ _ _ h => h) (yieldsIf_load_mid rfl 32 _ rfl w.heap.size 0 rfl cs.toList _ (fun w h => range0 h.2.1) Try.underlying32 rfl hi32l) hHeld ?_
      simp only [Act.put, List.setIfInBounds_toArray, List.set_cons_zero, List.set_cons_succ]
      refine wpAnyH_ready (rs := [10]) (by kernel_rfl) (by simp) ?_
      refine AllReadyH.cons (o := { dst := some 27, op := Go.Op.call { callee := Go.Callee.value (Go.Operand.func 20), args := #[Go.Operand.tmp 26], argTypes := #[32] }, type := 35, pos := "ref.go:50", after := #[{ on := 9, ground := Go.Ground.data }, { on := 5, ground := Go.Ground.chain }, { on := 5, ground := Go.Ground.guard }], guard := some (5, false) }) rfl (fun K hK => ?_) AllReadyH.nil
      go_simp
      refine Calls.mono (KK.out _ HB.out.drew) ?_
      rintro e w4 ⟨v4, rfl, hh, hb⟩
      obtain ⟨q4, d4, ef⟩ := holds_form hh
      subst ef
      have HB4 : Hid (Below w.heap.size w w4) := bel2 HB.out.drew hb
      have cv4 := HCw.out _ _ _ hh
      have HD4 : Hid (w4.heap[gd]? = some (.cells #[.string d.s, .int .i64 d.k, .slice p d.y.length c', .int .i64 d.r] 37 (0, 0))) := row_below hb HD.out
      have HG4 : Hid (w4.heap[w.heap.size]? = some (.cells cs 32 (0, 0))) := row_below hb HG.out
      have HY5 : Hid (Lib.HoldsBytes w4 (.slice p d.y.length c') d.y) := holds_below (holds_below HY4.out (Below.refl _ _).drew) hb
      clear hh hb
      refine hK.out _ _ ⟨fun j => cell_of_row _ _ j _ 37 (0, 0) HD4.out, fun j => cell_of_row _ _ j cs 32 (0, 0) HG4.out, HY5.out⟩ (fun hHeld => ?_)
      clear hK K
      refine wpAnyH_ready (rs := [11]) (by kernel_rfl) (by simp) ?_
      refine AllReadyH.cons (o := { dst := some 28, op := Go.Op.convert 35 9 (Go.Operand.tmp 27), type := 9, pos := "ref.go:50", after := #[{ on := 10, ground := Go.Ground.data }, { on := 5, ground := Go.Ground.guard }], guard := some (5, false) }) rfl (fun K hK => ?_) AllReadyH.nil
      go_simp
      refine hK.out _ _ ⟨fun j => cell_of_row _ _ j _ 37 (0, 0) HD4.out, fun j => cell_of_row _ _ j cs 32 (0, 0) HG4.out, HY5.out⟩ (fun hHeld => ?_)
      clear hK K
      refine wpAnyH_take (i := 12) (oi := { dst := some 29, op := Go.Op.binOp Go.BinOp.neq 9 (Go.Operand.tmp 25) (Go.Operand.tmp 28) 9, type := 4, pos := "ref.go:50", after := #[{ on := 8, ground := Go.Ground.data }, { on := 11, ground := Go.Ground.data }, { on := 5, ground := Go.Ground.guard }], guard := some (5, false) }) (v := ?_) rfl (by kernel_rfl) (by kernel_rfl) (by kernel_rfl) (fun _ _ _ h => h) (Or.inl ⟨by rfl, ?_⟩) hHeld ?_
      rotate_left 1
      · (intro w hSw; (try dsimp only at hSw); go_simp <;> with_reducible rfl)
      simp only [Act.put, List.setIfInBounds_toArray, List.set_cons_zero, List.set_cons_succ]
      refine wpAnyH_take (i := 13) (oi := { dst := some 30, op := Go.Op.pick (Go.Operand.tmp 22) (Go.Operand.const (Go.Value.bool true)) (Go.Operand.tmp 29), type := 4, pos := "ref.go:50", after := #[{ on := 5, ground := Go.Ground.data }, { on := 12, ground := Go.Ground.data }], guard := none }) (v := ?_) rfl (by kernel_rfl) (by kernel_rfl) (by kernel_rfl) (fun _ _ _ h => h) (Or.inl ⟨by rfl, ?_⟩) hHeld ?_
      rotate_left 1
      · (intro w hSw; (try dsimp only at hSw); go_simp <;> with_reducible rfl)
      simp only [Act.put, List.setIfInBounds_toArray, List.set_cons_zero, List.set_cons_succ]
      refine wpAnyH_done (by kernel_rfl) ?_ _
      cases be with
      | true =>
        have xr : w4.cell? ⟨gd, 3, none⟩ = some (.int .i64 d.r) := row_cell HD4.out rfl
        go_wp2_with fail
        exact HQ1.out d rfl (by rw [HKe.out, ← HBe.out]; rfl) _ HB4.out
      | false =>
        go_wp2_with fail
        exact HQ2.out d rfl (by rw [← HBe.out]; simp) _ HB4.out
    · have hk1 : (d.k == r.kind) = false := by simpa using hk
      have hk2 : (d.k != r.kind) = true := by simpa using hk
      have HKe : Hid ((d.k == r.kind) = false) := hk1
      clear hk
      refine wp_region_held_drew (S := (fun w' => (∀ j, w'.cell? ⟨gd, j, none⟩ = (#[.string d.s, .int .i64 d.k, .slice p d.y.length c', .int .i64 d.r] : Array Value)[j]?) ∧ (∀ j, w'.cell? ⟨w.heap.size, j, none⟩ = cs[j]?) ∧ Lib.HoldsBytes w' (.slice p d.y.length c') d.y)) (by kernel_rfl) ⟨fun j => cell_of_row _ _ j _ 37 (0, 0) HD.out, fun j => cell_of_row _ _ j cs 32 (0, 0) HG.out, (holds_below HY4.out (Below.refl _ _).drew)⟩ (fun hHeld => ?_)
      change wpAnyH _ _ _ _ _ _ _ _ (World.drew _)
      refine wpAnyH_take (i := 0) (oi := { dst := some 17, op := Go.Op.fieldAddr 37 (Go.Operand.tmp 6) 1, type := 0, pos := "ref.go:50", after := #[], guard := none }) (v := ?_) rfl (by kernel_rfl) (by kernel_rfl) (by kernel_rfl) (fun _ _ _ h => h) (Or.inl ⟨by rfl, ?_⟩) hHeld ?_
      rotate_left 1
      · (intro w hSw; (try dsimp only at hSw); go_simp <;> with_reducible rfl)
      simp only [Act.put, List.setIfInBounds_toArray, List.set_cons_zero, List.set_cons_succ]
      refine wpAnyH_take (i := 1) (oi := { dst := some 18, op := Go.Op.load 3 (Go.Operand.tmp 17), type := 3, pos := "ref.go:50", after := #[{ on := 0, ground := Go.Ground.data }], guard := none }) (v := ?_) rfl (by kernel_rfl) (by kernel_rfl) (by kernel_rfl) (fun _ _ _ h => h) (Or.inl ⟨by rfl, ?_⟩) hHeld ?_
      rotate_left 1
      · (intro w hSw; (try dsimp only at hSw); go_simp <;> with_reducible rfl)
      simp only [Act.put, List.setIfInBounds_toArray, List.set_cons_zero, List.set_cons_succ]
      refine wpAnyH_take (i := 2) (oi := { dst := some 19, op := Go.Op.fieldAddr 32 (Go.Operand.tmp 3) 0, type := 0, pos := "ref.go:50", after := #[], guard := none }) (v := ?_) rfl (by kernel_rfl) (by kernel_rfl) (by kernel_rfl) (fun _ _ _ h => h) (Or.inl ⟨by rfl, ?_⟩) hHeld ?_
      rotate_left 1
      · (intro w hSw; (try dsimp only at hSw); go_simp <;> with_reducible rfl)
      simp only [Act.put, List.setIfInBounds_toArray, List.set_cons_zero, List.set_cons_succ]
      refine wpAnyH_take (i := 3) (oi := { dst := some 20, op := Go.Op.load 3 (Go.Operand.tmp 19), type := 3, pos := "ref.go:50", after := #[{ on := 2, ground := Go.Ground.data }], guard := none }) (v := ?_) rfl (by kernel_rfl) (by kernel_rfl) (by kernel_rfl) (fun _ _ _ h => h) (Or.inl ⟨by rfl, ?_⟩) hHeld ?_
      rotate_left 1
      · (intro w hSw; (try dsimp only at hSw); go_simp <;> with_reducible rfl)
      simp only [Act.put, List.setIfInBounds_toArray, List.set_cons_zero, List.set_cons_succ]
      refine wpAnyH_take (i := 4) (oi := { dst := some 21, op := Go.Op.binOp Go.BinOp.neq 3 (Go.Operand.tmp 18) (Go.Operand.tmp 20) 3, type := 4, pos := "ref.go:50", after := #[{ on := 1, ground := Go.Ground.data }, { on := 3, ground := Go.Ground.data }], guard := none }) (v := ?_) rfl (by kernel_rfl) (by kernel_rfl) (by kernel_rfl) (fun _ _ _ h => h) (Or.inl ⟨by rfl, ?_⟩) hHeld ?_
      rotate_left 1
      · (intro w hSw; (try dsimp only at hSw); go_simp <;> with_reducible rfl)
      simp only [Act.put, List.setIfInBounds_toArray, List.set_cons_zero, List.set_cons_succ]
      refine wpAnyH_take (i := 5) (oi := { dst := some 22, op := Go.Op.move (Go.Operand.tmp 21), type := 4, pos := "ref.go:50", after := #[{ on := 4, ground := Go.Ground.data }], guard := none }) (v := ?_) rfl (by kernel_rfl) (by kernel_rfl) (by kernel_rfl) (fun _ _ _ h => h) (Or.inl ⟨by rfl, ?_⟩) hHeld ?_
      rotate_left 1
      · (intro w hSw; (try dsimp only at hSw); go_simp <;> with_reducible rfl)
      simp only [Act.put, List.setIfInBounds_toArray, List.set_cons_zero, List.set_cons_succ]
      refine wpAnyH_take (i := 6) (oi := { dst := some 23, op := Go.Op.fieldAddr 37 (Go.Operand.tmp 6) 2, type := 0, pos := "ref.go:50", after := #[{ on := 5, ground := Go.Ground.guard }], guard := some (5, false) }) (v := undef) rfl (by kernel_rfl) (by kernel_rfl) (by kernel_rfl) (fun _ _ _ h => h) (Or.inr ⟨by rfl, rfl⟩) hHeld ?_
      simp only [Act.put, List.setIfInBounds_toArray, List.set_cons_zero, List.set_cons_succ]
      refine wpAnyH_take (i := 7) (oi := { dst := some 24, op := Go.Op.load 35 (Go.Operand.tmp 23), type := 35, pos := "ref.go:50", after := #[{ on := 6, ground := Go.Ground.data }, { on := 5, ground := Go.Ground.guard }], guard := some (5, false) }) (v := undef) rfl (by kernel_rfl) (by kernel_rfl) (by kernel_rfl) (fun _ _ _ h => h) (Or.inr ⟨by rfl, rfl⟩) hHeld ?_
      simp only [Act.put, List.setIfInBounds_toArray, List.set_cons_zero, List.set_cons_succ]
      refine wpAnyH_take (i := 8) (oi := { dst := some 25, op := Go.Op.convert 35 9 (Go.Operand.tmp 24), type := 9, pos := "ref.go:50", after := #[{ on := 7, ground := Go.Ground.data }, { on := 5, ground := Go.Ground.guard }], guard := some (5, false) }) (v := undef) rfl (by kernel_rfl) (by kernel_rfl) (by kernel_rfl) (fun _ _ _ h => h) (Or.inr ⟨by rfl, rfl⟩) hHeld ?_
      simp only [Act.put, List.setIfInBounds_toArray, List.set_cons_zero, List.set_cons_succ]
      refine wpAnyH_take (i := 9) (oi := { dst := some 26, op := Go.Op.load 32 (Go.Operand.tmp 3), type := 32, pos := "ref.go:50", after := #[{ on := 5, ground := Go.Ground.guard }], guard := some (5, false) }) (v := undef) rfl (by kernel_rfl) (by kernel_rfl) (by kernel_rfl) (fun _ _ _ h => h) (Or.inr ⟨by rfl, rfl⟩) hHeld ?_
      simp only [Act.put, List.setIfInBounds_toArray, List.set_cons_zero, List.set_cons_succ]
      refine wpAnyH_take (i := 10) (oi := { dst := some 27, op := Go.Op.call { callee := Go.Callee.value (Go.Operand.func 20), args := #[Go.Operand.tmp 26], argTypes := #[32] }, type := 35, pos := "ref.go:50", after := #[{ on := 9, ground := Go.Ground.data }, { on := 5, ground := Go.Ground.chain }, { on := 5, ground := Go.Ground.guard }], guard := some (5, false) }) (v := undef) rfl (by kernel_rfl) (by kernel_rfl) (by kernel_rfl) (fun _ _ _ h => h) (Or.inr ⟨by rfl, rfl⟩) hHeld ?_
      simp only [Act.put, List.setIfInBounds_toArray, List.set_cons_zero, List.set_cons_succ]
      refine wpAnyH_take (i := 11) (oi := { dst := some 28, op := Go.Op.convert 35 9 (Go.Operand.tmp 27), type := 9, pos := "ref.go:50", after := #[{ on := 10, ground := Go.Ground.data }, { on := 5, ground := Go.Ground.guard }], guard := some (5, false) }) (v := undef) rfl (by kernel_rfl) (by kernel_rfl) (by kernel_rfl) (fun _ _ _ h => h) (Or.inr ⟨by rfl, rfl⟩) hHeld ?_
      simp only [Act.put, List.setIfInBounds_toArray, List.set_cons_zero, List.set_cons_succ]
      refine wpAnyH_take (i := 12) (oi := { dst := some 29, op := Go.Op.binOp Go.BinOp.neq 9 (Go.Operand.tmp 25) (Go.Operand.tmp 28) 9, type := 4, pos := "ref.go:50", after := #[{ on := 8, ground := Go.Ground.data }, { on := 11, ground := Go.Ground.data }, { on := 5, ground := Go.Ground.guard }], guard := some (5, false) }) (v := undef) rfl (by kernel_rfl) (by kernel_rfl) (by kernel_rfl) (fun _ _ _ h => h) (Or.inr ⟨by rfl, rfl⟩) hHeld ?_
      simp only [Act.put, List.setIfInBounds_toArray, List.set_cons_zero, List.set_cons_succ]
      refine wpAnyH_take (i := 13) (oi := { dst := some 30, op := Go.Op.pick (Go.Operand.tmp 22) (Go.Operand.const (Go.Value.bool true)) (Go.Operand.tmp 29), type := 4, pos := "ref.go:50", after := #[{ on := 5, ground := Go.Ground.data }, { on := 12, ground := Go.Ground.data }], guard := none }) (v := ?_) rfl (by kernel_rfl) (by kernel_rfl) (by kernel_rfl) (fun _ _ _ h => h) (Or.inl ⟨by rfl, ?_⟩) hHeld ?_
      rotate_left 1
      · (intro w hSw; (try dsimp only at hSw); go_simp <;> with_reducible rfl)
      simp only [Act.put, List.setIfInBounds_toArray, List.set_cons_zero, List.set_cons_succ]
      refine wpAnyH_done (by kernel_rfl) ?_ _
      go_wp2_with fail
      exact HQ2.out d rfl (by rw [HKe.out]; rfl) _ HB.out.drew
end Go.Proofs.Ytlcgjehepalmcaa
namespace Go.Proofs.Ytlcgjehepalmcaa
open Go.ChangeShapes Go.WideShapes Go.ChangeAt Go.RowKit
theorem appM {lo k m so sb sc size bytes : Nat} {W : World} {u z : Value} {cells news : List Value} {t e : TypeId} {i0 : TypeInfo} (ht : Try.prog.underlying t = some (.slice e)) (hi : Try.prog.info? e = some i0) (hz0 : i0.zero = some z) (hz1 : i0.size = size) (hz2 : i0.bytes = bytes) (hzc : z.cells.size = size) (hsz : 0 < size) (hown : W.ownsRow lo e size u k cells) (hm : 0 < m) (hl : news.length = m * size) (hnews : ∀ j z, news[j]? = some z → W.cell? ((⟨sb, so, none⟩ : Addr).add j) = some z) (hs1 : ∀ z ∈ news, z.oneCell' = true) (hk : k + m ≤ 4611686018427387904) (hby : (k + m) * bytes ≤ 140737488355328) (hB : lo ≤ W.heap.size) :
    ∃ u' w', (∀ ty, (Builtin.append_ #[t, t] ty #[u, .slice (some ⟨sb, so, none⟩) m sc]).run Try.prog W = .ok u' w') ∧ w'.ownsRow lo e size u' (k + m) (cells ++ news) ∧ Below lo W w' ∧ (∀ B, B < W.heap.size → u.ownBlock ≠ some B → w'.heap[B]? = W.heap[B]?) ∧ (u'.ownBlock = u.ownBlock ∨ u'.ownBlock = some W.heap.size) := by
  have hb1 := hby
  have key : ∀ ty, ∃ v' w', (Builtin.append_ #[t, t] ty #[u, .slice (some ⟨sb, so, none⟩) m sc]).run Try.prog W = .ok v' w' ∧ w'.ownsRow lo e size v' (k + m) (cells ++ news) ∧ W.grownBy w' u.ownBlock ∧ _ := fun ty =>
    run_append_own (P := Try.prog) (w := W) lo t ty e i0 z size bytes ht hi hz0 hz1 hz2 hzc hsz u k cells hown ⟨sb, so, none⟩ m sc news hl hnews hs1 (by unfold maxLen; omega) hby hB
  obtain ⟨u', w', hr, hown', hgrow, _⟩ := key t
  have hblk : u'.ownBlock = u.ownBlock ∨ u'.ownBlock = some W.heap.size := by
    have hown2 := hown
    obtain ⟨hcl, ⟨rfl, hn0⟩ | ⟨g, cap, cur, rfl, _, hg, hle, _, hcs, _⟩⟩ := hown2
    · have h2 := run_append_nil (P := Try.prog) W t t e i0 z ht hi hz0 ⟨sb, so, none⟩ m sc news (by rw [hz1]; exact hl) hnews (by omega) (by omega) (by rw [hz2]; have := Nat.mul_le_mul_right bytes (Nat.le_add_left m k); omega)
      have e := hr.symm.trans h2
      cases e
      exact .inr rfl
    · by_cases hroom : k + m ≤ cap
      · have hmul : (k + m) * size ≤ cap * size := Nat.mul_le_mul_right _ hroom
        have h2 := run_append_room (P := Try.prog) W t t e i0 ht hi g k cap cur hg ⟨sb, so, none⟩ m sc news (by rw [hz1]; exact hl) hnews hs1 hroom (by rw [hz1, hcs, hl]; rw [Nat.add_mul] at hmul; exact hmul)
        have e := hr.symm.trans h2
        cases e
        exact .inl rfl
      · have holds : ∀ j z, cells[j]? = some z → W.cell? ((⟨g, 0, none⟩ : Addr).add j) = some z := hown.cells (g := g) rfl
        have h2 := run_append_grow (P := Try.prog) W t t e i0 z ht hi hz0 ⟨g, 0, none⟩ k cap cells (by rw [hz1]; exact hcl) holds ⟨sb, so, none⟩ m sc news (by rw [hz1]; exact hl) hnews (by omega) (by omega) (growslice_fits (by omega) (by rw [hz2]; exact hby))
        have e := hr.symm.trans h2
        cases e
        exact .inr rfl
  exact ⟨u', w', fun ty => hr, hown', (Below.refl _ W).grown hgrow hB (fun k hk2 => (World.ownsRow.lt hown k hk2).1), fun B hB2 hne => hgrow.block B hB2 (fun e => hne e.symm), hblk⟩
/-- Rows of entries are a table. -/
theorem tb_rows {lo : Nat} {w : World} {u : Value} {xs : List Dn} {cells : List Value} {P : Nat → Prop} (ho : w.ownsRow lo 37 4 u xs.length cells) (hc : ∀ (i : Nat) x, xs[i]? = some x → ∃ cs : List Value, cs.length = 4 ∧ (∀ k c, cs[k]? = some c → cells[i * 4 + k]? = some c) ∧ QD P w cs x) :
    ∃ a c, u = .slice a xs.length c ∧ Tb w a xs := by
  have ho2 := ho
  obtain ⟨_, ⟨rfl, h2⟩ | ⟨g, cap, cur, rfl, hB, hg, _⟩⟩ := ho
  · have e : xs = [] := List.eq_nil_of_length_eq_zero h2
    subst e
    exact ⟨none, 0, rfl, Tb.nil _ _⟩
  · refine ⟨_, cap, rfl, fun i d hd => ?_⟩
    have hlt : i < xs.length := (List.getElem?_eq_some_iff.1 hd).1
    obtain ⟨cs, h0, h1, p, c', rfl, hh⟩ := hc i d hd
    have f : ∀ r x, r < 4 → [.string d.s, .int .i64 d.k, .slice p d.y.length c', .int .i64 d.r][r]? = some x → w.cell? ⟨g, 0 + i * 4 + r, none⟩ = some x := fun r x hr hx => by rw [Nat.zero_add, World.ownsRow.cellAt ho2 (i * 4 + r) (by omega), h1 r x hx]
    exact ⟨g, 0, p, c', rfl, ⟨f 0 _ (by omega) rfl, f 1 _ (by omega) rfl, f 2 _ (by omega) rfl, f 3 _ (by omega) rfl⟩, hh.1⟩
/-- What the two appends at the end of the reference's Add come to, k being where the new one goes, rest what stood from there on. -/
def AppZ (lo : Nat) (W : World) (u rest : Value) (ds : List Dn) (k : Nat) (r : Rq) (run : Int) : Prop :=
  ∀ (w6 : World) (pk : Option Addr) (ck : Nat), Below W.heap.size W w6 → HN W.heap.size w6 (.slice pk (keyB r).length ck) (keyB r) →
    ∃ v7 w7 v8 w8, (∀ ty, (Builtin.append_ #[22, 22] ty #[u, .slice (some ⟨w6.heap.size, 0, none⟩) 1 1]).run Try.prog (w6.alloc (.cells #[.string r.req, .int .i64 r.kind, .slice pk (keyB r).length ck, .int .i64 run] 37)) = .ok v7 w7) ∧ (∀ ty, (Builtin.append_ #[22, 22] ty #[v7, rest]).run Try.prog w7 = .ok v8 w8) ∧
      (∃ a8 c8, v8 = .slice a8 (ds.length + 1) c8 ∧ Tb w8 a8 (insD ds k ⟨r.req, r.kind, keyB r, run⟩)) ∧ Below lo w6 w8 ∧ Below lo w6 w7
theorem info37p : ∃ i0 : TypeInfo, Try.prog.info? 37 = some i0 ∧ i0.zero = some (.agg #[.string ⟨#[]⟩, .int .i64 0, .slice none 0 0, .int .i64 0]) ∧ i0.size = 4 ∧ i0.bytes = 56 := by
  obtain ⟨i0, h1, h2, h3, h4⟩ := info_parts info37
  exact ⟨i0, h1, h2, h3, h4⟩
/-- append of nothing. -/
theorem app_none (v : Value) (n c : Nat) (a : Option Addr) (q : Option Addr) (d : Nat) (hle : n ≤ c) (hv : v = .slice a n c) (w : World) : ∀ ty, (Builtin.append_ #[22, 22] ty #[v, .slice q 0 d]).run Try.prog w = .ok v w := by
  intro ty
  subst hv
  obtain ⟨i0, hi, _, _, _⟩ := info37p
  cases q <;> cases a <;> simp [Builtin.append_, run_underlying Try.underlying22, sizeOf, typeInfo, hi, Builtin.lenOf, Builtin.firstCells, loadCells, loadCellsFrom, hle, storeCells]
/-- The new one at the end. -/
theorem appZ_end {lo : Nat} {W : World} {u : Value} {ds : List Dn} {r : Rq} {run : Int} (hG : Gr4 lo W u ds) (hn : ds.length ≤ 500) (hlo : lo ≤ W.heap.size) : AppZ lo W u (.slice none 0 0) ds ds.length r run := by
  intro w6 pk ck hb hk
  have hown : ∀ B, u.ownBlock = some B → B < W.heap.size := fun B hB => by
    obtain ⟨cells, ho, _⟩ := hG
    exact (World.ownsRow.lt ho B hB).2
  have b7 := bel1 w6 (.cells #[.string r.req, .int .i64 r.kind, .slice pk (keyB r).length ck, .int .i64 run] 37)
  obtain ⟨ra, rc, w7, hrun, hg, hb7, _⟩ := ((hG.below hb).below b7).app (src := w6.heap.size) (x := ⟨r.req, r.kind, keyB r, run⟩) (d4_new w6 _ _ _ _) (d4_one _ _ _ _ _ _) rfl ⟨pk, ck, rfl, (hk.below b7).hp (fun B h1 _ => ⟨by omega, fun e => by have := hown B e; omega⟩)⟩ (by have := hb.size; have := b7.size; omega) (by omega)
  have hb8 : Below lo w6 w7 := (b7.mono (by have := hb.size; omega)).trans hb7
  obtain ⟨cells, ho, hc⟩ := hg
  have ho2 := ho
  obtain ⟨_, ⟨_, h0⟩ | ⟨g, cap, cur, hu, _, _, hle, _⟩⟩ := ho2
  · simp at h0
  · rw [List.length_append] at hle
    obtain ⟨_, _, hcap⟩ := Value.slice.inj hu
    refine ⟨_, w7, _, w7, hrun, app_none _ _ _ _ _ _ (by rw [hcap]; exact hle) rfl w7, ?_, hb8, hb8⟩
    obtain ⟨a8, c8, e8, t8⟩ := tb_rows ho hc
    rw [List.length_append] at e8
    refine ⟨a8, c8, e8, ?_⟩
    unfold insD
    rw [List.take_length, List.drop_length]
    exact t8
/-- The new one ahead of others. -/
theorem appZ_mid {lo : Nat} {W0 W : World} {g n cap k gr rc : Nat} {cur : Array Value} {cells : List Value} {ds : List Dn} {r : Rq} {run : Int} (hn : ds.length = n) (hn5 : n ≤ 500) (hk : k < n) (hlo : lo ≤ g)
    (hcl : cells.length = n * 4) (hg : W.heap[g]? = some (.cells cur 37 (0, 0))) (hle : n ≤ cap) (hm : cap ≤ maxLen) (hsz : cur.size = cap * 4) (htk : cur.toList.take (n * 4) = cells)
    (hgW : g < W0.heap.size) (hb0 : Below W0.heap.size W0 W) (hgr : W0.heap.size ≤ gr) (hgrl : gr < W.heap.size) (hrest : ∀ (j : Nat) z, (cells.drop (k * 4))[j]? = some z → W.cell? ⟨gr, j, none⟩ = some z)
    (hc : ∀ (i : Nat) x, ds[i]? = some x → ∃ cs : List Value, cs.length = 4 ∧ (∀ k c, cs[k]? = some c → cells[i * 4 + k]? = some c) ∧ QD (fun B => B < W0.heap.size ∧ B ≠ g) W cs x) :
    AppZ lo W (.slice (some ⟨g, 0, none⟩) k cap) (.slice (some ⟨gr, 0, none⟩) (n - k) rc) ds k r run := by
  intro w6 pk ck hb hkey
  obtain ⟨i0, hi, hz0, hz1, hz2⟩ := info37p
  have h1c : ∀ z ∈ cells, z.oneCell' = true := cells_one (lo := 0) (u := .slice none 0 0) (w := W) (by rw [hcl, hn]) (fun i x hx => by
    obtain ⟨cs, a, b, q⟩ := hc i x hx
    exact ⟨cs, a, b, q.keep (fun B q c hB hce => ⟨rfl, Nat.zero_le _, fun e => by cases e⟩)⟩)
  have b7 := bel1 w6 (.cells #[.string r.req, .int .i64 r.kind, .slice pk (keyB r).length ck, .int .i64 run] 37)
  have hgl := lt_of_row hg
  have hs6 := hb.size
  have hg6 := row_below b7 (row_below hb hg)
  have l1 : (cells.take (k * 4)).length = k * 4 := by rw [List.length_take]; omega
  have ho : (w6.alloc (.cells #[.string r.req, .int .i64 r.kind, .slice pk (keyB r).length ck, .int .i64 run] 37)).ownsRow lo 37 4 (.slice (some ⟨g, 0, none⟩) k cap) k (cells.take (k * 4)) :=
    ⟨l1, .inr ⟨g, cap, cur, rfl, hlo, hg6, by omega, hm, hsz, by rw [← htk, List.take_take]; congr 1; omega⟩⟩
  have hs7 : (w6.alloc (.cells #[.string r.req, .int .i64 r.kind, .slice pk (keyB r).length ck, .int .i64 run] 37)).heap.size = w6.heap.size + 1 := by simp
  obtain ⟨v7, w7, hr1, ho7, hb7, hk7, hbl7⟩ := app2 (lo := lo) (src := w6.heap.size) (k := k) (t := 22) (news := [.string r.req, .int .i64 r.kind, .slice pk (keyB r).length ck, .int .i64 run]) Try.underlying22 hi hz0 hz1 hz2 rfl (by decide) ho rfl (d4_new w6 _ _ _ _) (d4_one _ _ _ _ _ _) (by omega) (by omega) (by omega)
  have hgrn : ∀ B, v7.ownBlock = some B → B = g ∨ B = w6.heap.size + 1 := fun B hB => by
    rcases hbl7 with e | e
    · rw [e] at hB; simp only [Value.ownBlock, Option.some.injEq] at hB; exact .inl hB.symm
    · rw [e, hs7] at hB; simp only [Option.some.injEq] at hB; exact .inr hB.symm
  have keep7 : ∀ B, B < w6.heap.size → B ≠ g → w7.heap[B]? = w6.heap[B]? := fun B hB hne => by
    rw [hk7 B (by omega) (fun e => by simp only [Value.ownBlock, Option.some.injEq] at e; exact hne e.symm)]
    exact b7.block B hB
  have hgg : gr ≠ g := by omega
  have hrest7 : ∀ (j : Nat) z, (cells.drop (k * 4))[j]? = some z → w7.cell? ((⟨gr, 0, none⟩ : Addr).add j) = some z := fun j z hz => by
    rw [add_plain, Nat.zero_add, World.cell?_of_block (keep7 gr (by omega) hgg)]
    exact cell_below (hrest j z hz) hb
  have l2 : (cells.drop (k * 4)).length = (n - k) * 4 := by rw [List.length_drop, hcl]; omega
  obtain ⟨v8, w8, hr2, ho8, hb8, hk8, _⟩ := appM (lo := lo) (sb := gr) (so := 0) (sc := rc) (k := k + 1) (m := n - k) (t := 22) (news := cells.drop (k * 4)) Try.underlying22 hi hz0 hz1 hz2 rfl (by decide) ho7 (by omega) l2 hrest7 (fun z hz => h1c z (List.mem_of_mem_drop hz)) (by omega) (by omega) (by have := hb7.size; omega)
  have keep8 : ∀ B, B < w6.heap.size → B ≠ g → w8.heap[B]? = w6.heap[B]? := fun B hB hne => by
    have hs := hb7.size
    rw [hk8 B (by omega) (fun e => by rcases hgrn B e with e2 | e2 <;> omega)]
    exact keep7 B hB hne
  have hB7 : Below lo w6 w7 := (b7.mono (by omega)).trans hb7
  have hB8 : Below lo w6 w8 := hB7.trans hb8
  refine ⟨v7, w7, v8, w8, hr1, hr2, ?_, hB8, hB7⟩
  have hcells : cells.take (k * 4) ++ [.string r.req, .int .i64 r.kind, .slice pk (keyB r).length ck, .int .i64 run] ++ cells.drop (k * 4) = cells.take (k * 4) ++ ([.string r.req, .int .i64 r.kind, .slice pk (keyB r).length ck, .int .i64 run] ++ cells.drop (k * 4)) := List.append_assoc _ _ _
  rw [hcells] at ho8
  have hl8 : (insD ds k ⟨r.req, r.kind, keyB r, run⟩).length = k + 1 + (n - k) := by rw [insD_len (by omega)]; omega
  rw [← hl8] at ho8
  obtain ⟨a8, c8, e8, t8⟩ := tb_rows (P := fun _ => True) ho8 (rows_ins (Q := QD (fun B => B < W0.heap.size ∧ B ≠ g) W) (by omega) (by rw [hcl, hn]) rfl hc
    (fun cs y hq => hq.keep (fun B q c hB hce => ⟨(keep8 B (by have := hb0.size; omega) hB.2).trans (hb.block B (World.block_lt_of_cell? W ⟨B, q, none⟩ hce)), trivial⟩))
    ⟨pk, ck, rfl, HP.keep (P := fun B => B < w6.heap.size ∧ B ≠ g) (fun B q c hB _ => ⟨keep8 B hB.1 hB.2, trivial⟩) (hkey.hp (fun B h1 h2 => ⟨h2, by omega⟩))⟩)
  rw [insD_len (by omega)] at e8
  exact ⟨a8, c8, e8, t8⟩
end Go.Proofs.Ytlcgjehepalmcaa
namespace Go.Proofs.Ytlcgjehepalmcaa
open Go.ChangeShapes Go.WideShapes Go.ChangeAt Go.RowKit
theorem rb_ky {w w' : World} {l : List UInt8} {e : Ending} (h : RB w l e w') : KyP w l e w' := by
  obtain ⟨v, h1, h2, h3⟩ := h
  exact ⟨v, h1, h2.hn, h3⟩
set_option maxHeartbeats 4000000 in
set_option maxRecDepth 100000 in
theorem rkeyN_calls (n : Nat) (cs : Array Value) (r : Rq) (w : World) (h : IsR w n cs r) : Calls Try.prog 20 #[.agg cs] w (KyP w (keyB r)) := by
  obtain ⟨t, ⟨vk, vx, vb, vs, va, vm, vc, g4, g5, g6, g7, g8, hi⟩, hpt⟩ := h.v
  have V0 : Hid (cs[4]? = some (.int .i64 vk)) := g4
  have V1 : Hid (cs[5]? = some (.int .i64 vx)) := g5
  have V2 : Hid (cs[6]? = some (.int .u64 vb)) := g6
  have V3 : Hid (cs[7]? = some (.string vs)) := g7
  have V4 : Hid (cs[8]? = some (.slice va vm vc)) := g8
  have hl1 : (be (tn r.kind) 8).length = 8 := be_len8 _
  have hen := enc_length r.name.size (by have := h.wq; omega)
  have hnl := data_len r.name
  have hwq := h.wq
  have hpl := hpt.len
  have hl2 : (be (tn r.kind) 8 ++ enc r.name.size ++ r.name.data.toList).length ≤ 140737488351249 := by simp only [List.length_append, hl1, hnl]; omega
  have hl3 : ((be (tn r.kind) 8 ++ enc r.name.size ++ r.name.data.toList) ++ r.pb).length ≤ 140737488352249 := by rw [List.length_append]; omega
  have hl4 : (((be (tn r.kind) 8 ++ enc r.name.size ++ r.name.data.toList) ++ r.pb) ++ be (tn r.num) 8).length ≤ 140737488352257 := by rw [List.length_append, be_len8]; omega
  have hl5 : ((((be (tn r.kind) 8 ++ enc r.name.size ++ r.name.data.toList) ++ r.pb) ++ be (tn r.num) 8) ++ be (tn r.first) 8).length ≤ 140737488352265 := by rw [List.length_append, be_len8]; omega
  have hl6 : (((((be (tn r.kind) 8 ++ enc r.name.size ++ r.name.data.toList) ++ r.pb) ++ be (tn r.num) 8) ++ be (tn r.first) 8) ++ be r.coef 8).length ≤ 140737488352273 := by rw [List.length_append, be_len8]; omega
  have K0 : Hid (∀ W v, Below w.heap.size w W → Lib.HoldsBytes W v ([]) → Calls Try.prog 36 #[v, .int .i64 r.kind] W (HpP W (be (tn r.kind) 8))) := fun W v hB hv => (refInt_all v [] r.kind h.wk W hv (by simp)).mono fun _ _ h => rb_hp h
  have K1 : Hid (∀ W v, Below w.heap.size w W → Lib.HoldsBytes W v (be (tn r.kind) 8) → Calls Try.prog 35 #[v, .string r.name] W (HpP W (be (tn r.kind) 8 ++ enc r.name.size ++ r.name.data.toList))) := fun W v hB hv => (refText_big v _ r.name W hv (by omega) h.wq).mono fun _ _ h => rb_hp h
  have K2 : Hid (∀ W v, Below w.heap.size w W → Lib.HoldsBytes W v (be (tn r.kind) 8 ++ enc r.name.size ++ r.name.data.toList) → Calls Try.prog 37 #[v, .agg #[.int .i64 vk, .int .i64 vx, .int .u64 vb, .string vs, .slice va vm vc]] W (HpP W ((be (tn r.kind) 8 ++ enc r.name.size ++ r.name.data.toList) ++ r.pb))) := fun W v hB hv => (rput_calls n _ t v _ W (hi.below hB) hv (by omega)).mono fun e w' ⟨v', h1, h2, h3, h4⟩ => ⟨v', h1, by
    by_cases hs : ShapeT n 4 t ∧ (bytesT n t).length ≤ 1000
    · rw [hpt.1 hs]; exact h2 hs
    · rw [hpt.2 hs, List.append_nil]; exact h3 hs, h4⟩
  have K3 : Hid (∀ W v, Below w.heap.size w W → Lib.HoldsBytes W v ((be (tn r.kind) 8 ++ enc r.name.size ++ r.name.data.toList) ++ r.pb) → Calls Try.prog 36 #[v, .int .i64 r.num] W (HpP W (((be (tn r.kind) 8 ++ enc r.name.size ++ r.name.data.toList) ++ r.pb) ++ be (tn r.num) 8))) := fun W v hB hv => (refInt_all v _ r.num h.wn W hv (by omega)).mono fun _ _ h => rb_hp h
  have K4 : Hid (∀ W v, Below w.heap.size w W → Lib.HoldsBytes W v (((be (tn r.kind) 8 ++ enc r.name.size ++ r.name.data.toList) ++ r.pb) ++ be (tn r.num) 8) → Calls Try.prog 36 #[v, .int .i64 r.first] W (HpP W ((((be (tn r.kind) 8 ++ enc r.name.size ++ r.name.data.toList) ++ r.pb) ++ be (tn r.num) 8) ++ be (tn r.first) 8))) := fun W v hB hv => (refInt_all v _ r.first h.wf W hv (by omega)).mono fun _ _ h => rb_hp h
  have K5 : Hid (∀ W v, Below w.heap.size w W → Lib.HoldsBytes W v ((((be (tn r.kind) 8 ++ enc r.name.size ++ r.name.data.toList) ++ r.pb) ++ be (tn r.num) 8) ++ be (tn r.first) 8) → Calls Try.prog 38 #[v, .int .u64 (r.coef : Int)] W (HpP W (((((be (tn r.kind) 8 ++ enc r.name.size ++ r.name.data.toList) ++ r.pb) ++ be (tn r.num) 8) ++ be (tn r.first) 8) ++ be r.coef 8))) := fun W v hB hv => (refBits_all v _ r.coef h.wc W hv (by omega)).mono fun _ _ h => rb_hp h
  have K6 : Hid (∀ W v, Below w.heap.size w W → Lib.HoldsBytes W v (((((be (tn r.kind) 8 ++ enc r.name.size ++ r.name.data.toList) ++ r.pb) ++ be (tn r.num) 8) ++ be (tn r.first) 8) ++ be r.coef 8) → Calls Try.prog 36 #[v, .int .i64 r.most] W (KyP W ((((((be (tn r.kind) 8 ++ enc r.name.size ++ r.name.data.toList) ++ r.pb) ++ be (tn r.num) 8) ++ be (tn r.first) 8) ++ be r.coef 8) ++ be (tn r.most) 8))) := fun W v hB hv => (refInt_all v _ r.most h.wm W hv (by omega)).mono fun _ _ h => rb_ky h
  have c0 := h.c0
  have c3 := h.c3
  have c10 := h.c10
  have c12 := h.c12
  have c13 := h.c13
  have c14 := h.c14
  have HQ : Hid (∀ v w', HN w.heap.size w' v ((((((be (tn r.kind) 8 ++ enc r.name.size ++ r.name.data.toList) ++ r.pb) ++ be (tn r.num) 8) ++ be (tn r.first) 8) ++ be r.coef 8) ++ be (tn r.most) 8) → Below w.heap.size w w' → KyP w (keyB r) (.returned v) w') := fun v w' h1 h2 => ⟨v, rfl, by
    have e : keyB r = (((((be (tn r.kind) 8 ++ enc r.name.size ++ r.name.data.toList) ++ r.pb) ++ be (tn r.num) 8) ++ be (tn r.first) 8) ++ be r.coef 8) ++ be (tn r.most) 8 := by simp [keyB, keyP]
    rw [e]
    exact h1, h2⟩
  generalize KyP w (keyB r) = Q at HQ ⊢
  clear h hi hpt hl1 hen hnl hwq hpl hl2 hl3 hl4 hl5 hl6
  generalize (((((be (tn r.kind) 8 ++ enc r.name.size ++ r.name.data.toList) ++ r.pb) ++ be (tn r.num) 8) ++ be (tn r.first) 8) ++ be r.coef 8) ++ be (tn r.most) 8 = L7 at K6 HQ
  generalize ((((be (tn r.kind) 8 ++ enc r.name.size ++ r.name.data.toList) ++ r.pb) ++ be (tn r.num) 8) ++ be (tn r.first) 8) ++ be r.coef 8 = L6 at K6 K5
  generalize (((be (tn r.kind) 8 ++ enc r.name.size ++ r.name.data.toList) ++ r.pb) ++ be (tn r.num) 8) ++ be (tn r.first) 8 = L5 at K5 K4
  generalize ((be (tn r.kind) 8 ++ enc r.name.size ++ r.name.data.toList) ++ r.pb) ++ be (tn r.num) 8 = L4 at K4 K3
  generalize (be (tn r.kind) 8 ++ enc r.name.size ++ r.name.data.toList) ++ r.pb = L3 at K3 K2
  generalize be (tn r.kind) 8 ++ enc r.name.size ++ r.name.data.toList = L2 at K2 K1
  generalize be (tn r.kind) 8 = L1 at K1 K0
  have HG0 : Hid ((w.alloc (.cells cs 32)).heap[w.heap.size]? = some (.cells cs 32 (0, 0))) := heap_alloc_last w _
  have HB0 : Hid (Below w.heap.size w (w.alloc (.cells cs 32))) := bel1 _ _
  have P0 : Hid (Lib.HoldsBytes (w.alloc (.cells cs 32)) (.slice none 0 0) []) := holds_nil _
  go_enter Try.func20, Try.ntmps20
  go_upto_region 1 with fail
  change Code.wp _ _ _ _ (w.alloc (.cells cs 32))
  generalize w.alloc (.cells cs 32) = W0 at HG0 HB0 P0 ⊢
  refine wp_region_held_drew (S := (fun w' => (∀ j, w'.cell? ⟨w.heap.size, j, none⟩ = cs[j]?) ∧ w'.rangeAt w.heap.size 4 [.int .i64 vk, .int .i64 vx, .int .u64 vb, .string vs, .slice va vm vc])) (by kernel_rfl) ⟨fun j => cell_of_row _ _ j cs 32 (0, 0) HG0.out, range4 HG0.out V0.out V1.out V2.out V3.out V4.out⟩ (fun hHeld => ?_)
  change wpAnyH _ _ _ _ _ _ _ _ (World.drew _)
  refine wpAnyH_take (i := 0) (oi := { dst := some 4, op := Go.Op.fieldAddr 32 (Go.Operand.tmp 1) 0, type := 0, pos := "ref.go:13", after := #[], guard := none }) (v := ?_) rfl (by kernel_rfl) (by kernel_rfl) (by kernel_rfl) (fun _ _ _ h => h) (Or.inl ⟨by rfl, ?_⟩) hHeld ?_
  rotate_left 1
  · (intro w hSw; (try dsimp only at hSw); go_simp <;> with_reducible rfl)
  simp only [Act.put, List.setIfInBounds_toArray, List.set_cons_zero, List.set_cons_succ]
  refine wpAnyH_take (i := 1) (oi := { dst := some 5, op := Go.Op.load 3 (Go.Operand.tmp 4), type := 3, pos := "ref.go:13", after := #[{ on := 0, ground := Go.Ground.data }], guard := none }) (v := ?_) rfl (by kernel_rfl) (by kernel_rfl) (by kernel_rfl) (fun _ _ _ h => h) (Or.inl ⟨by rfl, ?_⟩) hHeld ?_
  rotate_left 1
  · (intro w hSw; (try dsimp only at hSw); go_simp <;> with_reducible rfl)
  simp only [Act.put, List.setIfInBounds_toArray, List.set_cons_zero, List.set_cons_succ]
  refine wpAnyH_take (i := 3) (oi := { dst := some 7, op := Go.Op.fieldAddr 32 (Go.Operand.tmp 1) 3, type := 0, pos := "ref.go:13", after := #[], guard := none }) (v := ?_) rfl (by kernel_rfl) (by kernel_rfl) (by kernel_rfl) (fun _ _ _ h => h) (Or.inl ⟨by rfl, ?_⟩) hHeld ?_
  rotate_left 1
  · (intro w hSw; (try dsimp only at hSw); go_simp <;> with_reducible rfl)
  simp only [Act.put, List.setIfInBounds_toArray, List.set_cons_zero, List.set_cons_succ]
  refine wpAnyH_take (i := 4) (oi := { dst := some 8, op := Go.Op.load 9 (Go.Operand.tmp 7), type := 9, pos := "ref.go:13", after := #[{ on := 3, ground := Go.Ground.data }], guard := none }) (v := ?_) rfl (by kernel_rfl) (by kernel_rfl) (by kernel_rfl) (fun _ _ _ h => h) (Or.inl ⟨by rfl, ?_⟩) hHeld ?_
  rotate_left 1
  · (intro w hSw; (try dsimp only at hSw); go_simp <;> with_reducible rfl)
  simp only [Act.put, List.setIfInBounds_toArray, List.set_cons_zero, List.set_cons_succ]
  refine wpAnyH_ready (rs := [2]) (by kernel_rfl) (by simp) ?_
  refine AllReadyH.cons (o := { dst := some 6, op := Go.Op.call { callee := Go.Callee.value (Go.Operand.func 36), args := #[Go.Operand.const (Go.Value.slice none 0 0), Go.Operand.tmp 5], argTypes := #[35, 3] }, type := 35, pos := "ref.go:13", after := #[{ on := 1, ground := Go.Ground.data }], guard := none }) rfl (fun K hK => ?_) AllReadyH.nil
  go_simp
  refine Calls.mono (K0.out _ _ HB0.out.drew (holds_below P0.out (Below.refl _ _).drew)) ?_
  rintro e w1 ⟨v1, rfl, hh, hb⟩
  have HB1 : Hid (Below w.heap.size w w1) := bel2 HB0.out.drew hb
  have HG1 : Hid (w1.heap[w.heap.size]? = some (.cells cs 32 (0, 0))) := row_below hb HG0.out
  have P1 : Hid (Lib.HoldsBytes w1 v1 L1) := hh
  clear hh hb
  refine hK.out _ _ ⟨fun j => cell_of_row _ _ j cs 32 (0, 0) HG1.out, range4 HG1.out V0.out V1.out V2.out V3.out V4.out⟩ (fun hHeld => ?_)
  clear hK K
  refine wpAnyH_ready (rs := [5]) (by kernel_rfl) (by simp) ?_
  refine AllReadyH.cons (o := { dst := some 9, op := Go.Op.call { callee := Go.Callee.value (Go.Operand.func 35), args := #[Go.Operand.tmp 6, Go.Operand.tmp 8], argTypes := #[35, 9] }, type := 35, pos := "ref.go:13", after := #[{ on := 2, ground := Go.Ground.data }, { on := 4, ground := Go.Ground.data }, { on := 2, ground := Go.Ground.chain }], guard := none }) rfl (fun K hK => ?_) AllReadyH.nil
  go_simp
  refine Calls.mono (K1.out _ _ HB1.out P1.out) ?_
  rintro e w2 ⟨v2, rfl, hh, hb⟩
  have HB2 : Hid (Below w.heap.size w w2) := bel2 HB1.out hb
  have HG2 : Hid (w2.heap[w.heap.size]? = some (.cells cs 32 (0, 0))) := row_below hb HG1.out
  have P2 : Hid (Lib.HoldsBytes w2 v2 L2) := hh
  clear hh hb
  refine hK.out _ _ ⟨fun j => cell_of_row _ _ j cs 32 (0, 0) HG2.out, range4 HG2.out V0.out V1.out V2.out V3.out V4.out⟩ (fun hHeld => ?_)
  clear hK K
  refine wpAnyH_take (i := 6) (oi := { dst := some 3, op := Go.Op.assign (Go.Operand.tmp 9), type := 35, pos := "ref.go:13", after := #[{ on := 5, ground := Go.Ground.data }, { on := 5, ground := Go.Ground.chain }, { on := 0, ground := Go.Ground.phase }, { on := 1, ground := Go.Ground.phase }, { on := 2, ground := Go.Ground.phase }, { on := 3, ground := Go.Ground.phase }, { on := 4, ground := Go.Ground.phase }, { on := 5, ground := Go.Ground.phase }], guard := none }) (v := ?_) rfl (by kernel_rfl) (by kernel_rfl) (by kernel_rfl) (fun _ _ _ h => h) (Or.inl ⟨by rfl, ?_⟩) hHeld ?_
  rotate_left 1
  · (intro w hSw; (try dsimp only at hSw); go_simp <;> with_reducible rfl)
  simp only [Act.put, List.setIfInBounds_toArray, List.set_cons_zero, List.set_cons_succ]
  refine wpAnyH_done (by kernel_rfl) ?_ _
  go_upto_region 2 with fail
  refine wp_region_held_drew (S := (fun w' => (∀ j, w'.cell? ⟨w.heap.size, j, none⟩ = cs[j]?) ∧ w'.rangeAt w.heap.size 4 [.int .i64 vk, .int .i64 vx, .int .u64 vb, .string vs, .slice va vm vc])) (by kernel_rfl) ⟨fun j => cell_of_row _ _ j cs 32 (0, 0) HG2.out, range4 HG2.out V0.out V1.out V2.out V3.out V4.out⟩ (fun hHeld => ?_)
  change wpAnyH _ _ _ _ _ _ _ _ (World.drew _)
  refine wpAnyH_take (i := 0) (oi := { dst := some 10, op := Go.Op.move (Go.Operand.tmp 3), type := 35, pos := "ref.go:14", after := #[], guard := none }) (v := ?_) rfl (by kernel_rfl) (by kernel_rfl) (by kernel_rfl) (fun _ _ _ h => h) (Or.inl ⟨by rfl, ?_⟩) hHeld ?_
  rotate_left 1
  · (intro w hSw; (try dsimp only at hSw); go_simp <;> with_reducible rfl)
  simp only [Act.put, List.setIfInBounds_toArray, List.set_cons_zero, List.set_cons_succ]
  refine wpAnyH_take (i := 1) (oi := { dst := some 11, op := Go.Op.fieldAddr 32 (Go.Operand.tmp 1) 4, type := 0, pos := "ref.go:14", after := #[], guard := none }) (v := ?_) rfl (by kernel_rfl) (by kernel_rfl) (by kernel_rfl) (fun _ _ _ h => h) (Or.inl ⟨by rfl, ?_⟩) hHeld ?_
  rotate_left 1
  · (intro w hSw; (try dsimp only at hSw); go_simp <;> with_reducible rfl)
  simp only [Act.put, List.setIfInBounds_toArray, List.set_cons_zero, List.set_cons_succ]
  refine wpAnyH_take (i := 2) (oi := { dst := some 12, op := Go.Op.load 26 (Go.Operand.tmp 11), type := 26, pos := "ref.go:14", after := #[{ on := 1, ground := Go.Ground.data }], guard := none }) (v := _) rfl (by kernel_rfl) (by kernel_rfl) (by kernel_rfl) (fun _ _ _ h => h) (yieldsIf_load_mid rfl 26 _ rfl w.heap.size 4 rfl [.int .i64 vk, .int .i64 vx, .int .u64 vb, .string vs, .slice va vm vc] _ (fun w h => h.2) Try.underlying26 rfl info26s) hHeld ?_
  simp only [Act.put, List.setIfInBounds_toArray, List.set_cons_zero, List.set_cons_succ]
  refine wpAnyH_take (i := 4) (oi := { dst := some 14, op := Go.Op.fieldAddr 32 (Go.Operand.tmp 1) 6, type := 0, pos := "ref.go:14", after := #[], guard := none }) (v := ?_) rfl (by kernel_rfl) (by kernel_rfl) (by kernel_rfl) (fun _ _ _ h => h) (Or.inl ⟨by rfl, ?_⟩) hHeld ?_
  rotate_left 1
  · (intro w hSw; (try dsimp only at hSw); go_simp <;> with_reducible rfl)
  simp only [Act.put, List.setIfInBounds_toArray, List.set_cons_zero, List.set_cons_succ]
  refine wpAnyH_take (i := 5) (oi := { dst := some 15, op := Go.Op.load 3 (Go.Operand.tmp 14), type := 3, pos := "ref.go:14", after := #[{ on := 4, ground := Go.Ground.data }], guard := none }) (v := ?_) rfl (by kernel_rfl) (by kernel_rfl) (by kernel_rfl) (fun _ _ _ h => h) (Or.inl ⟨by rfl, ?_⟩) hHeld ?_
  rotate_left 1
  · (intro w hSw; (try dsimp only at hSw); go_simp <;> with_reducible rfl)
  simp only [Act.put, List.setIfInBounds_toArray, List.set_cons_zero, List.set_cons_succ]
  refine wpAnyH_ready (rs := [3]) (by kernel_rfl) (by simp) ?_
  refine AllReadyH.cons (o := { dst := some 13, op := Go.Op.call { callee := Go.Callee.value (Go.Operand.func 37), args := #[Go.Operand.tmp 10, Go.Operand.tmp 12], argTypes := #[35, 26] }, type := 35, pos := "ref.go:14", after := #[{ on := 0, ground := Go.Ground.data }, { on := 2, ground := Go.Ground.data }], guard := none }) rfl (fun K hK => ?_) AllReadyH.nil
  go_simp
  refine Calls.mono (K2.out _ _ HB2.out.drew (holds_below P2.out (Below.refl _ _).drew)) ?_
  rintro e w3 ⟨v3, rfl, hh, hb⟩
  have HB3 : Hid (Below w.heap.size w w3) := bel2 HB2.out.drew hb
  have HG3 : Hid (w3.heap[w.heap.size]? = some (.cells cs 32 (0, 0))) := row_below hb HG2.out
  have P3 : Hid (Lib.HoldsBytes w3 v3 L3) := hh
  clear hh hb
  refine hK.out _ _ ⟨fun j => cell_of_row _ _ j cs 32 (0, 0) HG3.out, range4 HG3.out V0.out V1.out V2.out V3.out V4.out⟩ (fun hHeld => ?_)
  clear hK K
  refine wpAnyH_ready (rs := [6]) (by kernel_rfl) (by simp) ?_
  refine AllReadyH.cons (o := { dst := some 16, op := Go.Op.call { callee := Go.Callee.value (Go.Operand.func 36), args := #[Go.Operand.tmp 13, Go.Operand.tmp 15], argTypes := #[35, 3] }, type := 35, pos := "ref.go:14", after := #[{ on := 3, ground := Go.Ground.data }, { on := 5, ground := Go.Ground.data }, { on := 3, ground := Go.Ground.chain }], guard := none }) rfl (fun K hK => ?_) AllReadyH.nil
  go_simp
  refine Calls.mono (K3.out _ _ HB3.out P3.out) ?_
  rintro e w4 ⟨v4, rfl, hh, hb⟩
  have HB4 : Hid (Below w.heap.size w w4) := bel2 HB3.out hb
  have HG4 : Hid (w4.heap[w.heap.size]? = some (.cells cs 32 (0, 0))) := row_below hb HG3.out
  have P4 : Hid (Lib.HoldsBytes w4 v4 L4) := hh
  clear hh hb
  refine hK.out _ _ ⟨fun j => cell_of_row _ _ j cs 32 (0, 0) HG4.out, range4 HG4.out V0.out V1.out V2.out V3.out V4.out⟩ (fun hHeld => ?_)
  clear hK K
  refine wpAnyH_take (i := 7) (oi := { dst := some 3, op := Go.Op.assign (Go.Operand.tmp 16), type := 35, pos := "ref.go:14", after := #[{ on := 6, ground := Go.Ground.data }, { on := 6, ground := Go.Ground.chain }, { on := 0, ground := Go.Ground.phase }, { on := 1, ground := Go.Ground.phase }, { on := 2, ground := Go.Ground.phase }, { on := 3, ground := Go.Ground.phase }, { on := 4, ground := Go.Ground.phase }, { on := 5, ground := Go.Ground.phase }, { on := 6, ground := Go.Ground.phase }], guard := none }) (v := ?_) rfl (by kernel_rfl) (by kernel_rfl) (by kernel_rfl) (fun _ _ _ h => h) (Or.inl ⟨by rfl, ?_⟩) hHeld ?_
  rotate_left 1
  · (intro w hSw; (try dsimp only at hSw); go_simp <;> with_reducible rfl)
  simp only [Act.put, List.setIfInBounds_toArray, List.set_cons_zero, List.set_cons_succ]
  refine wpAnyH_done (by kernel_rfl) ?_ _
  go_upto_region 3 with fail
  refine wp_region_held_drew (S := (fun w' => (∀ j, w'.cell? ⟨w.heap.size, j, none⟩ = cs[j]?) ∧ w'.rangeAt w.heap.size 4 [.int .i64 vk, .int .i64 vx, .int .u64 vb, .string vs, .slice va vm vc])) (by kernel_rfl) ⟨fun j => cell_of_row _ _ j cs 32 (0, 0) HG4.out, range4 HG4.out V0.out V1.out V2.out V3.out V4.out⟩ (fun hHeld => ?_)
  change wpAnyH _ _ _ _ _ _ _ _ (World.drew _)
  refine wpAnyH_take (i := 0) (oi := { dst := some 17, op := Go.Op.move (Go.Operand.tmp 3), type := 35, pos := "ref.go:15", after := #[], guard := none }) (v := ?_) rfl (by kernel_rfl) (by kernel_rfl) (by kernel_rfl) (fun _ _ _ h => h) (Or.inl ⟨by rfl, ?_⟩) hHeld ?_
  rotate_left 1
  · (intro w hSw; (try dsimp only at hSw); go_simp <;> with_reducible rfl)
  simp only [Act.put, List.setIfInBounds_toArray, List.set_cons_zero, List.set_cons_succ]
  refine wpAnyH_take (i := 1) (oi := { dst := some 18, op := Go.Op.fieldAddr 32 (Go.Operand.tmp 1) 8, type := 0, pos := "ref.go:15", after := #[], guard := none }) (v := ?_) rfl (by kernel_rfl) (by kernel_rfl) (by kernel_rfl) (fun _ _ _ h => h) (Or.inl ⟨by rfl, ?_⟩) hHeld ?_
  rotate_left 1
  · (intro w hSw; (try dsimp only at hSw); go_simp <;> with_reducible rfl)
  simp only [Act.put, List.setIfInBounds_toArray, List.set_cons_zero, List.set_cons_succ]
  refine wpAnyH_take (i := 2) (oi := { dst := some 19, op := Go.Op.fieldAddr 28 (Go.Operand.tmp 18) 0, type := 0, pos := "ref.go:15", after := #[{ on := 1, ground := Go.Ground.data }], guard := none }) (v := ?_) rfl (by kernel_rfl) (by kernel_rfl) (by kernel_rfl) (fun _ _ _ h => h) (Or.inl ⟨by rfl, ?_⟩) hHeld ?_
  rotate_left 1
  · (intro w hSw; (try dsimp only at hSw); go_simp <;> with_reducible rfl)
  simp only [Act.put, List.setIfInBounds_toArray, List.set_cons_zero, List.set_cons_succ]
  refine wpAnyH_take (i := 3) (oi := { dst := some 20, op := Go.Op.load 3 (Go.Operand.tmp 19), type := 3, pos := "ref.go:15", after := #[{ on := 2, ground := Go.Ground.data }], guard := none }) (v := ?_) rfl (by kernel_rfl) (by kernel_rfl) (by kernel_rfl) (fun _ _ _ h => h) (Or.inl ⟨by rfl, ?_⟩) hHeld ?_
  rotate_left 1
  · (intro w hSw; (try dsimp only at hSw); go_simp <;> with_reducible rfl)
  simp only [Act.put, List.setIfInBounds_toArray, List.set_cons_zero, List.set_cons_succ]
  refine wpAnyH_take (i := 5) (oi := { dst := some 22, op := Go.Op.fieldAddr 32 (Go.Operand.tmp 1) 8, type := 0, pos := "ref.go:15", after := #[], guard := none }) (v := ?_) rfl (by kernel_rfl) (by kernel_rfl) (by kernel_rfl) (fun _ _ _ h => h) (Or.inl ⟨by rfl, ?_⟩) hHeld ?_
  rotate_left 1
  · (intro w hSw; (try dsimp only at hSw); go_simp <;> with_reducible rfl)
  simp only [Act.put, List.setIfInBounds_toArray, List.set_cons_zero, List.set_cons_succ]
  refine wpAnyH_take (i := 6) (oi := { dst := some 23, op := Go.Op.fieldAddr 28 (Go.Operand.tmp 22) 1, type := 0, pos := "ref.go:15", after := #[{ on := 5, ground := Go.Ground.data }], guard := none }) (v := ?_) rfl (by kernel_rfl) (by kernel_rfl) (by kernel_rfl) (fun _ _ _ h => h) (Or.inl ⟨by rfl, ?_⟩) hHeld ?_
  rotate_left 1
  · (intro w hSw; (try dsimp only at hSw); go_simp <;> with_reducible rfl)
  simp only [Act.put, List.setIfInBounds_toArray, List.set_cons_zero, List.set_cons_succ]
  refine wpAnyH_take (i := 7) (oi := { dst := some 24, op := Go.Op.load 23 (Go.Operand.tmp 23), type := 23, pos := "ref.go:15", after := #[{ on := 6, ground := Go.Ground.data }], guard := none }) (v := ?_) rfl (by kernel_rfl) (by kernel_rfl) (by kernel_rfl) (fun _ _ _ h => h) (Or.inl ⟨by rfl, ?_⟩) hHeld ?_
  rotate_left 1
  · (intro w hSw; (try dsimp only at hSw); go_simp <;> with_reducible rfl)
  simp only [Act.put, List.setIfInBounds_toArray, List.set_cons_zero, List.set_cons_succ]
  refine wpAnyH_take (i := 9) (oi := { dst := some 26, op := Go.Op.fieldAddr 32 (Go.Operand.tmp 1) 8, type := 0, pos := "ref.go:15", after := #[], guard := none }) (v := ?_) rfl (by kernel_rfl) (by kernel_rfl) (by kernel_rfl) (fun _ _ _ h => h) (Or.inl ⟨by rfl, ?_⟩) hHeld ?_
  rotate_left 1
  · (intro w hSw; (try dsimp only at hSw); go_simp <;> with_reducible rfl)
  simp only [Act.put, List.setIfInBounds_toArray, List.set_cons_zero, List.set_cons_succ]
  refine wpAnyH_take (i := 10) (oi := { dst := some 27, op := Go.Op.fieldAddr 28 (Go.Operand.tmp 26) 2, type := 0, pos := "ref.go:15", after := #[{ on := 9, ground := Go.Ground.data }], guard := none }) (v := ?_) rfl (by kernel_rfl) (by kernel_rfl) (by kernel_rfl) (fun _ _ _ h => h) (Or.inl ⟨by rfl, ?_⟩) hHeld ?_
  rotate_left 1
  · (intro w hSw; (try dsimp only at hSw); go_simp <;> with_reducible rfl)
  simp only [Act.put, List.setIfInBounds_toArray, List.set_cons_zero, List.set_cons_succ]
  refine wpAnyH_take (i := 11) (oi := { dst := some 28, op := Go.Op.load 3 (Go.Operand.tmp 27), type := 3, pos := "ref.go:15", after := #[{ on := 10, ground := Go.Ground.data }], guard := none }) (v := ?_) rfl (by kernel_rfl) (by kernel_rfl) (by kernel_rfl) (fun _ _ _ h => h) (Or.inl ⟨by rfl, ?_⟩) hHeld ?_
  rotate_left 1
  · (intro w hSw; (try dsimp only at hSw); go_simp <;> with_reducible rfl)
  simp only [Act.put, List.setIfInBounds_toArray, List.set_cons_zero, List.set_cons_succ]
  refine wpAnyH_ready (rs := [4]) (by kernel_rfl) (by simp) ?_
  refine AllReadyH.cons (o := { dst := some 21, op := Go.Op.call { callee := Go.Callee.value (Go.Operand.func 36), args := #[Go.Operand.tmp 17, Go.Operand.tmp 20], argTypes := #[35, 3] }, type := 35, pos := "ref.go:15", after := #[{ on := 0, ground := Go.Ground.data }, { on := 3, ground := Go.Ground.data }], guard := none }) rfl (fun K hK => ?_) AllReadyH.nil
  go_simp
  refine Calls.mono (K4.out _ _ HB4.out.drew (holds_below P4.out (Below.refl _ _).drew)) ?_
  rintro e w5 ⟨v5, rfl, hh, hb⟩
  have HB5 : Hid (Below w.heap.size w w5) := bel2 HB4.out.drew hb
  have HG5 : Hid (w5.heap[w.heap.size]? = some (.cells cs 32 (0, 0))) := row_below hb HG4.out
  have P5 : Hid (Lib.HoldsBytes w5 v5 L5) := hh
  clear hh hb
  refine hK.out _ _ ⟨fun j => cell_of_row _ _ j cs 32 (0, 0) HG5.out, range4 HG5.out V0.out V1.out V2.out V3.out V4.out⟩ (fun hHeld => ?_)
  clear hK K
  refine wpAnyH_ready (rs := [8]) (by kernel_rfl) (by simp) ?_
  refine AllReadyH.cons (o := { dst := some 25, op := Go.Op.call { callee := Go.Callee.value (Go.Operand.func 38), args := #[Go.Operand.tmp 21, Go.Operand.tmp 24], argTypes := #[35, 23] }, type := 35, pos := "ref.go:15", after := #[{ on := 4, ground := Go.Ground.data }, { on := 7, ground := Go.Ground.data }, { on := 4, ground := Go.Ground.chain }], guard := none }) rfl (fun K hK => ?_) AllReadyH.nil
  go_simp
  refine Calls.mono (K5.out _ _ HB5.out P5.out) ?_
  rintro e w6 ⟨v6, rfl, hh, hb⟩
  have HB6 : Hid (Below w.heap.size w w6) := bel2 HB5.out hb
  have HG6 : Hid (w6.heap[w.heap.size]? = some (.cells cs 32 (0, 0))) := row_below hb HG5.out
  have P6 : Hid (Lib.HoldsBytes w6 v6 L6) := hh
  clear hh hb
  refine hK.out _ _ ⟨fun j => cell_of_row _ _ j cs 32 (0, 0) HG6.out, range4 HG6.out V0.out V1.out V2.out V3.out V4.out⟩ (fun hHeld => ?_)
  clear hK K
  refine wpAnyH_ready (rs := [12]) (by kernel_rfl) (by simp) ?_
  refine AllReadyH.cons (o := { dst := some 29, op := Go.Op.call { callee := Go.Callee.value (Go.Operand.func 36), args := #[Go.Operand.tmp 25, Go.Operand.tmp 28], argTypes := #[35, 3] }, type := 35, pos := "ref.go:15", after := #[{ on := 8, ground := Go.Ground.data }, { on := 11, ground := Go.Ground.data }, { on := 8, ground := Go.Ground.chain }], guard := none }) rfl (fun K hK => ?_) AllReadyH.nil
  go_simp
  refine Calls.mono (K6.out _ _ HB6.out P6.out) ?_
  rintro e w7 ⟨v7, rfl, hh, hb⟩
  have HB7 : Hid (Below w.heap.size w w7) := bel2 HB6.out hb
  have HG7 : Hid (w7.heap[w.heap.size]? = some (.cells cs 32 (0, 0))) := row_below hb HG6.out
  have P7 : Hid (HN w.heap.size w7 v7 L7) := HN.lower hh HB6.out.size
  clear hh hb
  refine hK.out _ _ ⟨fun j => cell_of_row _ _ j cs 32 (0, 0) HG7.out, range4 HG7.out V0.out V1.out V2.out V3.out V4.out⟩ (fun hHeld => ?_)
  clear hK K
  refine wpAnyH_take (i := 13) (oi := { dst := some 2, op := Go.Op.assign (Go.Operand.tmp 29), type := 35, pos := "ref.go:15", after := #[{ on := 12, ground := Go.Ground.data }, { on := 12, ground := Go.Ground.chain }, { on := 0, ground := Go.Ground.phase }, { on := 1, ground := Go.Ground.phase }, { on := 2, ground := Go.Ground.phase }, { on := 3, ground := Go.Ground.phase }, { on := 4, ground := Go.Ground.phase }, { on := 5, ground := Go.Ground.phase }, { on := 6, ground := Go.Ground.phase }, { on := 7, ground := Go.Ground.phase }, { on := 8, ground := Go.Ground.phase }, { on := 9, ground := Go.Ground.phase }, { on := 10, ground := Go.Ground.phase }, { on := 11, ground := Go.Ground.phase }, { on := 12, ground := Go.Ground.phase }], guard := none }) (v := ?_) rfl (by kernel_rfl) (by kernel_rfl) (by kernel_rfl) (fun _ _ _ h => h) (Or.inl ⟨by rfl, ?_⟩) hHeld ?_
  rotate_left 1
  · (intro w hSw; (try dsimp only at hSw); go_simp <;> with_reducible rfl)
  simp only [Act.put, List.setIfInBounds_toArray, List.set_cons_zero, List.set_cons_succ]
  refine wpAnyH_done (by kernel_rfl) ?_ _
  go_wp2_with fail
  exact HQ.out _ _ P7.out HB7.out
/-- What the reference's Add answers. -/
def RaP (w : World) (x : List Dn × Int) (e : Ending) (w' : World) : Prop := ∃ a c, e = .returned (.tuple #[.slice a x.1.length c, .int .i64 x.2]) ∧ Tb w' a x.1 ∧ Below w.heap.size w w'
theorem row_ap {w : World} {lo g k cap : Nat} {ds : List Dn} (h : Gr4 lo w (.slice (some ⟨g, 0, none⟩) k cap) ds) : lo ≤ g ∧ ∃ (cur : Array Value) (cells : List Value), w.heap[g]? = some (.cells cur 37 (0, 0)) ∧ ds.length ≤ cap ∧ cap ≤ maxLen ∧ cur.size = cap * 4 ∧ cells.length = ds.length * 4 ∧ cur.toList.take (ds.length * 4) = cells ∧ k = ds.length ∧
    ∀ (i : Nat) x, ds[i]? = some x → ∃ cs : List Value, cs.length = 4 ∧ (∀ k c, cs[k]? = some c → cells[i * 4 + k]? = some c) ∧ QD (fun B => B < w.heap.size ∧ B ≠ g) w cs x := by
  obtain ⟨cells, ho, hc⟩ := h
  obtain ⟨h1, ⟨e, _⟩ | ⟨g', cap', cur, e, h2, h3, h4, h5, h6, h7⟩⟩ := ho
  · cases e
  · simp only [Value.slice.injEq, Option.some.injEq, Addr.mk.injEq, and_true] at e
    obtain ⟨rfl, rfl, rfl⟩ := e
    refine ⟨h2, cur, cells, h3, h4, h5, h6, h1, h7, rfl, fun i x hx => ?_⟩
    obtain ⟨cs, a, b, q⟩ := hc i x hx
    exact ⟨cs, a, b, q.keep (fun B q c hB hce => ⟨rfl, World.block_lt_of_cell? w ⟨B, q, none⟩ hce, fun e => hB.2 (by rw [e]; rfl)⟩)⟩
theorem plc_at {ds : List Dn} {q : ByteArray} {k : Nat} (hk : k ≤ ds.length) (hf : ∀ i d, i < k → ds[i]? = some d → gtS d.s q = false) (h : k = ds.length ∨ ∃ d, ds[k]? = some d ∧ gtS d.s q = true) : plc ds q = k := by
  rcases h with rfl | ⟨d, h1, h2⟩
  · refine plc_none fun d hd => ?_
    obtain ⟨i, hi⟩ := List.getElem?_of_mem hd
    exact hf i d (List.getElem?_eq_some_iff.1 hi).1 hi
  · exact plc_some h1 h2 hf
theorem sl_head_full (u : Value) (n c : Nat) (a : Option Addr) (hu : u = .slice a n c) (hg : a = none → n = 0 ∧ c = 0) (ha : ∀ x, a = some x → ∃ g, x = ⟨g, 0, none⟩) (hnc : n ≤ c) : ∀ w, (Instr.slice 22 u none (some (.int .i64 (n : Int))) none).run Try.prog w = .ok u w := by
  intro w
  subst hu
  rw [run_slice_h w 22 a n c (by rw [elem22]; exact Try.underlying22) .i64 _ (by omega) (by omega), elem22, z37]
  cases a with
  | none => obtain ⟨rfl, rfl⟩ := hg rfl; simp [Result.andThen, sliced]
  | some x => obtain ⟨g, rfl⟩ := ha x rfl; simp [Result.andThen, sliced, add_plain]
end Go.Proofs.Ytlcgjehepalmcaa
namespace Go.Proofs.Ytlcgjehepalmcaa
open Go.ChangeShapes Go.WideShapes Go.ChangeAt Go.RowKit
set_option maxHeartbeats 8000000 in
set_option maxRecDepth 100000 in
theorem radd_calls (ds : List Dn) (a : Option Addr) (n c : Nat) (hn : ds.length = n) (hs : n ≤ 400) (hy : ∀ d ∈ ds, d.y.length ≤ 140737488355328) (N : Nat) (cs : Array Value) (r : Rq) (run : Int) (w : World) (h : Tb w a ds) (hr : IsR w N cs r) :
    Calls Try.prog 17 #[.slice a n c, .agg cs, .int .i64 run] w (RaP w (addR ds r run)) := by
  have KC : Hid (∀ W, Below w.heap.size w W → Calls Try.prog 29 #[.slice a n c] W fun e w' => ∃ v, e = .returned v ∧ Gr4 W.heap.size w' v ds ∧ Below W.heap.size W w') := fun W hB => rclone_calls ds a n c hn (by omega) hy W (h.below hB)
  have KF : Hid (∀ W b d, Tb W b ds → Calls Try.prog 10 #[.slice b n d, .string r.req] W (RfP W (fnd ds r.req))) := fun W b d hb => rfind_calls r.req ds b n d hn (by omega) hy W hb
  have KK : Hid (∀ W, Below w.heap.size w W → Calls Try.prog 20 #[.agg cs] W (KyP W (keyB r))) := fun W hB => rkeyN_calls N cs r W (hr.below hB)
  have hi32l := info32l cs hr.size
  have c0 := hr.c0
  have c2 := hr.c2
  have HQ1 : Hid (∀ d, fnd ds r.req = some d → ∀ b c w', Tb w' b ds → Below w.heap.size w w' → RaP w (addR ds r run) (.returned (.tuple #[.slice b n c, .int .i64 1])) w') := fun d e b c w' hg hb => by
    unfold addR
    rw [e, ← hn]
    exact ⟨b, c, rfl, hg, hb⟩
  have HQ2 : Hid (fnd ds r.req = none → 30 ≤ n → ∀ b c w', Tb w' b ds → Below w.heap.size w w' → RaP w (addR ds r run) (.returned (.tuple #[.slice b n c, .int .i64 7])) w') := fun e h30 b c w' hg hb => by
    unfold addR
    rw [e, ← hn]
    dsimp only
    rw [if_pos (by omega)]
    exact ⟨b, c, rfl, hg, hb⟩
  have HQ3 : Hid (fnd ds r.req = none ∧ ¬ 30 ≤ n → ∀ b c w', Tb w' b (insD ds (plc ds r.req) ⟨r.req, r.kind, keyB r, run⟩) → Below w.heap.size w w' → RaP w (addR ds r run) (.returned (.tuple #[.slice b (ds.length + 1) c, .int .i64 0])) w') := fun e b c w' hg hb => by
    have e2 : addR ds r run = (insD ds (plc ds r.req) ⟨r.req, r.kind, keyB r, run⟩, 0) := by
      unfold addR
      rw [e.1]
      dsimp only
      rw [if_neg (by have := e.2; omega)]
      rfl
    rw [e2]
    exact ⟨b, c, by rw [insD_len (plc_le _ _)], hg, hb⟩
  generalize RaP w (addR ds r run) = Q at HQ1 HQ2 HQ3 ⊢
  have HNd : Hid (ds.length = n) := hn
  have HSd : Hid (n ≤ 400) := hs
  have HG0 : Hid ((w.alloc (.cells cs 32)).heap[w.heap.size]? = some (.cells cs 32 (0, 0))) := heap_alloc_last w _
  have HB0 : Hid (Below w.heap.size w (w.alloc (.cells cs 32))) := bel1 _ _
  have HS0 : Hid ((w.alloc (.cells cs 32)).heap.size = w.heap.size + 1) := by show _ = _; simp
  obtain ⟨oo, ho⟩ : ∃ oo, oo = fnd ds r.req := ⟨_, rfl⟩
  rw [← ho] at KF HQ1 HQ2 HQ3
  clear h hr hs hy ho hn
  go_enter Try.func17, Try.ntmps17
  go_upto_region 1 with fail
  change Code.wp _ _ _ _ (w.alloc (.cells cs 32))
  generalize w.alloc (.cells cs 32) = W0 at HG0 HB0 HS0 ⊢
  go_wp2_with fail
  refine (KC.out _ HB0.out).mono ?_
  rintro e w1 ⟨v1, rfl, hg1, hb1⟩
  obtain ⟨ua, uc, e1⟩ := hg1.shape
  subst e1
  rw [HNd.out] at hg1 ⊢
  have HU1 : Hid (Gr4 W0.heap.size w1 (.slice ua n uc) ds) := hg1
  have HB1 : Hid (Below w.heap.size w w1) := bel2 HB0.out hb1
  have HG1 : Hid (w1.heap[w.heap.size]? = some (.cells cs 32 (0, 0))) := row_below hb1 HG0.out
  have HW1 : Hid (W0.heap.size ≤ w1.heap.size) := hb1.size
  have g1 : ∀ j, w1.cell? ⟨w.heap.size, j, none⟩ = cs[j]? := fun j => cell_of_row _ _ j cs 32 (0, 0) HG1.out
  clear hg1 hb1 KC
  go_wp2_with fail
  refine (KF.out _ _ _ HU1.out.tb).mono ?_
  rintro e w2 ⟨hf1, hf2, hb2⟩
  have HU2 : Hid (Gr4 W0.heap.size w2 (.slice ua n uc) ds) := HU1.out.below hb2
  have HB2 : Hid (Below w.heap.size w w2) := bel2 HB1.out hb2
  have HG2 : Hid (w2.heap[w.heap.size]? = some (.cells cs 32 (0, 0))) := row_below hb2 HG1.out
  have HW2 : Hid (W0.heap.size ≤ w2.heap.size) := Nat.le_trans HW1.out hb2.size
  have n1 : (w2.alloc (.cells #[.string ⟨#[]⟩, .int .i64 0, .slice none 0 0, .int .i64 0] 37)).heap[w2.heap.size]? = some (.cells #[.string ⟨#[]⟩, .int .i64 0, .slice none 0 0, .int .i64 0] 37 (0, 0)) := heap_alloc_last w2 _
  clear hb2 g1 KF HU1 HW1
  cases oo with
  | some d =>
    obtain ⟨p, c', rfl, _⟩ := hf1 d rfl
    clear hf1 hf2 KK
    have HU3 : Hid (Gr4 W0.heap.size (w2.alloc (.cells #[.string d.s, .int .i64 d.k, .slice p d.y.length c', .int .i64 d.r] 37)) (.slice ua n uc) ds) := HU2.out.below (bel1 w2 _)
    have HB3 : Hid (Below w.heap.size w (w2.alloc (.cells #[.string d.s, .int .i64 d.k, .slice p d.y.length c', .int .i64 d.r] 37))) := bel2 HB2.out (bel1 w2 _)
    go_upto_region 3 with (refine wpList_store_row rfl 37 _ _ rfl w2.heap.size _ rfl rfl 37 _ n1 info37s rfl (one4 _ _ _ _ _ _) ?_)
    rw [World.setRow_alloc_new]
    generalize w2.alloc (.cells #[.string d.s, .int .i64 d.k, .slice p d.y.length c', .int .i64 d.r] 37) = W at HU3 HB3 ⊢
    go_wp2_with fail
    exact HQ1.out d rfl _ _ _ HU3.out.tb HB3.out
  | none =>
    obtain rfl := hf2 rfl
    clear hf1 hf2
    have HU : Hid (Gr4 W0.heap.size (w2.alloc (.cells #[.string ⟨#[]⟩, .int .i64 0, .slice none 0 0, .int .i64 0] 37)) (.slice ua n uc) ds) := HU2.out.below (bel1 w2 _)
    have HBW : Hid (Below w.heap.size w (w2.alloc (.cells #[.string ⟨#[]⟩, .int .i64 0, .slice none 0 0, .int .i64 0] 37))) := bel2 HB2.out (bel1 w2 _)
    have HG : Hid ((w2.alloc (.cells #[.string ⟨#[]⟩, .int .i64 0, .slice none 0 0, .int .i64 0] 37)).heap[w.heap.size]? = some (.cells cs 32 (0, 0))) := row_below (bel1 w2 _) HG2.out
    have HW0 : Hid (W0.heap.size ≤ (w2.alloc (.cells #[.string ⟨#[]⟩, .int .i64 0, .slice none 0 0, .int .i64 0] 37)).heap.size) := Nat.le_trans HW2.out (bel1 w2 _).size
    go_upto_region 3 with (refine wpList_store_row rfl 37 _ _ rfl w2.heap.size _ rfl rfl 37 _ n1 info37s rfl (one4 _ _ _ _ _ _) ?_)
    rw [World.setRow_alloc_new]
    generalize w2.alloc (.cells #[.string ⟨#[]⟩, .int .i64 0, .slice none 0 0, .int .i64 0] 37) = W at HU HBW HG HW0 ⊢
    clear n1 HU2 HB2 HG2 HB1 HG1 HW2
    by_cases h30 : 30 ≤ n
    · have d30 : decide (30 ≤ (n : Int)) = true := decide_eq_true (by omega)
      have d31 : decide (30 ≤ n) = true := decide_eq_true h30
      have H30 : Hid (30 ≤ n) := h30
      clear h30
      go_wp2_with fail
      exact HQ2.out trivial H30.out _ _ _ HU.out.tb HBW.out
    · have d30 : decide (30 ≤ (n : Int)) = false := decide_eq_false (by omega)
      have d31 : decide (30 ≤ n) = false := decide_eq_false h30
      have HNo : Hid (none = (none : Option Dn) ∧ ¬ 30 ≤ n) := ⟨rfl, h30⟩
      have HL : Hid (n ≤ 30) := by show _ ≤ _; omega
      clear h30
      go_upto_region 7 with fail
      go_wp2_with fail
      go_loopw [10] (fun i wr => ∃ j : Nat, j ≤ n ∧ i = .int .i64 (j : Int) ∧ Hid (∀ i d, i < j → ds[i]? = some d → gtS d.s r.req = false) ∧ Hid (Below W.heap.size W wr)) (fun i _ => n - (intOf i).toNat)
      case atStart => exact ⟨0, Nat.zero_le _, rfl, fun q z hq => absurd hq (Nat.not_lt_zero _), Below.refl _ _⟩
      case round =>
        obtain ⟨j, hj, rfl, HF, HBr⟩ := hrel
        have HGr : Hid (wr.heap[w.heap.size]? = some (.cells cs 32 (0, 0))) := row_below HBr.out HG.out
        have HUr : Hid (Gr4 W0.heap.size wr (.slice ua n uc) ds) := HU.out.below HBr.out
        have HBw : Hid (Below w.heap.size w wr) := bel2 HBW.out HBr.out
        have HWr : Hid (W0.heap.size ≤ wr.heap.size) := Nat.le_trans HW0.out HBr.out.size
        by_cases hlt : j < n
        · obtain ⟨x, hx⟩ : ∃ x, ds[j]? = some x := ⟨_, List.getElem?_eq_getElem (by rw [HNd.out]; exact hlt)⟩
          have htb := HUr.out.tb
          obtain ⟨g, o, p, cc, ea, ⟨xc, _⟩, _⟩ := htb j x hx
          subst ea
          have hg0 : o = 0 := by
            obtain ⟨cells, ⟨_, ⟨e, _⟩ | ⟨g', _, _, e, _⟩⟩, _⟩ := HUr.out
            · cases e
            · simp only [Value.slice.injEq, Option.some.injEq, Addr.mk.injEq] at e
              exact e.1.2.1
          subst hg0
          rw [Nat.zero_add] at xc
          have HX : Hid (ds[j]? = some x) := hx
          have hjn : (j : Int) < (n : Int) := by omega
          have HW : Hid (wrap64 ((j : Int) + 1) = ((j + 1 : Nat) : Int)) := wr1 hlt (by have := HL.out; omega)
          clear hx htb
          cases hgt : gtS x.s r.req with
          | false =>
            have HF2 : Hid (∀ i d, i < j + 1 → ds[i]? = some d → gtS d.s r.req = false) := fun i z' hi hz' => by
              by_cases e : i = j
              · subst e; rw [HX.out] at hz'; injection hz' with hz'; rw [← hz']; exact hgt
              · exact HF.out i z' (by omega) hz'
            have hle : (Op.bytesLess x.s.toList r.req.toList || x.s.toList == r.req.toList) = true := by
              show leS x.s r.req = true
              rw [← Bool.not_not (leS x.s r.req), leS_gt, hgt]
              rfl
            clear hgt
            go_upto_region 8 with fail
            refine wp_region_held_drew (S := (fun w' => (∀ j, w'.cell? ⟨w.heap.size, j, none⟩ = cs[j]?) ∧ w'.cell? ⟨g, j * 4, none⟩ = some (.string x.s))) (by kernel_rfl) ⟨fun j => cell_of_row _ _ j cs 32 (0, 0) HGr.out, xc⟩ (fun hHeld => ?_)
            change wpAnyH _ _ _ _ _ _ _ _ (World.drew _)
            refine wpAnyH_take (i := 0) (oi := { dst := some 27, op := Go.Op.move (Go.Operand.tmp 10), type := 3, pos := "ref.go:77", after := #[], guard := none }) (v := ?_) rfl (by kernel_rfl) (by kernel_rfl) (by kernel_rfl) (fun _ _ _ h => h) (Or.inl ⟨by rfl, ?_⟩) hHeld ?_
            rotate_left 1
            · (intro w hSw; (try dsimp only at hSw); go_simp <;> with_reducible rfl)
            simp only [Act.put, List.setIfInBounds_toArray, List.set_cons_zero, List.set_cons_succ]
            refine wpAnyH_take (i := 1) (oi := { dst := some 28, op := Go.Op.move (Go.Operand.tmp 0), type := 22, pos := "ref.go:77", after := #[], guard := none }) (v := ?_) rfl (by kernel_rfl) (by kernel_rfl) (by kernel_rfl) (fun _ _ _ h => h) (Or.inl ⟨by rfl, ?_⟩) hHeld ?_
            rotate_left 1
            · (intro w hSw; (try dsimp only at hSw); go_simp <;> with_reducible rfl)
            simp only [Act.put, List.setIfInBounds_toArray, List.set_cons_zero, List.set_cons_succ]
            refine wpAnyH_take (i := 2) (oi := { dst := some 29, op := Go.Op.call { callee := Go.Callee.builtin Go.Builtin.len, args := #[Go.Operand.tmp 28], argTypes := #[22] }, type := 3, pos := "ref.go:77", after := #[{ on := 1, ground := Go.Ground.data }], guard := none }) (v := ?_) rfl (by kernel_rfl) (by kernel_rfl) (by kernel_rfl) (fun _ _ _ h => h) (Or.inl ⟨by rfl, ?_⟩) hHeld ?_
            rotate_left 1
            · (intro w hSw; (try dsimp only at hSw); go_simp <;> with_reducible rfl)
            simp only [Act.put, List.setIfInBounds_toArray, List.set_cons_zero, List.set_cons_succ]
            refine wpAnyH_take (i := 3) (oi := { dst := some 30, op := Go.Op.binOp Go.BinOp.lss 3 (Go.Operand.tmp 27) (Go.Operand.tmp 29) 3, type := 4, pos := "ref.go:77", after := #[{ on := 0, ground := Go.Ground.data }, { on := 2, ground := Go.Ground.data }], guard := none }) (v := ?_) rfl (by kernel_rfl) (by kernel_rfl) (by kernel_rfl) (fun _ _ _ h => h) (Or.inl ⟨by rfl, ?_⟩) hHeld ?_
            rotate_left 1
            · (intro w hSw; (try dsimp only at hSw); go_simp <;> with_reducible rfl)
            simp only [Act.put, List.setIfInBounds_toArray, List.set_cons_zero, List.set_cons_succ]
            refine wpAnyH_take (i := 4) (oi := { dst := some 31, op := Go.Op.move (Go.Operand.tmp 30), type := 4, pos := "ref.go:77", after := #[{ on := 3, ground := Go.Ground.data }], guard := none }) (v := ?_) rfl (by kernel_rfl) (by kernel_rfl) (by kernel_rfl) (fun _ _ _ h => h) (Or.inl ⟨by rfl, ?_⟩) hHeld ?_
            rotate_left 1
            · (intro w hSw; (try dsimp only at hSw); go_simp <;> with_reducible rfl)
            simp only [Act.put, List.setIfInBounds_toArray, List.set_cons_zero, List.set_cons_succ]
            refine wpAnyH_take (i := 5) (oi := { dst := some 32, op := Go.Op.move (Go.Operand.tmp 0), type := 22, pos := "ref.go:77", after := #[{ on := 4, ground := Go.Ground.guard }], guard := some (4, true) }) (v := ?_) rfl (by kernel_rfl) (by kernel_rfl) (by kernel_rfl) (fun _ _ _ h => h) (Or.inl ⟨by rfl, ?_⟩) hHeld ?_
            rotate_left 1
            · (intro w hSw; (try dsimp only at hSw); go_simp <;> with_reducible rfl)
            simp only [Act.put, List.setIfInBounds_toArray, List.set_cons_zero, List.set_cons_succ]
            refine wpAnyH_take (i := 6) (oi := { dst := some 33, op := Go.Op.move (Go.Operand.tmp 10), type := 3, pos := "ref.go:77", after := #[{ on := 4, ground := Go.Ground.guard }], guard := some (4, true) }) (v := ?_) rfl (by kernel_rfl) (by kernel_rfl) (by kernel_rfl) (fun _ _ _ h => h) (Or.inl ⟨by rfl, ?_⟩) hHeld ?_
            rotate_left 1
            · (intro w hSw; (try dsimp only at hSw); go_simp <;> with_reducible rfl)
            simp only [Act.put, List.setIfInBounds_toArray, List.set_cons_zero, List.set_cons_succ]
            refine wpAnyH_take (i := 7) (oi := { dst := some 34, op := Go.Op.indexAddr 22 (Go.Operand.tmp 32) (Go.Operand.tmp 33), type := 0, pos := "ref.go:77", after := #[{ on := 5, ground := Go.Ground.data }, { on := 6, ground := Go.Ground.data }, { on := 4, ground := Go.Ground.guard }], guard := some (4, true) }) (v := ?_) rfl (by kernel_rfl) (by kernel_rfl) (by kernel_rfl) (fun _ _ _ h => h) (Or.inl ⟨by rfl, ?_⟩) hHeld ?_
            rotate_left 1
            · (intro w hSw; (try dsimp only at hSw); go_simp <;> with_reducible rfl)
            simp only [Act.put, List.setIfInBounds_toArray, List.set_cons_zero, List.set_cons_succ]
            refine wpAnyH_take (i := 8) (oi := { dst := some 35, op := Go.Op.fieldAddr 37 (Go.Operand.tmp 34) 0, type := 0, pos := "ref.go:77", after := #[{ on := 7, ground := Go.Ground.data }, { on := 4, ground := Go.Ground.guard }], guard := some (4, true) }) (v := ?_) rfl (by kernel_rfl) (by kernel_rfl) (by kernel_rfl) (fun _ _ _ h => h) (Or.inl ⟨by rfl, ?_⟩) hHeld ?_
            rotate_left 1
            · (intro w hSw; (try dsimp only at hSw); go_simp <;> with_reducible rfl)
            simp only [Act.put, List.setIfInBounds_toArray, List.set_cons_zero, List.set_cons_succ]
            refine wpAnyH_take (i := 9) (oi := { dst := some 36, op := Go.Op.load 9 (Go.Operand.tmp 35), type := 9, pos := "ref.go:77", after := #[{ on := 8, ground := Go.Ground.data }, { on := 4, ground := Go.Ground.guard }], guard := some (4, true) }) (v := ?_) rfl (by kernel_rfl) (by kernel_rfl) (by kernel_rfl) (fun _ _ _ h => h) (Or.inl ⟨by rfl, ?_⟩) hHeld ?_
            rotate_left 1
            · (intro w hSw; (try dsimp only at hSw); go_simp <;> with_reducible rfl)
            simp only [Act.put, List.setIfInBounds_toArray, List.set_cons_zero, List.set_cons_succ]
            refine wpAnyH_take (i := 10) (oi := { dst := some 37, op := Go.Op.fieldAddr 32 (Go.Operand.tmp 4) 2, type := 0, pos := "ref.go:77", after := #[{ on := 4, ground := Go.Ground.guard }], guard := some (4, true) }) (v := ?_) rfl (by kernel_rfl) (by kernel_rfl) (by kernel_rfl) (fun _ _ _ h => h) (Or.inl ⟨by rfl, ?_⟩) hHeld ?_
            rotate_left 1
            · (intro w hSw; (try dsimp only at hSw); go_simp <;> with_reducible rfl)
            simp only [Act.put, List.setIfInBounds_toArray, List.set_cons_zero, List.set_cons_succ]
            refine wpAnyH_take (i := 11) (oi := { dst := some 38, op := Go.Op.load 9 (Go.Operand.tmp 37), type := 9, pos := "ref.go:77", after := #[{ on := 10, ground := Go.Ground.data }, { on := 4, ground := Go.Ground.guard }], guard := some (4, true) }) (v := ?_) rfl (by kernel_rfl) (by kernel_rfl) (by kernel_rfl) (fun _ _ _ h => h) (Or.inl ⟨by rfl, ?_⟩) hHeld ?_
            rotate_left 1
            · (intro w hSw; (try dsimp only at hSw); go_simp <;> with_reducible rfl)
            simp only [Act.put, List.setIfInBounds_toArray, List.set_cons_zero, List.set_cons_succ]
            refine wpAnyH_take (i := 12) (oi := { dst := some 39, op := Go.Op.binOp Go.BinOp.leq 9 (Go.Operand.tmp 36) (Go.Operand.tmp 38) 9, type := 4, pos := "ref.go:77", after := #[{ on := 9, ground := Go.Ground.data }, { on := 11, ground := Go.Ground.data }, { on := 4, ground := Go.Ground.guard }], guard := some (4, true) }) (v := ?_) rfl (by kernel_rfl) (by kernel_rfl) (by kernel_rfl) (fun _ _ _ h => h) (Or.inl ⟨by rfl, ?_⟩) hHeld ?_
            rotate_left 1
            · (intro w hSw; (try dsimp only at hSw); go_simp <;> with_reducible rfl)
            simp only [Act.put, List.setIfInBounds_toArray, List.set_cons_zero, List.set_cons_succ]
            refine wpAnyH_take (i := 13) (oi := { dst := some 40, op := Go.Op.pick (Go.Operand.tmp 31) (Go.Operand.tmp 39) (Go.Operand.const (Go.Value.bool false)), type := 4, pos := "ref.go:77", after := #[{ on := 4, ground := Go.Ground.data }, { on := 12, ground := Go.Ground.data }], guard := none }) (v := ?_) rfl (by kernel_rfl) (by kernel_rfl) (by kernel_rfl) (fun _ _ _ h => h) (Or.inl ⟨by rfl, ?_⟩) hHeld ?_
            rotate_left 1
            · (intro w hSw; (try dsimp only at hSw); go_simp <;> with_reducible rfl)
            simp only [Act.put, List.setIfInBounds_toArray, List.set_cons_zero, List.set_cons_succ]
            refine wpAnyH_done (by kernel_rfl) ?_ _
            go_wp2_with fail
            exact ⟨⟨j + 1, hlt, by first | rw [HW.out] | exact congrArg _ (Int.natCast_succ j).symm, HF2, HBr.out.drew⟩, by first | exact meas hlt HW.out | exact meas hlt (Int.natCast_succ j).symm⟩
          | true =>
            have hle : (Op.bytesLess x.s.toList r.req.toList || x.s.toList == r.req.toList) = false := by
              show leS x.s r.req = false
              rw [← Bool.not_not (leS x.s r.req), leS_gt, hgt]
              rfl
            have HP : Hid (plc ds r.req = j) := plc_at (by have := HNd.out; omega) HF.out (.inr ⟨x, HX.out, hgt⟩)
            clear hgt
            go_upto_region 8 with fail
            refine wp_region_held_drew (S := (fun w' => (∀ j, w'.cell? ⟨w.heap.size, j, none⟩ = cs[j]?) ∧ w'.cell? ⟨g, j * 4, none⟩ = some (.string x.s))) (by kernel_rfl) ⟨fun j => cell_of_row _ _ j cs 32 (0, 0) HGr.out, xc⟩ (fun hHeld => ?_)
            change wpAnyH _ _ _ _ _ _ _ _ (World.drew _)
            refine wpAnyH_take (i := 0) (oi := { dst := some 27, op := Go.Op.move (Go.Operand.tmp 10), type := 3, pos := "ref.go:77", after := #[], guard := none }) (v := ?_) rfl (by kernel_rfl) (by kernel_rfl) (by kernel_rfl) (fun _ _ _ h => h) (Or.inl ⟨by rfl, ?_⟩) hHeld ?_
            rotate_left 1
            · (intro w hSw; (try dsimp only at hSw); go_simp <;> with_reducible rfl)
            simp only [Act.put, List.setIfInBounds_toArray, List.set_cons_zero, List.set_cons_succ]
            refine wpAnyH_take (i := 1) (oi := { dst := some 28, op := Go.Op.move (Go.Operand.tmp 0), type := 22, pos := "ref.go:77", after := #[], guard := none }) (v := ?_) rfl (by kernel_rfl) (by kernel_rfl) (by kernel_rfl) (fun _ _ _ h => h) (Or.inl ⟨by rfl, ?_⟩) hHeld ?_
            rotate_left 1
            · (intro w hSw; (try dsimp only at hSw); go_simp <;> with_reducible rfl)
            simp only [Act.put, List.setIfInBounds_toArray, List.set_cons_zero, List.set_cons_succ]
            refine wpAnyH_take (i := 2) (oi := { dst := some 29, op := Go.Op.call { callee := Go.Callee.builtin Go.Builtin.len, args := #[Go.Operand.tmp 28], argTypes := #[22] }, type := 3, pos := "ref.go:77", after := #[{ on := 1, ground := Go.Ground.data }], guard := none }) (v := ?_) rfl (by kernel_rfl) (by kernel_rfl) (by kernel_rfl) (fun _ _ _ h => h) (Or.inl ⟨by rfl, ?_⟩) hHeld ?_
            rotate_left 1
            · (intro w hSw; (try dsimp only at hSw); go_simp <;> with_reducible rfl)
            simp only [Act.put, List.setIfInBounds_toArray, List.set_cons_zero, List.set_cons_succ]
            refine wpAnyH_take (i := 3) (oi := { dst := some 30, op := Go.Op.binOp Go.BinOp.lss 3 (Go.Operand.tmp 27) (Go.Operand.tmp 29) 3, type := 4, pos := "ref.go:77", after := #[{ on := 0, ground := Go.Ground.data }, { on := 2, ground := Go.Ground.data }], guard := none }) (v := ?_) rfl (by kernel_rfl) (by kernel_rfl) (by kernel_rfl) (fun _ _ _ h => h) (Or.inl ⟨by rfl, ?_⟩) hHeld ?_
            rotate_left 1
            · (intro w hSw; (try dsimp only at hSw); go_simp <;> with_reducible rfl)
            simp only [Act.put, List.setIfInBounds_toArray, List.set_cons_zero, List.set_cons_succ]
            refine wpAnyH_take (i := 4) (oi := { dst := some 31, op := Go.Op.move (Go.Operand.tmp 30), type := 4, pos := "ref.go:77", after := #[{ on := 3, ground := Go.Ground.data }], guard := none }) (v := ?_) rfl (by kernel_rfl) (by kernel_rfl) (by kernel_rfl) (fun _ _ _ h => h) (Or.inl ⟨by rfl, ?_⟩) hHeld ?_
            rotate_left 1
            · (intro w hSw; (try dsimp only at hSw); go_simp <;> with_reducible rfl)
            simp only [Act.put, List.setIfInBounds_toArray, List.set_cons_zero, List.set_cons_succ]
            refine wpAnyH_take (i := 5) (oi := { dst := some 32, op := Go.Op.move (Go.Operand.tmp 0), type := 22, pos := "ref.go:77", after := #[{ on := 4, ground := Go.Ground.guard }], guard := some (4, true) }) (v := ?_) rfl (by kernel_rfl) (by kernel_rfl) (by kernel_rfl) (fun _ _ _ h => h) (Or.inl ⟨by rfl, ?_⟩) hHeld ?_
            rotate_left 1
            · (intro w hSw; (try dsimp only at hSw); go_simp <;> with_reducible rfl)
            simp only [Act.put, List.setIfInBounds_toArray, List.set_cons_zero, List.set_cons_succ]
            refine wpAnyH_take (i := 6) (oi := { dst := some 33, op := Go.Op.move (Go.Operand.tmp 10), type := 3, pos := "ref.go:77", after := #[{ on := 4, ground := Go.Ground.guard }], guard := some (4, true) }) (v := ?_) rfl (by kernel_rfl) (by kernel_rfl) (by kernel_rfl) (fun _ _ _ h => h) (Or.inl ⟨by rfl, ?_⟩) hHeld ?_
            rotate_left 1
            · (intro w hSw; (try dsimp only at hSw); go_simp <;> with_reducible rfl)
            simp only [Act.put, List.setIfInBounds_toArray, List.set_cons_zero, List.set_cons_succ]
            refine wpAnyH_take (i := 7) (oi := { dst := some 34, op := Go.Op.indexAddr 22 (Go.Operand.tmp 32) (Go.Operand.tmp 33), type := 0, pos := "ref.go:77", after := #[{ on := 5, ground := Go.Ground.data }, { on := 6, ground := Go.Ground.data }, { on := 4, ground := Go.Ground.guard }], guard := some (4, true) }) (v := ?_) rfl (by kernel_rfl) (by kernel_rfl) (by kernel_rfl) (fun _ _ _ h => h) (Or.inl ⟨by rfl, ?_⟩) hHeld ?_
            rotate_left 1
            · (intro w hSw; (try dsimp only at hSw); go_simp <;> with_reducible rfl)
            simp only [Act.put, List.setIfInBounds_toArray, List.set_cons_zero, List.set_cons_succ]
            refine wpAnyH_take (i := 8) (oi := { dst := some 35, op := Go.Op.fieldAddr 37 (Go.Operand.tmp 34) 0, type := 0, pos := "ref.go:77", after := #[{ on := 7, ground := Go.Ground.data }, { on := 4, ground := Go.Ground.guard }], guard := some (4, true) }) (v := ?_) rfl (by kernel_rfl) (by kernel_rfl) (by kernel_rfl) (fun _ _ _ h => h) (Or.inl ⟨by rfl, ?_⟩) hHeld ?_
            rotate_left 1
            · (intro w hSw; (try dsimp only at hSw); go_simp <;> with_reducible rfl)
            simp only [Act.put, List.setIfInBounds_toArray, List.set_cons_zero, List.set_cons_succ]
            refine wpAnyH_take (i := 9) (oi := { dst := some 36, op := Go.Op.load 9 (Go.Operand.tmp 35), type := 9, pos := "ref.go:77", after := #[{ on := 8, ground := Go.Ground.data }, { on := 4, ground := Go.Ground.guard }], guard := some (4, true) }) (v := ?_) rfl (by kernel_rfl) (by kernel_rfl) (by kernel_rfl) (fun _ _ _ h => h) (Or.inl ⟨by rfl, ?_⟩) hHeld ?_
            rotate_left 1
            · (intro w hSw; (try dsimp only at hSw); go_simp <;> with_reducible rfl)
            simp only [Act.put, List.setIfInBounds_toArray, List.set_cons_zero, List.set_cons_succ]
            refine wpAnyH_take (i := 10) (oi := { dst := some 37, op := Go.Op.fieldAddr 32 (Go.Operand.tmp 4) 2, type := 0, pos := "ref.go:77", after := #[{ on := 4, ground := Go.Ground.guard }], guard := some (4, true) }) (v := ?_) rfl (by kernel_rfl) (by kernel_rfl) (by kernel_rfl) (fun _ _ _ h => h) (Or.inl ⟨by rfl, ?_⟩) hHeld ?_
            rotate_left 1
            · (intro w hSw; (try dsimp only at hSw); go_simp <;> with_reducible rfl)
            simp only [Act.put, List.setIfInBounds_toArray, List.set_cons_zero, List.set_cons_succ]
            refine wpAnyH_take (i := 11) (oi := { dst := some 38, op := Go.Op.load 9 (Go.Operand.tmp 37), type := 9, pos := "ref.go:77", after := #[{ on := 10, ground := Go.Ground.data }, { on := 4, ground := Go.Ground.guard }], guard := some (4, true) }) (v := ?_) rfl (by kernel_rfl) (by kernel_rfl) (by kernel_rfl) (fun _ _ _ h => h) (Or.inl ⟨by rfl, ?_⟩) hHeld ?_
            rotate_left 1
            · (intro w hSw; (try dsimp only at hSw); go_simp <;> with_reducible rfl)
            simp only [Act.put, List.setIfInBounds_toArray, List.set_cons_zero, List.set_cons_succ]
            refine wpAnyH_take (i := 12) (oi := { dst := some 39, op := Go.Op.binOp Go.BinOp.leq 9 (Go.Operand.tmp 36) (Go.Operand.tmp 38) 9, type := 4, pos := "ref.go:77", after := #[{ on := 9, ground := Go.Ground.data }, { on := 11, ground := Go.Ground.data }, { on := 4, ground := Go.Ground.guard }], guard := some (4, true) }) (v := ?_) rfl (by kernel_rfl) (by kernel_rfl) (by kernel_rfl) (fun _ _ _ h => h) (Or.inl ⟨by rfl, ?_⟩) hHeld ?_
            rotate_left 1
            · (intro w hSw; (try dsimp only at hSw); go_simp <;> with_reducible rfl)
            simp only [Act.put, List.setIfInBounds_toArray, List.set_cons_zero, List.set_cons_succ]
            refine wpAnyH_take (i := 13) (oi := { dst := some 40, op := Go.Op.pick (Go.Operand.tmp 31) (Go.Operand.tmp 39) (Go.Operand.const (Go.Value.bool false)), type := 4, pos := "ref.go:77", after := #[{ on := 4, ground := Go.Ground.data }, { on := 12, ground := Go.Ground.data }], guard := none }) (v := ?_) rfl (by kernel_rfl) (by kernel_rfl) (by kernel_rfl) (fun _ _ _ h => h) (Or.inl ⟨by rfl, ?_⟩) hHeld ?_
            rotate_left 1
            · (intro w hSw; (try dsimp only at hSw); go_simp <;> with_reducible rfl)
            simp only [Act.put, List.setIfInBounds_toArray, List.set_cons_zero, List.set_cons_succ]
            refine wpAnyH_done (by kernel_rfl) ?_ _
            have HUd : Hid (Gr4 W0.heap.size wr.drew (.slice (some ⟨g, 0, none⟩) n uc) ds) := HUr.out.below (Below.refl _ wr).drew
            obtain ⟨hlo, cur, cells, hgw, hle2, hmx, hsz, hcl, htk, hkn, hrows⟩ := row_ap HUd.out
            clear hkn
            obtain ⟨i0, hi0, hz0, hz1, hz2⟩ := info37p
            have hnn := HNd.out
            have h30n := HL.out
            have h1c : ∀ z ∈ cells, z.oneCell' = true := cells_one (lo := 0) (u := .slice none 0 0) (w := wr.drew) hcl (fun i x hx => by
              obtain ⟨cs, a, b, q⟩ := hrows i x hx
              exact ⟨cs, a, b, q.keep (fun B q c hB hce => ⟨rfl, Nat.zero_le _, fun e => by cases e⟩)⟩)
            have hce : ∀ q z, cells[q]? = some z → wr.drew.cell? ⟨g, q, none⟩ = some z := fun q z hq => by
              have hlt2 := (List.getElem?_eq_some_iff.1 hq).1
              rw [cell_of_row wr.drew g _ cur 37 (0, 0) hgw]
              rw [← htk, List.getElem?_take_of_lt (by omega)] at hq
              simpa using hq
            obtain ⟨rv, w5, hrr, hor, hbr, hkr, hblr⟩ := appM (lo := wr.drew.heap.size) (sb := g) (so := j * 4) (sc := uc - j) (k := 0) (m := n - j) (t := 22) (cells := []) (news := cells.drop (j * 4)) (W := wr.drew) (u := .slice none 0 0) Try.underlying22 hi0 hz0 hz1 hz2 rfl (by decide) (World.ownsRow_nil _ _ _ _) (by omega) (by rw [List.length_drop, hcl]; omega) (fun q z hq => by
              rw [add_plain]
              rw [List.getElem?_drop] at hq
              exact hce _ _ hq) (fun z hz => h1c z (List.mem_of_mem_drop hz)) (by omega) (by omega) (Nat.le_refl _)
            rw [Nat.zero_add, List.nil_append] at hor
            have hor2 := hor
            obtain ⟨hrl, ⟨_, h0⟩ | ⟨gr, rc, rcur, ev, hgr1, hgr2, _⟩⟩ := hor2
            · omega
            subst ev
            have hgl := lt_of_row hgw
            have HZ : Hid (AppZ W0.heap.size w5 (.slice (some ⟨g, 0, none⟩) j uc) (.slice (some ⟨gr, 0, none⟩) (n - j) rc) ds (plc ds r.req) r run) := by
              rw [HP.out]
              exact appZ_mid (W0 := wr.drew) (cur := cur) (cells := cells) HNd.out (by omega) hlt hlo (by rw [hcl, hnn]) (row_below hbr hgw) (by omega) hmx hsz (by rw [← hnn]; exact htk) hgl hbr hgr1 (lt_of_row hgr2)
                (fun q z hq => by rw [World.ownsRow.cellAt hor q (by have := (List.getElem?_eq_some_iff.1 hq).1; rw [List.length_drop, hcl] at this; omega)]; exact hq)
                (fun i x hx => by
                  obtain ⟨cs, a, b, q⟩ := hrows i x hx
                  exact ⟨cs, a, b, q.keep (fun B q c hB hce => ⟨hbr.block B hB.1, hB⟩)⟩)
            have HRR : Hid (∀ ty, _) := hrr
            have HB5 : Hid (Below w.heap.size w w5) := bel2 HBw.out (bel2 (Below.refl _ wr).drew hbr)
            have HG5 : Hid (w5.heap[w.heap.size]? = some (.cells cs 32 (0, 0))) := row_below hbr HGr.out
            have s1 : ∀ W, (Instr.slice 22 (.slice (some ⟨g, 0, none⟩) n uc) (some (.int .i64 (j : Int))) none none).run Try.prog W = .ok (.slice (some ⟨g, j * 4, none⟩) (n - j) (uc - j)) W := fun W => by
              have := sl_from g 0 n uc j (by omega) (by omega) W
              rwa [Nat.zero_add] at this
            have s2 := fun W => sl_head g n uc j (by omega) W
            have sb0 : (0 : Int) ≤ (j : Int) := by omega
            have sb1 : j ≤ uc := by omega
            have sb2 : ¬ (uc = j) := by omega
            have sb3 : (j : Int) ≤ (n : Int) := by omega
            have sb4 : j ≤ n := by omega
            have sb5 : (j : Int) ≤ (uc : Int) := by omega
            generalize hw9 : wr.drew = w9 at HRR ⊢
            have HW9 : Hid (wr.drew = w9) := hw9
            clear hw9
            clear hlo hgw hle2 hmx hsz hcl htk hrows hi0 hz0 hz1 hz2 hnn h30n h1c hce hrr hor hbr hkr hblr hrl hgr1 hgr2 hgl xc hle
            go_upto_region 11 with (at_builtin; go_must (refine Lib.wpList_append_run w9 rfl _ _ 22 22 rfl (.slice none 0 0) (.slice (some ⟨g, j * 4, none⟩) (n - j) (uc - j)) rfl rfl _ _ (HRR.out _) ?_))
            refine wp_region_held_drew (S := (fun w' => ∀ j, w'.cell? ⟨w.heap.size, j, none⟩ = cs[j]?)) (by kernel_rfl) (fun j => cell_of_row _ _ j cs 32 (0, 0) HG5.out) (fun hHeld => ?_)
            change wpAnyH _ _ _ _ _ _ _ _ (World.drew _)
            refine wpAnyH_take (i := 0) (oi := { dst := some 47, op := Go.Op.move (Go.Operand.tmp 0), type := 22, pos := "ref.go:81", after := #[], guard := none }) (v := ?_) rfl (by kernel_rfl) (by kernel_rfl) (by kernel_rfl) (fun _ _ _ h => h) (Or.inl ⟨by rfl, ?_⟩) hHeld ?_
            rotate_left 1
            · (intro w hSw; (try dsimp only at hSw); go_simp <;> with_reducible rfl)
            simp only [Act.put, List.setIfInBounds_toArray, List.set_cons_zero, List.set_cons_succ]
            refine wpAnyH_take (i := 1) (oi := { dst := some 48, op := Go.Op.move (Go.Operand.tmp 10), type := 3, pos := "ref.go:81", after := #[], guard := none }) (v := ?_) rfl (by kernel_rfl) (by kernel_rfl) (by kernel_rfl) (fun _ _ _ h => h) (Or.inl ⟨by rfl, ?_⟩) hHeld ?_
            rotate_left 1
            · (intro w hSw; (try dsimp only at hSw); go_simp <;> with_reducible rfl)
            simp only [Act.put, List.setIfInBounds_toArray, List.set_cons_zero, List.set_cons_succ]
            refine wpAnyH_take (i := 2) (oi := { dst := some 49, op := Go.Op.slice 22 (Go.Operand.tmp 47) none (some (Go.Operand.tmp 48)) none, type := 22, pos := "ref.go:81", after := #[{ on := 0, ground := Go.Ground.data }, { on := 1, ground := Go.Ground.data }], guard := none }) (v := ?_) rfl (by kernel_rfl) (by kernel_rfl) (by kernel_rfl) (fun _ _ _ h => h) (Or.inl ⟨by rfl, ?_⟩) hHeld ?_
            rotate_left 1
            · (intro w hSw; (try dsimp only at hSw); go_simp <;> with_reducible rfl)
            simp only [Act.put, List.setIfInBounds_toArray, List.set_cons_zero, List.set_cons_succ]
            refine wpAnyH_take (i := 3) (oi := { dst := some 50, op := Go.Op.fieldAddr 32 (Go.Operand.tmp 4) 2, type := 0, pos := "ref.go:81", after := #[], guard := none }) (v := ?_) rfl (by kernel_rfl) (by kernel_rfl) (by kernel_rfl) (fun _ _ _ h => h) (Or.inl ⟨by rfl, ?_⟩) hHeld ?_
            rotate_left 1
            · (intro w hSw; (try dsimp only at hSw); go_simp <;> with_reducible rfl)
            simp only [Act.put, List.setIfInBounds_toArray, List.set_cons_zero, List.set_cons_succ]
            refine wpAnyH_take (i := 4) (oi := { dst := some 51, op := Go.Op.load 9 (Go.Operand.tmp 50), type := 9, pos := "ref.go:81", after := #[{ on := 3, ground := Go.Ground.data }], guard := none }) (v := ?_) rfl (by kernel_rfl) (by kernel_rfl) (by kernel_rfl) (fun _ _ _ h => h) (Or.inl ⟨by rfl, ?_⟩) hHeld ?_
            rotate_left 1
            · (intro w hSw; (try dsimp only at hSw); go_simp <;> with_reducible rfl)
            simp only [Act.put, List.setIfInBounds_toArray, List.set_cons_zero, List.set_cons_succ]
            refine wpAnyH_take (i := 5) (oi := { dst := some 52, op := Go.Op.fieldAddr 32 (Go.Operand.tmp 4) 0, type := 0, pos := "ref.go:81", after := #[], guard := none }) (v := ?_) rfl (by kernel_rfl) (by kernel_rfl) (by kernel_rfl) (fun _ _ _ h => h) (Or.inl ⟨by rfl, ?_⟩) hHeld ?_
            rotate_left 1
            · (intro w hSw; (try dsimp only at hSw); go_simp <;> with_reducible rfl)
            simp only [Act.put, List.setIfInBounds_toArray, List.set_cons_zero, List.set_cons_succ]
            refine wpAnyH_take (i := 6) (oi := { dst := some 53, op := Go.Op.load 3 (Go.Operand.tmp 52), type := 3, pos := "ref.go:81", after := #[{ on := 5, ground := Go.Ground.data }], guard := none }) (v := ?_) rfl (by kernel_rfl) (by kernel_rfl) (by kernel_rfl) (fun _ _ _ h => h) (Or.inl ⟨by rfl, ?_⟩) hHeld ?_
            rotate_left 1
            · (intro w hSw; (try dsimp only at hSw); go_simp <;> with_reducible rfl)
            simp only [Act.put, List.setIfInBounds_toArray, List.set_cons_zero, List.set_cons_succ]
            refine wpAnyH_take (i := 9) (oi := { dst := some 56, op := Go.Op.move (Go.Operand.tmp 2), type := 3, pos := "ref.go:81", after := #[], guard := none }) (v := ?_) rfl (by kernel_rfl) (by kernel_rfl) (by kernel_rfl) (fun _ _ _ h => h) (Or.inl ⟨by rfl, ?_⟩) hHeld ?_
            rotate_left 1
            · (intro w hSw; (try dsimp only at hSw); go_simp <;> with_reducible rfl)
            simp only [Act.put, List.setIfInBounds_toArray, List.set_cons_zero, List.set_cons_succ]
            refine wpAnyH_take (i := 13) (oi := { dst := some 60, op := Go.Op.move (Go.Operand.tmp 11), type := 22, pos := "ref.go:81", after := #[], guard := none }) (v := ?_) rfl (by kernel_rfl) (by kernel_rfl) (by kernel_rfl) (fun _ _ _ h => h) (Or.inl ⟨by rfl, ?_⟩) hHeld ?_
            rotate_left 1
            · (intro w hSw; (try dsimp only at hSw); go_simp <;> with_reducible rfl)
            simp only [Act.put, List.setIfInBounds_toArray, List.set_cons_zero, List.set_cons_succ]
            refine wpAnyH_take (i := 7) (oi := { dst := some 54, op := Go.Op.load 32 (Go.Operand.tmp 4), type := 32, pos := "ref.go:81", after := #[], guard := none }) (v := _) rfl (by kernel_rfl) (by kernel_rfl) (by kernel_rfl) (fun _ _ _ h => h) (yieldsIf_load_mid rfl 32 _ rfl w.heap.size 0 rfl cs.toList _ (fun w h => range0 h) Try.underlying32 rfl hi32l) hHeld ?_
            simp only [Act.put, List.setIfInBounds_toArray, List.set_cons_zero, List.set_cons_succ]
            refine wpAnyH_ready (rs := [8]) (by kernel_rfl) (by simp) ?_
            refine AllReadyH.cons (o := { dst := some 55, op := Go.Op.call { callee := Go.Callee.value (Go.Operand.func 20), args := #[Go.Operand.tmp 54], argTypes := #[32] }, type := 35, pos := "ref.go:81", after := #[{ on := 7, ground := Go.Ground.data }], guard := none }) rfl (fun K hK => ?_) AllReadyH.nil
            go_simp
            refine Calls.mono (KK.out _ HB5.out.drew) ?_
            rintro e w6 ⟨v6, rfl, hh, hb⟩
            obtain ⟨pk, ck, ef⟩ := holds_form hh.1
            subst ef
            have HB6 : Hid (Below w5.heap.size w5 w6) := bel2 (Below.refl _ w5).drew hb
            have HG6 : Hid (w6.heap[w.heap.size]? = some (.cells cs 32 (0, 0))) := row_below hb HG5.out
            obtain ⟨v7, w7, v8, w8, hr1, hr2, htb, hb8, hb7⟩ := HZ.out w6 pk ck HB6.out hh
            have HR1 : Hid (∀ ty, _) := hr1
            have HR2 : Hid (∀ ty, _) := hr2
            have HTb : Hid (∃ a8 c8, v8 = .slice a8 (ds.length + 1) c8 ∧ Tb w8 a8 (insD ds (plc ds r.req) ⟨r.req, r.kind, keyB r, run⟩)) := htb
            have HB8 : Hid (Below w.heap.size w w8) := (bel2 HB5.out HB6.out).trans (hb8.mono (by have := HS0.out; omega))
            have HG7 : Hid (w7.heap[w.heap.size]? = some (.cells cs 32 (0, 0)) ∧ w8.heap[w.heap.size]? = some (.cells cs 32 (0, 0))) := ⟨(hb7.block _ (by have := HS0.out; omega)).trans HG6.out, (hb8.block _ (by have := HS0.out; omega)).trans HG6.out⟩
            clear hh hb hr1 hr2 htb hb8 hb7
            refine hK.out _ _ (fun j => cell_of_row _ _ j cs 32 (0, 0) HG6.out) (fun hHeld => ?_)
            clear hK K
            refine wpAnyH_take (i := 10) (oi := { dst := some 57, op := Go.Op.build 37 #[(0, Go.Operand.tmp 51), (1, Go.Operand.tmp 53), (2, Go.Operand.tmp 55), (3, Go.Operand.tmp 56)], type := 37, pos := "ref.go:81", after := #[{ on := 4, ground := Go.Ground.data }, { on := 6, ground := Go.Ground.data }, { on := 8, ground := Go.Ground.data }, { on := 9, ground := Go.Ground.data }], guard := none }) (v := ?_) rfl (by kernel_rfl) (by kernel_rfl) (by kernel_rfl) (fun _ _ _ h => h) (Or.inl ⟨by rfl, ?_⟩) hHeld ?_
            rotate_left 1
            · (intro w hSw; (try dsimp only at hSw); go_simp <;> with_reducible rfl)
            simp only [Act.put, List.setIfInBounds_toArray, List.set_cons_zero, List.set_cons_succ]
            refine wpAnyH_ready (rs := [11]) (by kernel_rfl) (by simp) ?_
            refine AllReadyH.cons (o := { dst := some 58, op := Go.Op.buildSlice 22 1 #[(0, Go.Operand.tmp 57)], type := 22, pos := "ref.go:81", after := #[{ on := 10, ground := Go.Ground.data }], guard := none }) rfl (fun K hK => ?_) AllReadyH.nil
            go_simp
            refine hK.out _ _ (fun j => cell_of_row _ _ j cs 32 (0, 0) (row_below (bel1 w6 _) HG6.out)) (fun hHeld => ?_)
            clear hK K
            refine wpAnyH_ready (rs := [12]) (by kernel_rfl) (by simp) ?_
            refine AllReadyH.cons (o := { dst := some 59, op := Go.Op.call { callee := Go.Callee.builtin Go.Builtin.append, args := #[Go.Operand.tmp 49, Go.Operand.tmp 58], argTypes := #[22, 22] }, type := 22, pos := "ref.go:81", after := #[{ on := 2, ground := Go.Ground.data }, { on := 11, ground := Go.Ground.data }, { on := 8, ground := Go.Ground.chain }], guard := none }) rfl (fun K hK => ?_) AllReadyH.nil
            refine step_app_run rfl _ _ 22 rfl _ _ rfl rfl HR1.out ?_
            refine hK.out _ _ (fun j => cell_of_row _ _ j cs 32 (0, 0) HG7.out.1) (fun hHeld => ?_)
            clear hK K
            simp only [Act.put]
            refine wpAnyH_ready (rs := [14]) (by kernel_rfl) (by simp) ?_
            refine AllReadyH.cons (o := { dst := some 61, op := Go.Op.call { callee := Go.Callee.builtin Go.Builtin.append, args := #[Go.Operand.tmp 59, Go.Operand.tmp 60], argTypes := #[22, 22] }, type := 22, pos := "ref.go:81", after := #[{ on := 12, ground := Go.Ground.data }, { on := 13, ground := Go.Ground.data }, { on := 12, ground := Go.Ground.chain }], guard := none }) rfl (fun K hK => ?_) AllReadyH.nil
            refine step_app_run rfl _ _ 22 rfl _ _ rfl rfl HR2.out ?_
            refine hK.out _ _ (fun j => cell_of_row _ _ j cs 32 (0, 0) HG7.out.2) (fun hHeld => ?_)
            clear hK K
            simp only [Act.put]
            refine wpAnyH_take (i := 15) (oi := { dst := some 6, op := Go.Op.assign (Go.Operand.tmp 61), type := 22, pos := "ref.go:81", after := #[{ on := 14, ground := Go.Ground.data }, { on := 14, ground := Go.Ground.chain }, { on := 0, ground := Go.Ground.phase }, { on := 1, ground := Go.Ground.phase }, { on := 2, ground := Go.Ground.phase }, { on := 3, ground := Go.Ground.phase }, { on := 4, ground := Go.Ground.phase }, { on := 5, ground := Go.Ground.phase }, { on := 6, ground := Go.Ground.phase }, { on := 7, ground := Go.Ground.phase }, { on := 8, ground := Go.Ground.phase }, { on := 9, ground := Go.Ground.phase }, { on := 10, ground := Go.Ground.phase }, { on := 11, ground := Go.Ground.phase }, { on := 12, ground := Go.Ground.phase }, { on := 13, ground := Go.Ground.phase }, { on := 14, ground := Go.Ground.phase }], guard := none }) (v := ?_) rfl (by kernel_rfl) (by kernel_rfl) (by kernel_rfl) (fun _ _ _ h => h) (Or.inl ⟨by rfl, ?_⟩) hHeld ?_
            rotate_left 1
            · (intro w hSw; (try dsimp only at hSw); go_simp <;> with_reducible rfl)
            simp only [Act.put, List.setIfInBounds_toArray, List.set_cons_zero, List.set_cons_succ]
            refine wpAnyH_take (i := 16) (oi := { dst := some 7, op := Go.Op.assign (Go.Operand.const (Go.Value.int Go.IntKind.i64 0)), type := 40, pos := "ref.go:81", after := #[{ on := 15, ground := Go.Ground.chain }, { on := 0, ground := Go.Ground.phase }, { on := 1, ground := Go.Ground.phase }, { on := 2, ground := Go.Ground.phase }, { on := 3, ground := Go.Ground.phase }, { on := 4, ground := Go.Ground.phase }, { on := 5, ground := Go.Ground.phase }, { on := 6, ground := Go.Ground.phase }, { on := 7, ground := Go.Ground.phase }, { on := 8, ground := Go.Ground.phase }, { on := 9, ground := Go.Ground.phase }, { on := 10, ground := Go.Ground.phase }, { on := 11, ground := Go.Ground.phase }, { on := 12, ground := Go.Ground.phase }, { on := 13, ground := Go.Ground.phase }, { on := 14, ground := Go.Ground.phase }, { on := 15, ground := Go.Ground.phase }], guard := none }) (v := ?_) rfl (by kernel_rfl) (by kernel_rfl) (by kernel_rfl) (fun _ _ _ h => h) (Or.inl ⟨by rfl, ?_⟩) hHeld ?_
            rotate_left 1
            · (intro w hSw; (try dsimp only at hSw); go_simp <;> with_reducible rfl)
            simp only [Act.put, List.setIfInBounds_toArray, List.set_cons_zero, List.set_cons_succ]
            refine wpAnyH_done (by kernel_rfl) ?_ _
            obtain ⟨a8, c8, e8, t8⟩ := HTb.out
            subst e8
            have HT8 : Hid (Tb w8 a8 _) := t8
            clear t8
            go_wp2_with fail
            exact HQ3.out HNo.out _ _ _ HT8.out HB8.out
        · obtain rfl : j = n := by omega
          have hjn : decide ((j : Int) < (j : Int)) = false := decide_eq_false (by omega)
          have HP : Hid (plc ds r.req = j) := plc_at (by have := HNd.out; omega) HF.out (.inl HNd.out.symm)
          go_upto_region 8 with fail
          refine wp_region_held_drew (S := (fun w' => (∀ j, w'.cell? ⟨w.heap.size, j, none⟩ = cs[j]?))) (by kernel_rfl) (fun j => cell_of_row _ _ j cs 32 (0, 0) HGr.out) (fun hHeld => ?_)
          change wpAnyH _ _ _ _ _ _ _ _ (World.drew _)
          refine wpAnyH_take (i := 0) (oi := { dst := some 27, op := Go.Op.move (Go.Operand.tmp 10), type := 3, pos := "ref.go:77", after := #[], guard := none }) (v := ?_) rfl (by kernel_rfl) (by kernel_rfl) (by kernel_rfl) (fun _ _ _ h => h) (Or.inl ⟨by rfl, ?_⟩) hHeld ?_
          rotate_left 1
          · (intro w hSw; (try dsimp only at hSw); go_simp <;> with_reducible rfl)
          simp only [Act.put, List.setIfInBounds_toArray, List.set_cons_zero, List.set_cons_succ]
          refine wpAnyH_take (i := 1) (oi := { dst := some 28, op := Go.Op.move (Go.Operand.tmp 0), type := 22, pos := "ref.go:77", after := #[], guard := none }) (v := ?_) rfl (by kernel_rfl) (by kernel_rfl) (by kernel_rfl) (fun _ _ _ h => h) (Or.inl ⟨by rfl, ?_⟩) hHeld ?_
          rotate_left 1
          · (intro w hSw; (try dsimp only at hSw); go_simp <;> with_reducible rfl)
          simp only [Act.put, List.setIfInBounds_toArray, List.set_cons_zero, List.set_cons_succ]
          refine wpAnyH_take (i := 2) (oi := { dst := some 29, op := Go.Op.call { callee := Go.Callee.builtin Go.Builtin.len, args := #[Go.Operand.tmp 28], argTypes := #[22] }, type := 3, pos := "ref.go:77", after := #[{ on := 1, ground := Go.Ground.data }], guard := none }) (v := ?_) rfl (by kernel_rfl) (by kernel_rfl) (by kernel_rfl) (fun _ _ _ h => h) (Or.inl ⟨by rfl, ?_⟩) hHeld ?_
          rotate_left 1
          · (intro w hSw; (try dsimp only at hSw); go_simp <;> with_reducible rfl)
          simp only [Act.put, List.setIfInBounds_toArray, List.set_cons_zero, List.set_cons_succ]
          refine wpAnyH_take (i := 3) (oi := { dst := some 30, op := Go.Op.binOp Go.BinOp.lss 3 (Go.Operand.tmp 27) (Go.Operand.tmp 29) 3, type := 4, pos := "ref.go:77", after := #[{ on := 0, ground := Go.Ground.data }, { on := 2, ground := Go.Ground.data }], guard := none }) (v := ?_) rfl (by kernel_rfl) (by kernel_rfl) (by kernel_rfl) (fun _ _ _ h => h) (Or.inl ⟨by rfl, ?_⟩) hHeld ?_
          rotate_left 1
          · (intro w hSw; (try dsimp only at hSw); go_simp <;> with_reducible rfl)
          simp only [Act.put, List.setIfInBounds_toArray, List.set_cons_zero, List.set_cons_succ]
          refine wpAnyH_take (i := 4) (oi := { dst := some 31, op := Go.Op.move (Go.Operand.tmp 30), type := 4, pos := "ref.go:77", after := #[{ on := 3, ground := Go.Ground.data }], guard := none }) (v := ?_) rfl (by kernel_rfl) (by kernel_rfl) (by kernel_rfl) (fun _ _ _ h => h) (Or.inl ⟨by rfl, ?_⟩) hHeld ?_
          rotate_left 1
          · (intro w hSw; (try dsimp only at hSw); go_simp <;> with_reducible rfl)
          simp only [Act.put, List.setIfInBounds_toArray, List.set_cons_zero, List.set_cons_succ]
          refine wpAnyH_take (i := 5) (oi := { dst := some 32, op := Go.Op.move (Go.Operand.tmp 0), type := 22, pos := "ref.go:77", after := #[{ on := 4, ground := Go.Ground.guard }], guard := some (4, true) }) (v := undef) rfl (by kernel_rfl) (by kernel_rfl) (by kernel_rfl) (fun _ _ _ h => h) (Or.inr ⟨by rfl, rfl⟩) hHeld ?_
          simp only [Act.put, List.setIfInBounds_toArray, List.set_cons_zero, List.set_cons_succ]
          refine wpAnyH_take (i := 6) (oi := { dst := some 33, op := Go.Op.move (Go.Operand.tmp 10), type := 3, pos := "ref.go:77", after := #[{ on := 4, ground := Go.Ground.guard }], guard := some (4, true) }) (v := undef) rfl (by kernel_rfl) (by kernel_rfl) (by kernel_rfl) (fun _ _ _ h => h) (Or.inr ⟨by rfl, rfl⟩) hHeld ?_
          simp only [Act.put, List.setIfInBounds_toArray, List.set_cons_zero, List.set_cons_succ]
          refine wpAnyH_take (i := 7) (oi := { dst := some 34, op := Go.Op.indexAddr 22 (Go.Operand.tmp 32) (Go.Operand.tmp 33), type := 0, pos := "ref.go:77", after := #[{ on := 5, ground := Go.Ground.data }, { on := 6, ground := Go.Ground.data }, { on := 4, ground := Go.Ground.guard }], guard := some (4, true) }) (v := undef) rfl (by kernel_rfl) (by kernel_rfl) (by kernel_rfl) (fun _ _ _ h => h) (Or.inr ⟨by rfl, rfl⟩) hHeld ?_
          simp only [Act.put, List.setIfInBounds_toArray, List.set_cons_zero, List.set_cons_succ]
          refine wpAnyH_take (i := 8) (oi := { dst := some 35, op := Go.Op.fieldAddr 37 (Go.Operand.tmp 34) 0, type := 0, pos := "ref.go:77", after := #[{ on := 7, ground := Go.Ground.data }, { on := 4, ground := Go.Ground.guard }], guard := some (4, true) }) (v := undef) rfl (by kernel_rfl) (by kernel_rfl) (by kernel_rfl) (fun _ _ _ h => h) (Or.inr ⟨by rfl, rfl⟩) hHeld ?_
          simp only [Act.put, List.setIfInBounds_toArray, List.set_cons_zero, List.set_cons_succ]
          refine wpAnyH_take (i := 9) (oi := { dst := some 36, op := Go.Op.load 9 (Go.Operand.tmp 35), type := 9, pos := "ref.go:77", after := #[{ on := 8, ground := Go.Ground.data }, { on := 4, ground := Go.Ground.guard }], guard := some (4, true) }) (v := undef) rfl (by kernel_rfl) (by kernel_rfl) (by kernel_rfl) (fun _ _ _ h => h) (Or.inr ⟨by rfl, rfl⟩) hHeld ?_
          simp only [Act.put, List.setIfInBounds_toArray, List.set_cons_zero, List.set_cons_succ]
          refine wpAnyH_take (i := 10) (oi := { dst := some 37, op := Go.Op.fieldAddr 32 (Go.Operand.tmp 4) 2, type := 0, pos := "ref.go:77", after := #[{ on := 4, ground := Go.Ground.guard }], guard := some (4, true) }) (v := undef) rfl (by kernel_rfl) (by kernel_rfl) (by kernel_rfl) (fun _ _ _ h => h) (Or.inr ⟨by rfl, rfl⟩) hHeld ?_
          simp only [Act.put, List.setIfInBounds_toArray, List.set_cons_zero, List.set_cons_succ]
          refine wpAnyH_take (i := 11) (oi := { dst := some 38, op := Go.Op.load 9 (Go.Operand.tmp 37), type := 9, pos := "ref.go:77", after := #[{ on := 10, ground := Go.Ground.data }, { on := 4, ground := Go.Ground.guard }], guard := some (4, true) }) (v := undef) rfl (by kernel_rfl) (by kernel_rfl) (by kernel_rfl) (fun _ _ _ h => h) (Or.inr ⟨by rfl, rfl⟩) hHeld ?_
          simp only [Act.put, List.setIfInBounds_toArray, List.set_cons_zero, List.set_cons_succ]
          refine wpAnyH_take (i := 12) (oi := { dst := some 39, op := Go.Op.binOp Go.BinOp.leq 9 (Go.Operand.tmp 36) (Go.Operand.tmp 38) 9, type := 4, pos := "ref.go:77", after := #[{ on := 9, ground := Go.Ground.data }, { on := 11, ground := Go.Ground.data }, { on := 4, ground := Go.Ground.guard }], guard := some (4, true) }) (v := undef) rfl (by kernel_rfl) (by kernel_rfl) (by kernel_rfl) (fun _ _ _ h => h) (Or.inr ⟨by rfl, rfl⟩) hHeld ?_
          simp only [Act.put, List.setIfInBounds_toArray, List.set_cons_zero, List.set_cons_succ]
          refine wpAnyH_take (i := 13) (oi := { dst := some 40, op := Go.Op.pick (Go.Operand.tmp 31) (Go.Operand.tmp 39) (Go.Operand.const (Go.Value.bool false)), type := 4, pos := "ref.go:77", after := #[{ on := 4, ground := Go.Ground.data }, { on := 12, ground := Go.Ground.data }], guard := none }) (v := ?_) rfl (by kernel_rfl) (by kernel_rfl) (by kernel_rfl) (fun _ _ _ h => h) (Or.inl ⟨by rfl, ?_⟩) hHeld ?_
          rotate_left 1
          · (intro w hSw; (try dsimp only at hSw); go_simp <;> with_reducible rfl)
          simp only [Act.put, List.setIfInBounds_toArray, List.set_cons_zero, List.set_cons_succ]
          refine wpAnyH_done (by kernel_rfl) ?_ _
          have HUd : Hid (Gr4 W0.heap.size wr.drew (.slice ua j uc) ds) := HUr.out.below (Below.refl _ wr).drew
          obtain ⟨sv, hsv⟩ := sl_from_any ua j uc j (Nat.le_refl _)
          have hsh : ∃ q d, sv = .slice q 0 d := by
            have := hsv W
            rw [run_slice_l W 22 ua j uc (by rw [elem22]; exact Try.underlying22) .i64 _ (by omega) (by omega), elem22, z37] at this
            simp only [Result.andThen, sliced] at this
            injection this with this
            exact ⟨_, _, by rw [← this]; simp; exact ⟨rfl, rfl⟩⟩
          obtain ⟨sq, sd, esv⟩ := hsh
          subst esv
          have hfull : ∀ w, (Instr.slice 22 (.slice ua j uc) none (some (.int .i64 (j : Int))) none).run Try.prog w = .ok (.slice ua j uc) w := by
            obtain ⟨cells, ⟨_, ⟨e, e0⟩ | ⟨g', cap', _, e, _, _, hle, _⟩⟩, _⟩ := HUd.out
            · simp only [Value.slice.injEq] at e
              exact sl_head_full _ _ _ _ rfl (fun _ => ⟨e.2.1, e.2.2⟩) (fun x hx => by rw [e.1] at hx; cases hx) (by omega)
            · simp only [Value.slice.injEq] at e
              exact sl_head_full _ _ _ _ rfl (fun hn => by rw [hn] at e; cases e.1) (fun x hx => by rw [e.1] at hx; cases hx; exact ⟨g', rfl⟩) (by have := HNd.out; omega)
          have HZ : Hid (AppZ W0.heap.size wr.drew (.slice ua j uc) (.slice none 0 0) ds (plc ds r.req) r run) := by
            rw [HP.out, ← HNd.out]
            rw [← HNd.out] at HUd
            exact appZ_end HUd.out (by have := HNd.out; have := HSd.out; omega) HWr.out
          have hnone := fun W => app_none (.slice none 0 0) 0 0 none sq sd (Nat.le_refl _) rfl W
          have HB5 : Hid (Below w.heap.size w wr.drew) := HBw.out.drew
          have HG5 : Hid (wr.drew.heap[w.heap.size]? = some (.cells cs 32 (0, 0))) := HGr.out
          generalize wr.drew = w5 at HZ HB5 HG5 ⊢
          clear HUd
          go_upto_region 11 with (at_builtin; refine Lib.wpList_append_run _ rfl _ _ 22 22 rfl _ _ rfl rfl _ _ (hnone _ _) ?_)
          refine wp_region_held_drew (S := (fun w' => ∀ j, w'.cell? ⟨w.heap.size, j, none⟩ = cs[j]?)) (by kernel_rfl) (fun j => cell_of_row _ _ j cs 32 (0, 0) HG5.out) (fun hHeld => ?_)
          change wpAnyH _ _ _ _ _ _ _ _ (World.drew _)
          refine wpAnyH_take (i := 0) (oi := { dst := some 47, op := Go.Op.move (Go.Operand.tmp 0), type := 22, pos := "ref.go:81", after := #[], guard := none }) (v := ?_) rfl (by kernel_rfl) (by kernel_rfl) (by kernel_rfl) (fun _ _ _ h => h) (Or.inl ⟨by rfl, ?_⟩) hHeld ?_
          rotate_left 1
          · (intro w hSw; (try dsimp only at hSw); go_simp <;> with_reducible rfl)
          simp only [Act.put, List.setIfInBounds_toArray, List.set_cons_zero, List.set_cons_succ]
          refine wpAnyH_take (i := 1) (oi := { dst := some 48, op := Go.Op.move (Go.Operand.tmp 10), type := 3, pos := "ref.go:81", after := #[], guard := none }) (v := ?_) rfl (by kernel_rfl) (by kernel_rfl) (by kernel_rfl) (fun _ _ _ h => h) (Or.inl ⟨by rfl, ?_⟩) hHeld ?_
          rotate_left 1
          · (intro w hSw; (try dsimp only at hSw); go_simp <;> with_reducible rfl)
          simp only [Act.put, List.setIfInBounds_toArray, List.set_cons_zero, List.set_cons_succ]
          refine wpAnyH_take (i := 2) (oi := { dst := some 49, op := Go.Op.slice 22 (Go.Operand.tmp 47) none (some (Go.Operand.tmp 48)) none, type := 22, pos := "ref.go:81", after := #[{ on := 0, ground := Go.Ground.data }, { on := 1, ground := Go.Ground.data }], guard := none }) (v := ?_) rfl (by kernel_rfl) (by kernel_rfl) (by kernel_rfl) (fun _ _ _ h => h) (Or.inl ⟨by rfl, ?_⟩) hHeld ?_
          rotate_left 1
          · (intro w hSw; (try dsimp only at hSw); go_simp <;> with_reducible rfl)
          simp only [Act.put, List.setIfInBounds_toArray, List.set_cons_zero, List.set_cons_succ]
          refine wpAnyH_take (i := 3) (oi := { dst := some 50, op := Go.Op.fieldAddr 32 (Go.Operand.tmp 4) 2, type := 0, pos := "ref.go:81", after := #[], guard := none }) (v := ?_) rfl (by kernel_rfl) (by kernel_rfl) (by kernel_rfl) (fun _ _ _ h => h) (Or.inl ⟨by rfl, ?_⟩) hHeld ?_
          rotate_left 1
          · (intro w hSw; (try dsimp only at hSw); go_simp <;> with_reducible rfl)
          simp only [Act.put, List.setIfInBounds_toArray, List.set_cons_zero, List.set_cons_succ]
          refine wpAnyH_take (i := 4) (oi := { dst := some 51, op := Go.Op.load 9 (Go.Operand.tmp 50), type := 9, pos := "ref.go:81", after := #[{ on := 3, ground := Go.Ground.data }], guard := none }) (v := ?_) rfl (by kernel_rfl) (by kernel_rfl) (by kernel_rfl) (fun _ _ _ h => h) (Or.inl ⟨by rfl, ?_⟩) hHeld ?_
          rotate_left 1
          · (intro w hSw; (try dsimp only at hSw); go_simp <;> with_reducible rfl)
          simp only [Act.put, List.setIfInBounds_toArray, List.set_cons_zero, List.set_cons_succ]
          refine wpAnyH_take (i := 5) (oi := { dst := some 52, op := Go.Op.fieldAddr 32 (Go.Operand.tmp 4) 0, type := 0, pos := "ref.go:81", after := #[], guard := none }) (v := ?_) rfl (by kernel_rfl) (by kernel_rfl) (by kernel_rfl) (fun _ _ _ h => h) (Or.inl ⟨by rfl, ?_⟩) hHeld ?_
          rotate_left 1
          · (intro w hSw; (try dsimp only at hSw); go_simp <;> with_reducible rfl)
          simp only [Act.put, List.setIfInBounds_toArray, List.set_cons_zero, List.set_cons_succ]
          refine wpAnyH_take (i := 6) (oi := { dst := some 53, op := Go.Op.load 3 (Go.Operand.tmp 52), type := 3, pos := "ref.go:81", after := #[{ on := 5, ground := Go.Ground.data }], guard := none }) (v := ?_) rfl (by kernel_rfl) (by kernel_rfl) (by kernel_rfl) (fun _ _ _ h => h) (Or.inl ⟨by rfl, ?_⟩) hHeld ?_
          rotate_left 1
          · (intro w hSw; (try dsimp only at hSw); go_simp <;> with_reducible rfl)
          simp only [Act.put, List.setIfInBounds_toArray, List.set_cons_zero, List.set_cons_succ]
          refine wpAnyH_take (i := 9) (oi := { dst := some 56, op := Go.Op.move (Go.Operand.tmp 2), type := 3, pos := "ref.go:81", after := #[], guard := none }) (v := ?_) rfl (by kernel_rfl) (by kernel_rfl) (by kernel_rfl) (fun _ _ _ h => h) (Or.inl ⟨by rfl, ?_⟩) hHeld ?_
          rotate_left 1
          · (intro w hSw; (try dsimp only at hSw); go_simp <;> with_reducible rfl)
          simp only [Act.put, List.setIfInBounds_toArray, List.set_cons_zero, List.set_cons_succ]
          refine wpAnyH_take (i := 13) (oi := { dst := some 60, op := Go.Op.move (Go.Operand.tmp 11), type := 22, pos := "ref.go:81", after := #[], guard := none }) (v := ?_) rfl (by kernel_rfl) (by kernel_rfl) (by kernel_rfl) (fun _ _ _ h => h) (Or.inl ⟨by rfl, ?_⟩) hHeld ?_
          rotate_left 1
          · (intro w hSw; (try dsimp only at hSw); go_simp <;> with_reducible rfl)
          simp only [Act.put, List.setIfInBounds_toArray, List.set_cons_zero, List.set_cons_succ]
          refine wpAnyH_take (i := 7) (oi := { dst := some 54, op := Go.Op.load 32 (Go.Operand.tmp 4), type := 32, pos := "ref.go:81", after := #[], guard := none }) (v := _) rfl (by kernel_rfl) (by kernel_rfl) (by kernel_rfl) (fun _ _ _ h => h) (yieldsIf_load_mid rfl 32 _ rfl w.heap.size 0 rfl cs.toList _ (fun w h => range0 h) Try.underlying32 rfl hi32l) hHeld ?_
          simp only [Act.put, List.setIfInBounds_toArray, List.set_cons_zero, List.set_cons_succ]
          refine wpAnyH_ready (rs := [8]) (by kernel_rfl) (by simp) ?_
          refine AllReadyH.cons (o := { dst := some 55, op := Go.Op.call { callee := Go.Callee.value (Go.Operand.func 20), args := #[Go.Operand.tmp 54], argTypes := #[32] }, type := 35, pos := "ref.go:81", after := #[{ on := 7, ground := Go.Ground.data }], guard := none }) rfl (fun K hK => ?_) AllReadyH.nil
          go_simp
          refine Calls.mono (KK.out _ HB5.out.drew) ?_
          rintro e w6 ⟨v6, rfl, hh, hb⟩
          obtain ⟨pk, ck, ef⟩ := holds_form hh.1
          subst ef
          have HB6 : Hid (Below w5.heap.size w5 w6) := bel2 (Below.refl _ w5).drew hb
          have HG6 : Hid (w6.heap[w.heap.size]? = some (.cells cs 32 (0, 0))) := row_below hb HG5.out
          obtain ⟨v7, w7, v8, w8, hr1, hr2, htb, hb8, hb7⟩ := HZ.out w6 pk ck HB6.out hh
          have HR1 : Hid (∀ ty, _) := hr1
          have HR2 : Hid (∀ ty, _) := hr2
          have HTb : Hid (∃ a8 c8, v8 = .slice a8 (ds.length + 1) c8 ∧ Tb w8 a8 (insD ds (plc ds r.req) ⟨r.req, r.kind, keyB r, run⟩)) := htb
          have HB8 : Hid (Below w.heap.size w w8) := (bel2 HB5.out HB6.out).trans (hb8.mono (by have := HS0.out; omega))
          have HG7 : Hid (w7.heap[w.heap.size]? = some (.cells cs 32 (0, 0)) ∧ w8.heap[w.heap.size]? = some (.cells cs 32 (0, 0))) := ⟨(hb7.block _ (by have := HS0.out; omega)).trans HG6.out, (hb8.block _ (by have := HS0.out; omega)).trans HG6.out⟩
          clear hh hb hr1 hr2 htb hb8 hb7
          refine hK.out _ _ (fun j => cell_of_row _ _ j cs 32 (0, 0) HG6.out) (fun hHeld => ?_)
          clear hK K
          refine wpAnyH_take (i := 10) (oi := { dst := some 57, op := Go.Op.build 37 #[(0, Go.Operand.tmp 51), (1, Go.Operand.tmp 53), (2, Go.Operand.tmp 55), (3, Go.Operand.tmp 56)], type := 37, pos := "ref.go:81", after := #[{ on := 4, ground := Go.Ground.data }, { on := 6, ground := Go.Ground.data }, { on := 8, ground := Go.Ground.data }, { on := 9, ground := Go.Ground.data }], guard := none }) (v := ?_) rfl (by kernel_rfl) (by kernel_rfl) (by kernel_rfl) (fun _ _ _ h => h) (Or.inl ⟨by rfl, ?_⟩) hHeld ?_
          rotate_left 1
          · (intro w hSw; (try dsimp only at hSw); go_simp <;> with_reducible rfl)
          simp only [Act.put, List.setIfInBounds_toArray, List.set_cons_zero, List.set_cons_succ]
          refine wpAnyH_ready (rs := [11]) (by kernel_rfl) (by simp) ?_
          refine AllReadyH.cons (o := { dst := some 58, op := Go.Op.buildSlice 22 1 #[(0, Go.Operand.tmp 57)], type := 22, pos := "ref.go:81", after := #[{ on := 10, ground := Go.Ground.data }], guard := none }) rfl (fun K hK => ?_) AllReadyH.nil
          go_simp
          refine hK.out _ _ (fun j => cell_of_row _ _ j cs 32 (0, 0) (row_below (bel1 w6 _) HG6.out)) (fun hHeld => ?_)
          clear hK K
          refine wpAnyH_ready (rs := [12]) (by kernel_rfl) (by simp) ?_
          refine AllReadyH.cons (o := { dst := some 59, op := Go.Op.call { callee := Go.Callee.builtin Go.Builtin.append, args := #[Go.Operand.tmp 49, Go.Operand.tmp 58], argTypes := #[22, 22] }, type := 22, pos := "ref.go:81", after := #[{ on := 2, ground := Go.Ground.data }, { on := 11, ground := Go.Ground.data }, { on := 8, ground := Go.Ground.chain }], guard := none }) rfl (fun K hK => ?_) AllReadyH.nil
          refine step_app_run rfl _ _ 22 rfl _ _ rfl rfl HR1.out ?_
          refine hK.out _ _ (fun j => cell_of_row _ _ j cs 32 (0, 0) HG7.out.1) (fun hHeld => ?_)
          clear hK K
          simp only [Act.put]
          refine wpAnyH_ready (rs := [14]) (by kernel_rfl) (by simp) ?_
          refine AllReadyH.cons (o := { dst := some 61, op := Go.Op.call { callee := Go.Callee.builtin Go.Builtin.append, args := #[Go.Operand.tmp 59, Go.Operand.tmp 60], argTypes := #[22, 22] }, type := 22, pos := "ref.go:81", after := #[{ on := 12, ground := Go.Ground.data }, { on := 13, ground := Go.Ground.data }, { on := 12, ground := Go.Ground.chain }], guard := none }) rfl (fun K hK => ?_) AllReadyH.nil
          refine step_app_run rfl _ _ 22 rfl _ _ rfl rfl HR2.out ?_
          refine hK.out _ _ (fun j => cell_of_row _ _ j cs 32 (0, 0) HG7.out.2) (fun hHeld => ?_)
          clear hK K
          simp only [Act.put]
          refine wpAnyH_take (i := 15) (oi := { dst := some 6, op := Go.Op.assign (Go.Operand.tmp 61), type := 22, pos := "ref.go:81", after := #[{ on := 14, ground := Go.Ground.data }, { on := 14, ground := Go.Ground.chain }, { on := 0, ground := Go.Ground.phase }, { on := 1, ground := Go.Ground.phase }, { on := 2, ground := Go.Ground.phase }, { on := 3, ground := Go.Ground.phase }, { on := 4, ground := Go.Ground.phase }, { on := 5, ground := Go.Ground.phase }, { on := 6, ground := Go.Ground.phase }, { on := 7, ground := Go.Ground.phase }, { on := 8, ground := Go.Ground.phase }, { on := 9, ground := Go.Ground.phase }, { on := 10, ground := Go.Ground.phase }, { on := 11, ground := Go.Ground.phase }, { on := 12, ground := Go.Ground.phase }, { on := 13, ground := Go.Ground.phase }, { on := 14, ground := Go.Ground.phase }], guard := none }) (v := ?_) rfl (by kernel_rfl) (by kernel_rfl) (by kernel_rfl) (fun _ _ _ h => h) (Or.inl ⟨by rfl, ?_⟩) hHeld ?_
          rotate_left 1
          · (intro w hSw; (try dsimp only at hSw); go_simp <;> with_reducible rfl)
          simp only [Act.put, List.setIfInBounds_toArray, List.set_cons_zero, List.set_cons_succ]
          refine wpAnyH_take (i := 16) (oi := { dst := some 7, op := Go.Op.assign (Go.Operand.const (Go.Value.int Go.IntKind.i64 0)), type := 40, pos := "ref.go:81", after := #[{ on := 15, ground := Go.Ground.chain }, { on := 0, ground := Go.Ground.phase }, { on := 1, ground := Go.Ground.phase }, { on := 2, ground := Go.Ground.phase }, { on := 3, ground := Go.Ground.phase }, { on := 4, ground := Go.Ground.phase }, { on := 5, ground := Go.Ground.phase }, { on := 6, ground := Go.Ground.phase }, { on := 7, ground := Go.Ground.phase }, { on := 8, ground := Go.Ground.phase }, { on := 9, ground := Go.Ground.phase }, { on := 10, ground := Go.Ground.phase }, { on := 11, ground := Go.Ground.phase }, { on := 12, ground := Go.Ground.phase }, { on := 13, ground := Go.Ground.phase }, { on := 14, ground := Go.Ground.phase }, { on := 15, ground := Go.Ground.phase }], guard := none }) (v := ?_) rfl (by kernel_rfl) (by kernel_rfl) (by kernel_rfl) (fun _ _ _ h => h) (Or.inl ⟨by rfl, ?_⟩) hHeld ?_
          rotate_left 1
          · (intro w hSw; (try dsimp only at hSw); go_simp <;> with_reducible rfl)
          simp only [Act.put, List.setIfInBounds_toArray, List.set_cons_zero, List.set_cons_succ]
          refine wpAnyH_done (by kernel_rfl) ?_ _
          obtain ⟨a8, c8, e8, t8⟩ := HTb.out
          subst e8
          have HT8 : Hid (Tb w8 a8 _) := t8
          clear t8
          go_wp2_with fail
          exact HQ3.out HNo.out _ _ _ HT8.out HB8.out
end Go.Proofs.Ytlcgjehepalmcaa
