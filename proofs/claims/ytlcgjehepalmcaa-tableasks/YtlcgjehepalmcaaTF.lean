/- The contracts of Ask and Add. -/
import Derived.Test.YtlcgjehepalmcaaTD
namespace Go.Proofs.Ytlcgjehepalmcaa
open Go.ChangeShapes Go.WideShapes Go.ChangeAt Go.RowKit
theorem range0 {w : World} {g : Nat} {cs : Array Value} (h : ∀ j, w.cell? ⟨g, j, none⟩ = cs[j]?) : w.rangeAt g 0 cs.toList := fun j v hj => by
  rw [Nat.zero_add, h j]
  simpa using hj
theorem info32l (cs : Array Value) (h : cs.size = 17) : (Try.prog.info? 32).map (·.size) = some cs.toList.length := by
  rw [Array.length_toList, h]
  kernel_rfl
/-- What Ask tells. -/
def askR (ds : List Dn) (r : Rq) : Int × Int := match fnd ds r.req with
  | none => (0, 6)
  | some d => if (d.k == r.kind && d.y == keyB r) = true then (d.r, 0) else (0, 15)
def AkP (w : World) (x : Int × Int) (e : Ending) (w' : World) : Prop := e = .returned (.tuple #[.int .i64 x.1, .int .i64 x.2]) ∧ Below w.heap.size w w'
set_option maxHeartbeats 4000000 in
set_option maxRecDepth 100000 in
theorem ask_calls (ds : List Dn) (a : Option Addr) (n c : Nat) (hn : ds.length = n) (hs : n ≤ 500) (hy : ∀ d ∈ ds, d.y.length ≤ 140737488355328) (N : Nat) (cs : Array Value) (r : Rq) (w : World) (h : Tb w a ds) (hr : IsR w N cs r) :
    Calls Try.prog 11 #[.slice a n c, .agg cs] w (AkP w (askR ds r)) := by
  have KF : Hid (∀ W, Below w.heap.size w W → Calls Try.prog 9 #[.slice a n c, .string r.req] W (FdP W (fnd ds r.req))) := fun W hB => find_calls r.req ds a n c hn (by omega) hy W (h.below hB)
  have KK : Hid (∀ W, Below w.heap.size w W → Calls Try.prog 19 #[.agg cs] W (KyP W (keyB r))) := fun W hB => key_calls N cs r W (hr.below hB)
  have hi32 := info32s cs hr.size
  have hi32l := info32l cs hr.size
  have c0 := hr.c0
  have c2 := hr.c2
  have HQ0 : Hid (fnd ds r.req = none → ∀ w', Below w.heap.size w w' → AkP w (askR ds r) (.returned (.tuple #[.int .i64 0, .int .i64 6])) w') := fun e w' hb => by
    unfold askR
    rw [e]
    exact ⟨rfl, hb⟩
  have HQ1 : Hid (∀ d, fnd ds r.req = some d → (d.k == r.kind && d.y == keyB r) = true → ∀ w', Below w.heap.size w w' → AkP w (askR ds r) (.returned (.tuple #[.int .i64 d.r, .int .i64 0])) w') := fun d e h2 w' hb => by
    unfold askR
    rw [e]
    dsimp only
    rw [if_pos h2]
    exact ⟨rfl, hb⟩
  have HQ2 : Hid (∀ d, fnd ds r.req = some d → (d.k == r.kind && d.y == keyB r) = false → ∀ w', Below w.heap.size w w' → AkP w (askR ds r) (.returned (.tuple #[.int .i64 0, .int .i64 15])) w') := fun d e h2 w' hb => by
    unfold askR
    rw [e]
    dsimp only
    rw [if_neg (by rw [h2]; decide)]
    exact ⟨rfl, hb⟩
  generalize AkP w (askR ds r) = Q at HQ0 HQ1 HQ2 ⊢
  have HG0 : Hid ((w.alloc (.cells cs 32)).heap[w.heap.size]? = some (.cells cs 32 (0, 0))) := heap_alloc_last w _
  have g0 : ∀ j, (w.alloc (.cells cs 32)).cell? ⟨w.heap.size, j, none⟩ = cs[j]? := fun j => cell_of_row _ _ j cs 32 (0, 0) HG0.out
  have HB0 : Hid (Below w.heap.size w (w.alloc (.cells cs 32))) := bel1 _ _
  obtain ⟨o, ho⟩ : ∃ o, o = fnd ds r.req := ⟨_, rfl⟩
  rw [← ho] at KF HQ0 HQ1 HQ2
  clear h hr hn hs hy ho
  go_enter Try.func11, Try.ntmps11
  go_upto_region 1 with fail
  change Code.wp _ _ _ _ (w.alloc (.cells cs 32))
  generalize w.alloc (.cells cs 32) = W0 at HG0 HB0 g0 ⊢
  go_wp2_with fail
  refine (KF.out _ HB0.out).mono ?_
  rintro e w1 ⟨hf1, hf2, hb⟩
  have HB1 : Hid (Below w.heap.size w w1) := bel2 HB0.out hb
  have HG1 : Hid (w1.heap[w.heap.size]? = some (.cells cs 32 (0, 0))) := row_below hb HG0.out
  have n1 : (w1.alloc (.cells #[.string ⟨#[]⟩, .int .i64 0, .slice none 0 0, .int .i64 0] 37)).heap[w1.heap.size]? = some (.cells #[.string ⟨#[]⟩, .int .i64 0, .slice none 0 0, .int .i64 0] 37 (0, 0)) := heap_alloc_last w1 _
  cases o with
  | none =>
    obtain rfl := hf2 rfl
    clear hf1 hf2 hb g0 KF KK
    go_wp2_with (refine wpList_store_row rfl 37 _ _ rfl w1.heap.size _ rfl rfl 37 _ n1 info37s rfl (one4 _ _ _ _ _ _) ?_)
    exact HQ0.out trivial _ (below_setRow (g := w1.heap.size) (bel2 HB1.out (bel1 w1 _)) HB1.out.size _)
  | some d =>
    obtain ⟨p, c', rfl, hown⟩ := hf1 d rfl
    have HD : Hid ((w1.alloc (.cells #[.string d.s, .int .i64 d.k, .slice p d.y.length c', .int .i64 d.r] 37)).heap[w1.heap.size]? = some (.cells #[.string d.s, .int .i64 d.k, .slice p d.y.length c', .int .i64 d.r] 37 (0, 0))) := heap_alloc_last w1 _
    have HG : Hid ((w1.alloc (.cells #[.string d.s, .int .i64 d.k, .slice p d.y.length c', .int .i64 d.r] 37)).heap[w.heap.size]? = some (.cells cs 32 (0, 0))) := row_below (bel1 w1 _) HG1.out
    have HB : Hid (Below w.heap.size w (w1.alloc (.cells #[.string d.s, .int .i64 d.k, .slice p d.y.length c', .int .i64 d.r] 37))) := bel2 HB1.out (bel1 w1 _)
    have HY4 : Hid (Lib.HoldsBytes (w1.alloc (.cells #[.string d.s, .int .i64 d.k, .slice p d.y.length c', .int .i64 d.r] 37)) (.slice p d.y.length c') d.y) := holds_below hown.holds (bel1 w1 _)
    clear hf1 hf2 hb g0 KF hown
    go_upto_region 2 with (refine wpList_store_row rfl 37 _ _ rfl w1.heap.size _ rfl rfl 37 _ n1 info37s rfl (one4 _ _ _ _ _ _) ?_)
    rw [World.setRow_alloc_new]
    generalize w1.alloc (.cells #[.string d.s, .int .i64 d.k, .slice p d.y.length c', .int .i64 d.r] 37) = W2 at HD HG HB HY4 ⊢
    generalize w1.heap.size = gd at HD ⊢
    clear n1 HB1 HG1
    go_upto_region 4 with fail
    by_cases hk : d.k = r.kind
    · have hk1 : (d.k == r.kind) = true := by simpa using hk
      have hk2 : (d.k != r.kind) = false := by simp [hk]
      have HKe : Hid ((d.k == r.kind) = true) := hk1
      clear hk
      have hx0 : (#[.string d.s, .int .i64 d.k, .slice p d.y.length c', .int .i64 d.r] : Array Value)[1]? = some (.int .i64 d.k) := rfl
      have hx2 : (#[.string d.s, .int .i64 d.k, .slice p d.y.length c', .int .i64 d.r] : Array Value)[2]? = some (.slice p d.y.length c') := rfl
      have hx3 : (#[.string d.s, .int .i64 d.k, .slice p d.y.length c', .int .i64 d.r] : Array Value)[3]? = some (.int .i64 d.r) := rfl
      obtain ⟨be, hbe⟩ : ∃ be, be = (d.y == keyB r) := ⟨_, rfl⟩
      have HBe : Hid (be = (d.y == keyB r)) := hbe
      clear hbe
      refine wp_region_held_drew (S := (fun w' => (∀ j, w'.cell? ⟨gd, j, none⟩ = (#[.string d.s, .int .i64 d.k, .slice p d.y.length c', .int .i64 d.r] : Array Value)[j]?) ∧ (∀ j, w'.cell? ⟨w.heap.size, j, none⟩ = cs[j]?))) (by kernel_rfl) ⟨fun j => cell_of_row _ _ j _ 37 (0, 0) HD.out, fun j => cell_of_row _ _ j cs 32 (0, 0) HG.out⟩ (fun hHeld => ?_)
      change wpAnyH _ _ _ _ _ _ _ _ (World.drew _)
      refine wpAnyH_take (i := 0) (oi := { dst := some 19, op := Go.Op.fieldAddr 37 (Go.Operand.tmp 6) 1, type := 0, pos := "table.go:81", after := #[], guard := none }) (v := ?_) rfl (by kernel_rfl) (by kernel_rfl) (by kernel_rfl) (fun _ _ _ h => h) (Or.inl ⟨by rfl, ?_⟩) hHeld ?_
      rotate_left 1
      · (intro w hSw; (try dsimp only at hSw); go_simp <;> with_reducible rfl)
      simp only [Act.put, List.setIfInBounds_toArray, List.set_cons_zero, List.set_cons_succ]
      refine wpAnyH_take (i := 1) (oi := { dst := some 20, op := Go.Op.load 3 (Go.Operand.tmp 19), type := 3, pos := "table.go:81", after := #[{ on := 0, ground := Go.Ground.data }], guard := none }) (v := ?_) rfl (by kernel_rfl) (by kernel_rfl) (by kernel_rfl) (fun _ _ _ h => h) (Or.inl ⟨by rfl, ?_⟩) hHeld ?_
      rotate_left 1
      · (intro w hSw; (try dsimp only at hSw); go_simp <;> with_reducible rfl)
      simp only [Act.put, List.setIfInBounds_toArray, List.set_cons_zero, List.set_cons_succ]
      refine wpAnyH_take (i := 2) (oi := { dst := some 21, op := Go.Op.fieldAddr 32 (Go.Operand.tmp 3) 0, type := 0, pos := "table.go:81", after := #[], guard := none }) (v := ?_) rfl (by kernel_rfl) (by kernel_rfl) (by kernel_rfl) (fun _ _ _ h => h) (Or.inl ⟨by rfl, ?_⟩) hHeld ?_
      rotate_left 1
      · (intro w hSw; (try dsimp only at hSw); go_simp <;> with_reducible rfl)
      simp only [Act.put, List.setIfInBounds_toArray, List.set_cons_zero, List.set_cons_succ]
      refine wpAnyH_take (i := 3) (oi := { dst := some 22, op := Go.Op.load 3 (Go.Operand.tmp 21), type := 3, pos := "table.go:81", after := #[{ on := 2, ground := Go.Ground.data }], guard := none }) (v := ?_) rfl (by kernel_rfl) (by kernel_rfl) (by kernel_rfl) (fun _ _ _ h => h) (Or.inl ⟨by rfl, ?_⟩) hHeld ?_
      rotate_left 1
      · (intro w hSw; (try dsimp only at hSw); go_simp <;> with_reducible rfl)
      simp only [Act.put, List.setIfInBounds_toArray, List.set_cons_zero, List.set_cons_succ]
      refine wpAnyH_take (i := 4) (oi := { dst := some 23, op := Go.Op.binOp Go.BinOp.neq 3 (Go.Operand.tmp 20) (Go.Operand.tmp 22) 3, type := 4, pos := "table.go:81", after := #[{ on := 1, ground := Go.Ground.data }, { on := 3, ground := Go.Ground.data }], guard := none }) (v := ?_) rfl (by kernel_rfl) (by kernel_rfl) (by kernel_rfl) (fun _ _ _ h => h) (Or.inl ⟨by rfl, ?_⟩) hHeld ?_
      rotate_left 1
      · (intro w hSw; (try dsimp only at hSw); go_simp <;> with_reducible rfl)
      simp only [Act.put, List.setIfInBounds_toArray, List.set_cons_zero, List.set_cons_succ]
      refine wpAnyH_take (i := 5) (oi := { dst := some 24, op := Go.Op.move (Go.Operand.tmp 23), type := 4, pos := "table.go:81", after := #[{ on := 4, ground := Go.Ground.data }], guard := none }) (v := ?_) rfl (by kernel_rfl) (by kernel_rfl) (by kernel_rfl) (fun _ _ _ h => h) (Or.inl ⟨by rfl, ?_⟩) hHeld ?_
      rotate_left 1
      · (intro w hSw; (try dsimp only at hSw); go_simp <;> with_reducible rfl)
      simp only [Act.put, List.setIfInBounds_toArray, List.set_cons_zero, List.set_cons_succ]
      refine wpAnyH_take (i := 6) (oi := { dst := some 25, op := Go.Op.fieldAddr 37 (Go.Operand.tmp 6) 2, type := 0, pos := "table.go:81", after := #[{ on := 5, ground := Go.Ground.guard }], guard := some (5, false) }) (v := ?_) rfl (by kernel_rfl) (by kernel_rfl) (by kernel_rfl) (fun _ _ _ h => h) (Or.inl ⟨by rfl, ?_⟩) hHeld ?_
      rotate_left 1
      · (intro w hSw; (try dsimp only at hSw); go_simp <;> with_reducible rfl)
      simp only [Act.put, List.setIfInBounds_toArray, List.set_cons_zero, List.set_cons_succ]
      refine wpAnyH_take (i := 7) (oi := { dst := some 26, op := Go.Op.load 35 (Go.Operand.tmp 25), type := 35, pos := "table.go:81", after := #[{ on := 6, ground := Go.Ground.data }, { on := 5, ground := Go.Ground.guard }], guard := some (5, false) }) (v := ?_) rfl (by kernel_rfl) (by kernel_rfl) (by kernel_rfl) (fun _ _ _ h => h) (Or.inl ⟨by rfl, ?_⟩) hHeld ?_
      rotate_left 1
      · (intro w hSw; (try dsimp only at hSw); go_simp <;> with_reducible rfl)
      simp only [Act.put, List.setIfInBounds_toArray, List.set_cons_zero, List.set_cons_succ]
      refine wpAnyH_take (i := 8) (oi := { dst := some 27, op := Go.Op.load 32 (Go.Operand.tmp 3), type := 32, pos := "table.go:81", after := #[{ on := 5, ground := Go.Ground.guard }], guard := some (5, false) }) (v := _) rfl (by kernel_rfl) (by kernel_rfl) (by kernel_rfl) (fun _ _ _ h => h) (yieldsIf_load_mid rfl 32 _ rfl w.heap.size 0 rfl cs.toList _ (fun w h => range0 h.2) Try.underlying32 rfl hi32l) hHeld ?_
      simp only [Act.put, List.setIfInBounds_toArray, List.set_cons_zero, List.set_cons_succ]
      refine wpAnyH_ready (rs := [9]) (by kernel_rfl) (by simp) ?_
      refine AllReadyH.cons (o := { dst := some 28, op := Go.Op.call { callee := Go.Callee.value (Go.Operand.func 19), args := #[Go.Operand.tmp 27], argTypes := #[32] }, type := 35, pos := "table.go:81", after := #[{ on := 8, ground := Go.Ground.data }, { on := 5, ground := Go.Ground.chain }, { on := 5, ground := Go.Ground.guard }], guard := some (5, false) }) rfl (fun K hK => ?_) AllReadyH.nil
      go_simp
      refine Calls.mono (KK.out _ HB.out.drew) ?_
      rintro e w4 ⟨v4, rfl, hh, hb⟩
      obtain ⟨q4, d4, ef⟩ := holds_form hh.1
      subst ef
      have HB4 : Hid (Below w.heap.size w w4) := bel2 HB.out.drew hb
      have HE4 : Hid (Calls Try.prog 18 #[.slice p d.y.length c', .slice q4 (keyB r).length d4] w4 _) := equal_calls _ _ _ _ w4 (holds_below (holds_below HY4.out (Below.refl _ _).drew) hb) hh.1
      have HD4 : Hid (w4.heap[gd]? = some (.cells #[.string d.s, .int .i64 d.k, .slice p d.y.length c', .int .i64 d.r] 37 (0, 0))) := row_below hb HD.out
      have HG4 : Hid (w4.heap[w.heap.size]? = some (.cells cs 32 (0, 0))) := row_below hb HG.out
      clear hh hb
      refine hK.out _ _ ⟨fun j => cell_of_row _ _ j _ 37 (0, 0) HD4.out, fun j => cell_of_row _ _ j cs 32 (0, 0) HG4.out⟩ (fun hHeld => ?_)
      clear hK K
      refine wpAnyH_ready (rs := [10]) (by kernel_rfl) (by simp) ?_
      refine AllReadyH.cons (o := { dst := some 29, op := Go.Op.call { callee := Go.Callee.value (Go.Operand.func 18), args := #[Go.Operand.tmp 26, Go.Operand.tmp 28], argTypes := #[35, 35] }, type := 4, pos := "table.go:81", after := #[{ on := 7, ground := Go.Ground.data }, { on := 9, ground := Go.Ground.data }, { on := 9, ground := Go.Ground.chain }, { on := 5, ground := Go.Ground.guard }], guard := some (5, false) }) rfl (fun K hK => ?_) AllReadyH.nil
      go_simp
      refine Calls.mono HE4.out ?_
      rintro e w5 ⟨rfl, hw5⟩
      have hw6 := hw5.symm
      subst hw6
      clear hw5
      refine hK.out _ _ ⟨fun j => cell_of_row _ _ j _ 37 (0, 0) HD4.out, fun j => cell_of_row _ _ j cs 32 (0, 0) HG4.out⟩ (fun hHeld => ?_)
      clear hK K
      refine wpAnyH_take (i := 11) (oi := { dst := some 30, op := Go.Op.unOp Go.UnOp.not 4 (Go.Operand.tmp 29), type := 4, pos := "table.go:81", after := #[{ on := 10, ground := Go.Ground.data }, { on := 5, ground := Go.Ground.guard }], guard := some (5, false) }) (v := ?_) rfl (by kernel_rfl) (by kernel_rfl) (by kernel_rfl) (fun _ _ _ h => h) (Or.inl ⟨by rfl, ?_⟩) hHeld ?_
      rotate_left 1
      · (intro w hSw; (try dsimp only at hSw); go_simp <;> with_reducible rfl)
      simp only [Act.put, List.setIfInBounds_toArray, List.set_cons_zero, List.set_cons_succ]
      refine wpAnyH_take (i := 12) (oi := { dst := some 31, op := Go.Op.pick (Go.Operand.tmp 24) (Go.Operand.const (Go.Value.bool true)) (Go.Operand.tmp 30), type := 4, pos := "table.go:81", after := #[{ on := 5, ground := Go.Ground.data }, { on := 11, ground := Go.Ground.data }], guard := none }) (v := ?_) rfl (by kernel_rfl) (by kernel_rfl) (by kernel_rfl) (fun _ _ _ h => h) (Or.inl ⟨by rfl, ?_⟩) hHeld ?_
      rotate_left 1
      · (intro w hSw; (try dsimp only at hSw); go_simp <;> with_reducible rfl)
      simp only [Act.put, List.setIfInBounds_toArray, List.set_cons_zero, List.set_cons_succ]
      refine wpAnyH_take (i := 13) (oi := { dst := some 18, op := Go.Op.assign (Go.Operand.tmp 31), type := 4, pos := "table.go:81", after := #[{ on := 12, ground := Go.Ground.data }, { on := 10, ground := Go.Ground.chain }], guard := none }) (v := ?_) rfl (by kernel_rfl) (by kernel_rfl) (by kernel_rfl) (fun _ _ _ h => h) (Or.inl ⟨by rfl, ?_⟩) hHeld ?_
      rotate_left 1
      · (intro w hSw; (try dsimp only at hSw); go_simp <;> with_reducible rfl)
      simp only [Act.put, List.setIfInBounds_toArray, List.set_cons_zero, List.set_cons_succ]
      refine wpAnyH_done (by kernel_rfl) ?_ _
      cases he : (d.y == keyB r) with
      | true =>
        have HE : Hid ((d.y == keyB r) = true) := he
        have xr : w4.cell? ⟨gd, 3, none⟩ = some (.int .i64 d.r) := row_cell HD4.out rfl
        clear he
        go_wp2_with fail
        exact HQ1.out d rfl (by rw [HKe.out, HE.out]; rfl) _ HB4.out
      | false =>
        have HE : Hid ((d.y == keyB r) = false) := he
        clear he
        go_wp2_with fail
        exact HQ2.out d rfl (by rw [HE.out]; simp) _ HB4.out
    · have hk1 : (d.k == r.kind) = false := by simpa using hk
      have hk2 : (d.k != r.kind) = true := by simpa using hk
      have HKe : Hid ((d.k == r.kind) = false) := hk1
      clear hk
      have hx0 : (#[.string d.s, .int .i64 d.k, .slice p d.y.length c', .int .i64 d.r] : Array Value)[1]? = some (.int .i64 d.k) := rfl
      refine wp_region_held_drew (S := (fun w' => (∀ j, w'.cell? ⟨gd, j, none⟩ = (#[.string d.s, .int .i64 d.k, .slice p d.y.length c', .int .i64 d.r] : Array Value)[j]?) ∧ (∀ j, w'.cell? ⟨w.heap.size, j, none⟩ = cs[j]?))) (by kernel_rfl) ⟨fun j => cell_of_row _ _ j _ 37 (0, 0) HD.out, fun j => cell_of_row _ _ j cs 32 (0, 0) HG.out⟩ (fun hHeld => ?_)
      change wpAnyH _ _ _ _ _ _ _ _ (World.drew _)
      refine wpAnyH_take (i := 0) (oi := { dst := some 19, op := Go.Op.fieldAddr 37 (Go.Operand.tmp 6) 1, type := 0, pos := "table.go:81", after := #[], guard := none }) (v := ?_) rfl (by kernel_rfl) (by kernel_rfl) (by kernel_rfl) (fun _ _ _ h => h) (Or.inl ⟨by rfl, ?_⟩) hHeld ?_
      rotate_left 1
      · (intro w hSw; (try dsimp only at hSw); go_simp <;> with_reducible rfl)
      simp only [Act.put, List.setIfInBounds_toArray, List.set_cons_zero, List.set_cons_succ]
      refine wpAnyH_take (i := 1) (oi := { dst := some 20, op := Go.Op.load 3 (Go.Operand.tmp 19), type := 3, pos := "table.go:81", after := #[{ on := 0, ground := Go.Ground.data }], guard := none }) (v := ?_) rfl (by kernel_rfl) (by kernel_rfl) (by kernel_rfl) (fun _ _ _ h => h) (Or.inl ⟨by rfl, ?_⟩) hHeld ?_
      rotate_left 1
      · (intro w hSw; (try dsimp only at hSw); go_simp <;> with_reducible rfl)
      simp only [Act.put, List.setIfInBounds_toArray, List.set_cons_zero, List.set_cons_succ]
      refine wpAnyH_take (i := 2) (oi := { dst := some 21, op := Go.Op.fieldAddr 32 (Go.Operand.tmp 3) 0, type := 0, pos := "table.go:81", after := #[], guard := none }) (v := ?_) rfl (by kernel_rfl) (by kernel_rfl) (by kernel_rfl) (fun _ _ _ h => h) (Or.inl ⟨by rfl, ?_⟩) hHeld ?_
      rotate_left 1
      · (intro w hSw; (try dsimp only at hSw); go_simp <;> with_reducible rfl)
      simp only [Act.put, List.setIfInBounds_toArray, List.set_cons_zero, List.set_cons_succ]
      refine wpAnyH_take (i := 3) (oi := { dst := some 22, op := Go.Op.load 3 (Go.Operand.tmp 21), type := 3, pos := "table.go:81", after := #[{ on := 2, ground := Go.Ground.data }], guard := none }) (v := ?_) rfl (by kernel_rfl) (by kernel_rfl) (by kernel_rfl) (fun _ _ _ h => h) (Or.inl ⟨by rfl, ?_⟩) hHeld ?_
      rotate_left 1
      · (intro w hSw; (try dsimp only at hSw); go_simp <;> with_reducible rfl)
      simp only [Act.put, List.setIfInBounds_toArray, List.set_cons_zero, List.set_cons_succ]
      refine wpAnyH_take (i := 4) (oi := { dst := some 23, op := Go.Op.binOp Go.BinOp.neq 3 (Go.Operand.tmp 20) (Go.Operand.tmp 22) 3, type := 4, pos := "table.go:81", after := #[{ on := 1, ground := Go.Ground.data }, { on := 3, ground := Go.Ground.data }], guard := none }) (v := ?_) rfl (by kernel_rfl) (by kernel_rfl) (by kernel_rfl) (fun _ _ _ h => h) (Or.inl ⟨by rfl, ?_⟩) hHeld ?_
      rotate_left 1
      · (intro w hSw; (try dsimp only at hSw); go_simp <;> with_reducible rfl)
      simp only [Act.put, List.setIfInBounds_toArray, List.set_cons_zero, List.set_cons_succ]
      refine wpAnyH_take (i := 5) (oi := { dst := some 24, op := Go.Op.move (Go.Operand.tmp 23), type := 4, pos := "table.go:81", after := #[{ on := 4, ground := Go.Ground.data }], guard := none }) (v := ?_) rfl (by kernel_rfl) (by kernel_rfl) (by kernel_rfl) (fun _ _ _ h => h) (Or.inl ⟨by rfl, ?_⟩) hHeld ?_
      rotate_left 1
      · (intro w hSw; (try dsimp only at hSw); go_simp <;> with_reducible rfl)
      simp only [Act.put, List.setIfInBounds_toArray, List.set_cons_zero, List.set_cons_succ]
      refine wpAnyH_take (i := 6) (oi := { dst := some 25, op := Go.Op.fieldAddr 37 (Go.Operand.tmp 6) 2, type := 0, pos := "table.go:81", after := #[{ on := 5, ground := Go.Ground.guard }], guard := some (5, false) }) (v := undef) rfl (by kernel_rfl) (by kernel_rfl) (by kernel_rfl) (fun _ _ _ h => h) (Or.inr ⟨by rfl, rfl⟩) hHeld ?_
      simp only [Act.put, List.setIfInBounds_toArray, List.set_cons_zero, List.set_cons_succ]
      refine wpAnyH_take (i := 7) (oi := { dst := some 26, op := Go.Op.load 35 (Go.Operand.tmp 25), type := 35, pos := "table.go:81", after := #[{ on := 6, ground := Go.Ground.data }, { on := 5, ground := Go.Ground.guard }], guard := some (5, false) }) (v := undef) rfl (by kernel_rfl) (by kernel_rfl) (by kernel_rfl) (fun _ _ _ h => h) (Or.inr ⟨by rfl, rfl⟩) hHeld ?_
      simp only [Act.put, List.setIfInBounds_toArray, List.set_cons_zero, List.set_cons_succ]
      refine wpAnyH_take (i := 8) (oi := { dst := some 27, op := Go.Op.load 32 (Go.Operand.tmp 3), type := 32, pos := "table.go:81", after := #[{ on := 5, ground := Go.Ground.guard }], guard := some (5, false) }) (v := undef) rfl (by kernel_rfl) (by kernel_rfl) (by kernel_rfl) (fun _ _ _ h => h) (Or.inr ⟨by rfl, rfl⟩) hHeld ?_
      simp only [Act.put, List.setIfInBounds_toArray, List.set_cons_zero, List.set_cons_succ]
      refine wpAnyH_take (i := 9) (oi := { dst := some 28, op := Go.Op.call { callee := Go.Callee.value (Go.Operand.func 19), args := #[Go.Operand.tmp 27], argTypes := #[32] }, type := 35, pos := "table.go:81", after := #[{ on := 8, ground := Go.Ground.data }, { on := 5, ground := Go.Ground.chain }, { on := 5, ground := Go.Ground.guard }], guard := some (5, false) }) (v := undef) rfl (by kernel_rfl) (by kernel_rfl) (by kernel_rfl) (fun _ _ _ h => h) (Or.inr ⟨by rfl, rfl⟩) hHeld ?_
      simp only [Act.put, List.setIfInBounds_toArray, List.set_cons_zero, List.set_cons_succ]
      refine wpAnyH_take (i := 10) (oi := { dst := some 29, op := Go.Op.call { callee := Go.Callee.value (Go.Operand.func 18), args := #[Go.Operand.tmp 26, Go.Operand.tmp 28], argTypes := #[35, 35] }, type := 4, pos := "table.go:81", after := #[{ on := 7, ground := Go.Ground.data }, { on := 9, ground := Go.Ground.data }, { on := 9, ground := Go.Ground.chain }, { on := 5, ground := Go.Ground.guard }], guard := some (5, false) }) (v := undef) rfl (by kernel_rfl) (by kernel_rfl) (by kernel_rfl) (fun _ _ _ h => h) (Or.inr ⟨by rfl, rfl⟩) hHeld ?_
      simp only [Act.put, List.setIfInBounds_toArray, List.set_cons_zero, List.set_cons_succ]
      refine wpAnyH_take (i := 11) (oi := { dst := some 30, op := Go.Op.unOp Go.UnOp.not 4 (Go.Operand.tmp 29), type := 4, pos := "table.go:81", after := #[{ on := 10, ground := Go.Ground.data }, { on := 5, ground := Go.Ground.guard }], guard := some (5, false) }) (v := undef) rfl (by kernel_rfl) (by kernel_rfl) (by kernel_rfl) (fun _ _ _ h => h) (Or.inr ⟨by rfl, rfl⟩) hHeld ?_
      simp only [Act.put, List.setIfInBounds_toArray, List.set_cons_zero, List.set_cons_succ]
      refine wpAnyH_take (i := 12) (oi := { dst := some 31, op := Go.Op.pick (Go.Operand.tmp 24) (Go.Operand.const (Go.Value.bool true)) (Go.Operand.tmp 30), type := 4, pos := "table.go:81", after := #[{ on := 5, ground := Go.Ground.data }, { on := 11, ground := Go.Ground.data }], guard := none }) (v := ?_) rfl (by kernel_rfl) (by kernel_rfl) (by kernel_rfl) (fun _ _ _ h => h) (Or.inl ⟨by rfl, ?_⟩) hHeld ?_
      rotate_left 1
      · (intro w hSw; (try dsimp only at hSw); go_simp <;> with_reducible rfl)
      simp only [Act.put, List.setIfInBounds_toArray, List.set_cons_zero, List.set_cons_succ]
      refine wpAnyH_take (i := 13) (oi := { dst := some 18, op := Go.Op.assign (Go.Operand.tmp 31), type := 4, pos := "table.go:81", after := #[{ on := 12, ground := Go.Ground.data }, { on := 10, ground := Go.Ground.chain }], guard := none }) (v := ?_) rfl (by kernel_rfl) (by kernel_rfl) (by kernel_rfl) (fun _ _ _ h => h) (Or.inl ⟨by rfl, ?_⟩) hHeld ?_
      rotate_left 1
      · (intro w hSw; (try dsimp only at hSw); go_simp <;> with_reducible rfl)
      simp only [Act.put, List.setIfInBounds_toArray, List.set_cons_zero, List.set_cons_succ]
      refine wpAnyH_done (by kernel_rfl) ?_ _
      go_wp2_with fail
      exact HQ2.out d rfl (by rw [HKe.out]; rfl) _ HB.out.drew
end Go.Proofs.Ytlcgjehepalmcaa
