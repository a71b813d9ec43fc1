/- limits: Check, out of its parts' contracts. -/
import Derived.Test.YtddigndamimmpaaDoorLC
import Derived.Deep.DeepCutAuto
import Derived.Deep.MidRow
namespace Go.Proofs.YtddigndamimmpaaDoor
open Go.ChangeShapes Go.WideShapes Go.ChangeAt Go.RowKit
def LkP (P1 P2 P3 : Prop) (w : World) (e : Ending) (w' : World) : Prop := ∃ r : Int, e = .returned (.int .i64 r) ∧ (¬ P1 → r = 1) ∧ (P1 → ¬ P2 → r = 5) ∧ (P1 → P2 → P3 → r = 0) ∧ (P1 → P2 → ¬ P3 → r = 1) ∧ Below w.heap.size w w'
theorem AtQ.range {w : World} {B : Nat} {k : Int} {f q m : ByteArray} {vk vx vb : Int} {vs : ByteArray} {la : Option Addr} {ll lc : Nat} {ru nu wa pf : Int} {pc : Nat} {pm : Int} {ca : Option Addr} {cn cc : Nat} {aa : Option Addr} {an ac : Nat} {hx : Int} (h : AtQ w B k f q m vk vx vb vs la ll lc ru nu wa pf pc pm ca cn cc aa an ac hx) : w.rangeAt B 0 [.int .i64 k, .string f, .string q, .string m, .int .i64 vk, .int .i64 vx, .int .u64 vb, .string vs, .slice la ll lc, .int .i64 ru, .int .i64 nu, .int .i64 wa, .int .i64 pf, .int .u64 (pc : Int), .int .i64 pm, .slice ca cn cc, .slice aa an ac, .int .i64 hx] := by
  obtain ⟨x0, x1, x2, x3, x4, x5, x6, x7, x8, x9, x10, x11, x12, x13, x14, x15, x16, x17⟩ := h
  intro j v hj
  match j with
  | 0 => cases hj; exact x0
  | 1 => cases hj; exact x1
  | 2 => cases hj; exact x2
  | 3 => cases hj; exact x3
  | 4 => cases hj; exact x4
  | 5 => cases hj; exact x5
  | 6 => cases hj; exact x6
  | 7 => cases hj; exact x7
  | 8 => cases hj; exact x8
  | 9 => cases hj; exact x9
  | 10 => cases hj; exact x10
  | 11 => cases hj; exact x11
  | 12 => cases hj; exact x12
  | 13 => cases hj; exact x13
  | 14 => cases hj; exact x14
  | 15 => cases hj; exact x15
  | 16 => cases hj; exact x16
  | 17 => cases hj; exact x17
  | j + 18 => simp at hj
theorem AtR.range {w : World} {B : Nat} {k : Int} {f q m : ByteArray} {vk vx vb : Int} {vs : ByteArray} {la : Option Addr} {ll lc : Nat} {ru nu wa pf : Int} {pc : Nat} {pm : Int} {ca : Option Addr} {cn cc : Nat} {aa : Option Addr} {an ac : Nat} (h : AtR w B k f q m vk vx vb vs la ll lc ru nu wa pf pc pm ca cn cc aa an ac) : w.rangeAt B 0 [.int .i64 k, .string f, .string q, .string m, .int .i64 vk, .int .i64 vx, .int .u64 vb, .string vs, .slice la ll lc, .int .i64 ru, .int .i64 nu, .int .i64 wa, .int .i64 pf, .int .u64 (pc : Int), .int .i64 pm, .slice ca cn cc, .slice aa an ac] := by
  obtain ⟨x0, x1, x2, x3, x4, x5, x6, x7, x8, x9, x10, x11, x12, x13, x14, x15, x16⟩ := h
  intro j v hj
  match j with
  | 0 => cases hj; exact x0
  | 1 => cases hj; exact x1
  | 2 => cases hj; exact x2
  | 3 => cases hj; exact x3
  | 4 => cases hj; exact x4
  | 5 => cases hj; exact x5
  | 6 => cases hj; exact x6
  | 7 => cases hj; exact x7
  | 8 => cases hj; exact x8
  | 9 => cases hj; exact x9
  | 10 => cases hj; exact x10
  | 11 => cases hj; exact x11
  | 12 => cases hj; exact x12
  | 13 => cases hj; exact x13
  | 14 => cases hj; exact x14
  | 15 => cases hj; exact x15
  | 16 => cases hj; exact x16
  | j + 17 => simp at hj
theorem rq42 : (Tryd.prog.info? 42).map (·.size) = some 18 := by kernel_rfl
theorem rq31 : (Tryd.prog.info? 31).map (·.size) = some 17 := by kernel_rfl
theorem AtQ.of_range {w : World} {B : Nat} {k : Int} {f q m : ByteArray} {vk vx vb : Int} {vs : ByteArray} {la : Option Addr} {ll lc : Nat} {ru nu wa pf : Int} {pc : Nat} {pm : Int} {ca : Option Addr} {cn cc : Nat} {aa : Option Addr} {an ac : Nat} {hx : Int} (h : w.rangeAt B 0 [.int .i64 k, .string f, .string q, .string m, .int .i64 vk, .int .i64 vx, .int .u64 vb, .string vs, .slice la ll lc, .int .i64 ru, .int .i64 nu, .int .i64 wa, .int .i64 pf, .int .u64 (pc : Int), .int .i64 pm, .slice ca cn cc, .slice aa an ac, .int .i64 hx]) : AtQ w B k f q m vk vx vb vs la ll lc ru nu wa pf pc pm ca cn cc aa an ac hx := ⟨h 0 _ rfl, h 1 _ rfl, h 2 _ rfl, h 3 _ rfl, h 4 _ rfl, h 5 _ rfl, h 6 _ rfl, h 7 _ rfl, h 8 _ rfl, h 9 _ rfl, h 10 _ rfl, h 11 _ rfl, h 12 _ rfl, h 13 _ rfl, h 14 _ rfl, h 15 _ rfl, h 16 _ rfl, h 17 _ rfl⟩
theorem below_setCells {B g : Nat} (hg : B ≤ g) : ∀ (vs : List Value) (o : Nat) (w w1 : World), Below B w w1 → Below B w (w1.setCells g o vs)
  | [], _, _, _, h => h
  | v :: vs, o, w, _, h => below_setCells hg vs (o + 1) w _ (h.setCell hg v)
theorem there_new (W : World) (Z : Array Value) (t : TypeId) (n : Nat) (hn : Z.size = n) : (W.alloc (.cells Z t)).there W.heap.size 0 n := fun j hj => by
  have h := heap_alloc_new W (.cells Z t)
  have hz : j < Z.size := by omega
  exact ⟨by simp only [World.cell?]; rw [h]; simp [hz], by simp only [World.frozen?]; rw [h]; simp⟩
theorem wpList_load_mid {P : Program} {ops : Array Oper} {rest : List Oper} {o : Oper} {a : Act} {w : World} {Q : Exit → Act → World → Prop} (hw : Region.wanted o (yielded ops a.tmps) = true) (ty : TypeId) (x : Operand) (ho : o.op = .load ty x)
    (b off : Nat) (hx : a.eval x = .pointer (some ⟨b, off, none⟩)) (cs : List Value) (d : TypeDesc) (hc : w.rangeAt b off cs) (hu : P.underlying ty = some d) (hd : d.isRow = true) (hi : (P.info? ty).map (·.size) = some cs.length)
    (h : wpList P ops Q rest (a.put o.dst (.agg cs.toArray)) w) : wpList P ops Q (o :: rest) a w :=
  wpList_step fun _ hK => by rw [if_pos hw]; exact wp_load_mid ty x ho b off hx cs d hc hu hd hi (hK _ _ h)
theorem AtQ.at {W : World} {g : Nat} (e : W.heap.size = g) (k : Int) (f q m : ByteArray) (vk vx vb : Int) (vs : ByteArray) (la : Option Addr) (ll lc : Nat) (ru nu wa pf : Int) (pc : Nat) (pm : Int) (ca : Option Addr) (cn cc : Nat) (aa : Option Addr) (an ac : Nat) (hx : Int) : AtQ (W.alloc (.cells #[.int .i64 k, .string f, .string q, .string m, .int .i64 vk, .int .i64 vx, .int .u64 vb, .string vs, .slice la ll lc, .int .i64 ru, .int .i64 nu, .int .i64 wa, .int .i64 pf, .int .u64 (pc : Int), .int .i64 pm, .slice ca cn cc, .slice aa an ac, .int .i64 hx] 42)) g k f q m vk vx vb vs la ll lc ru nu wa pf pc pm ca cn cc aa an ac hx := e ▸ AtQ.box W k f q m vk vx vb vs la ll lc ru nu wa pf pc pm ca cn cc aa an ac hx
set_option maxHeartbeats 4000000 in
set_option maxRecDepth 100000 in
theorem lcheck_gen (z0 z1 : Int) (bT bN : Bool) (MY : Prop) (bP : Bool) (PC PA : Prop) (k : Int) (f q m : ByteArray) (vk vx vb : Int) (vs : ByteArray) (la : Option Addr) (ll lc : Nat) (ru nu wa pf : Int) (pc : Nat) (pm : Int) (ca : Option Addr) (cn cc : Nat) (aa : Option Addr) (an ac : Nat) (hx : Int) (w : World)
    (hz : bits BinOp.andNot IntKind.i64 z0 hx = z1)
    (hF : ∀ W, Below w.heap.size w W → Calls Tryd.prog 10 #[.int .i64 k] W fun e w' => e = .returned (.int .i64 hx) ∧ w' = W)
    (hFi : ∀ W, Calls Tryd.prog 13 #[.agg #[.int .i64 k, .string f, .string q, .string m, .int .i64 vk, .int .i64 vx, .int .u64 vb, .string vs, .slice la ll lc, .int .i64 ru, .int .i64 nu, .int .i64 wa, .int .i64 pf, .int .u64 (pc : Int), .int .i64 pm, .slice ca cn cc, .slice aa an ac, .int .i64 hx]] W fun e w' => e = .returned (.int .i64 z0) ∧ Below W.heap.size W w')
    (hTx : ∀ W, Calls Tryd.prog 14 #[.agg #[.int .i64 k, .string f, .string q, .string m, .int .i64 vk, .int .i64 vx, .int .u64 vb, .string vs, .slice la ll lc, .int .i64 ru, .int .i64 nu, .int .i64 wa, .int .i64 pf, .int .u64 (pc : Int), .int .i64 pm, .slice ca cn cc, .slice aa an ac, .int .i64 hx]] W fun e w' => e = .returned (.bool bT) ∧ Below W.heap.size W w')
    (hNu : hx ≠ 0 → ∀ W, Below w.heap.size w W → Calls Tryd.prog 15 #[.agg #[.int .i64 k, .string f, .string q, .string m, .int .i64 vk, .int .i64 vx, .int .u64 vb, .string vs, .slice la ll lc, .int .i64 ru, .int .i64 nu, .int .i64 wa, .int .i64 pf, .int .u64 (pc : Int), .int .i64 pm, .slice ca cn cc, .slice aa an ac, .int .i64 hx]] W fun e w' => e = .returned (.bool bN) ∧ Below W.heap.size W w')
    (hV : ∀ W, Below w.heap.size w W → Calls Tryd.prog 16 #[.agg #[.int .i64 vk, .int .i64 vx, .int .u64 vb, .string vs, .slice la ll lc]] W fun e w' => (∃ r : Int, e = .returned (.int .i64 r) ∧ (MY → r = 0) ∧ (¬ MY → r = 1)) ∧ Below W.heap.size W w')
    (hPo : ∀ W, Calls Tryd.prog 17 #[.agg #[.int .i64 pf, .int .u64 (pc : Int), .int .i64 pm]] W fun e w' => e = .returned (.int .i64 (ce bP)) ∧ Below W.heap.size W w')
    (hCo : cn ≤ 12 → ∀ W, Below w.heap.size w W → Calls Tryd.prog 18 #[.agg #[.int .i64 k, .string f, .string q, .string m, .int .i64 vk, .int .i64 vx, .int .u64 vb, .string vs, .slice la ll lc, .int .i64 ru, .int .i64 nu, .int .i64 wa, .int .i64 pf, .int .u64 (pc : Int), .int .i64 pm, .slice ca cn cc, .slice aa an ac, .int .i64 hx]] W (FitP PC W))
    (hAn : an ≤ 8 → ∀ W, Below w.heap.size w W → Calls Tryd.prog 19 #[.agg #[.int .i64 k, .string f, .string q, .string m, .int .i64 vk, .int .i64 vx, .int .u64 vb, .string vs, .slice la ll lc, .int .i64 ru, .int .i64 nu, .int .i64 wa, .int .i64 pf, .int .u64 (pc : Int), .int .i64 pm, .slice ca cn cc, .slice aa an ac, .int .i64 hx]] W (FitP PA W)) :
    Calls Tryd.prog 7 #[.agg #[.int .i64 k, .string f, .string q, .string m, .int .i64 vk, .int .i64 vx, .int .u64 vb, .string vs, .slice la ll lc, .int .i64 ru, .int .i64 nu, .int .i64 wa, .int .i64 pf, .int .u64 (pc : Int), .int .i64 pm, .slice ca cn cc, .slice aa an ac]] w (LkP (hx ≠ 0 ∧ z1 = 0 ∧ bT = true ∧ bN = true ∧ MY ∧ bP = true) (cn ≤ 12 ∧ an ≤ 8) (PC ∧ PA) w) := by
  have HF : Hid _ := hF
  have HFi : Hid _ := hFi
  have HTx : Hid _ := hTx
  have HNu : Hid _ := hNu
  have HV : Hid _ := hV
  have HPo : Hid _ := hPo
  have HCo : Hid _ := hCo
  have HAn : Hid _ := hAn
  have HE : Hid (∀ e w', LkP (hx ≠ 0 ∧ z1 = 0 ∧ bT = true ∧ bN = true ∧ MY ∧ bP = true) (cn ≤ 12 ∧ an ≤ 8) (PC ∧ PA) w e w' ↔ ∃ r : Int, e = .returned (.int .i64 r) ∧ (¬ (hx ≠ 0 ∧ z1 = 0 ∧ bT = true ∧ bN = true ∧ MY ∧ bP = true) → r = 1) ∧ ((hx ≠ 0 ∧ z1 = 0 ∧ bT = true ∧ bN = true ∧ MY ∧ bP = true) → ¬ (cn ≤ 12 ∧ an ≤ 8) → r = 5) ∧ ((hx ≠ 0 ∧ z1 = 0 ∧ bT = true ∧ bN = true ∧ MY ∧ bP = true) → (cn ≤ 12 ∧ an ≤ 8) → (PC ∧ PA) → r = 0) ∧ ((hx ≠ 0 ∧ z1 = 0 ∧ bT = true ∧ bN = true ∧ MY ∧ bP = true) → (cn ≤ 12 ∧ an ≤ 8) → ¬ (PC ∧ PA) → r = 1) ∧ Below w.heap.size w w') := fun _ _ => Iff.rfl
  generalize LkP (hx ≠ 0 ∧ z1 = 0 ∧ bT = true ∧ bN = true ∧ MY ∧ bP = true) (cn ≤ 12 ∧ an ≤ 8) (PC ∧ PA) w = Q at HE ⊢
  clear hF hFi hTx hNu hV hPo hCo hAn
  have HB : Hid (Below w.heap.size w (w.alloc (.cells #[.int .i64 k, .string f, .string q, .string m, .int .i64 vk, .int .i64 vx, .int .u64 vb, .string vs, .slice la ll lc, .int .i64 ru, .int .i64 nu, .int .i64 wa, .int .i64 pf, .int .u64 (pc : Int), .int .i64 pm, .slice ca cn cc, .slice aa an ac] 31))) := bel1 _ _
  have HX : Hid (AtR (w.alloc (.cells #[.int .i64 k, .string f, .string q, .string m, .int .i64 vk, .int .i64 vx, .int .u64 vb, .string vs, .slice la ll lc, .int .i64 ru, .int .i64 nu, .int .i64 wa, .int .i64 pf, .int .u64 (pc : Int), .int .i64 pm, .slice ca cn cc, .slice aa an ac] 31)) w.heap.size k f q m vk vx vb vs la ll lc ru nu wa pf pc pm ca cn cc aa an ac) := AtR.box w k f q m vk vx vb vs la ll lc ru nu wa pf pc pm ca cn cc aa an ac
  have HS : Hid ((w.alloc (.cells #[.int .i64 k, .string f, .string q, .string m, .int .i64 vk, .int .i64 vx, .int .u64 vb, .string vs, .slice la ll lc, .int .i64 ru, .int .i64 nu, .int .i64 wa, .int .i64 pf, .int .u64 (pc : Int), .int .i64 pm, .slice ca cn cc, .slice aa an ac] 31)).heap.size = w.heap.size + 1) := by rw [Hid]; simp
  generalize hW0 : w.alloc (.cells #[.int .i64 k, .string f, .string q, .string m, .int .i64 vk, .int .i64 vx, .int .u64 vb, .string vs, .slice la ll lc, .int .i64 ru, .int .i64 nu, .int .i64 wa, .int .i64 pf, .int .u64 (pc : Int), .int .i64 pm, .slice ca cn cc, .slice aa an ac] 31) = W1 at HB HX HS
  have H0 : Hid (w.alloc (.cells #[.int .i64 k, .string f, .string q, .string m, .int .i64 vk, .int .i64 vx, .int .u64 vb, .string vs, .slice la ll lc, .int .i64 ru, .int .i64 nu, .int .i64 wa, .int .i64 pf, .int .u64 (pc : Int), .int .i64 pm, .slice ca cn cc, .slice aa an ac] 31) = W1) := hW0
  clear hW0
  go_enter Tryd.func7, Tryd.ntmps7
  go_upto_region 1 with fail
  rw [H0.out]
  clear H0
  go_cut [3] (fun x wx => x = .pointer (some ⟨w.heap.size + 1, 0, none⟩) ∧ AtQ wx (w.heap.size + 1) k f q m vk vx vb vs la ll lc ru nu wa pf pc pm ca cn cc aa an ac hx ∧ Below w.heap.size w wx)
  case first =>
    obtain ⟨x0, x1, x2, x3, x4, x5, x6, x7, x8, x9, x10, x11, x12, x13, x14, x15, x16⟩ := HX.out
    refine wp_region_held_drew (S := (fun w' => w'.rangeAt w.heap.size 0 [.int .i64 k, .string f, .string q, .string m, .int .i64 vk, .int .i64 vx, .int .u64 vb, .string vs, .slice la ll lc, .int .i64 ru, .int .i64 nu, .int .i64 wa, .int .i64 pf, .int .u64 (pc : Int), .int .i64 pm, .slice ca cn cc, .slice aa an ac] ∧ w'.cell? ⟨w.heap.size, 0, none⟩ = some (.int .i64 k))) (by kernel_rfl) ⟨HX.out.range, HX.out.1⟩ (fun hHeld => ?_)
    change wpAnyH _ _ _ _ _ _ _ _ (World.drew _)
    refine wpAnyH_take (i := 0) (oi := { dst := some 4, op := Go.Op.load 31 (Go.Operand.tmp 1), type := 31, pos := "limits.go:79", after := #[], guard := none }) (v := _) rfl (by kernel_rfl) (by kernel_rfl) (by kernel_rfl) (fun _ _ _ h => h) (yieldsIf_load_mid rfl 31 _ rfl w.heap.size 0 rfl [.int .i64 k, .string f, .string q, .string m, .int .i64 vk, .int .i64 vx, .int .u64 vb, .string vs, .slice la ll lc, .int .i64 ru, .int .i64 nu, .int .i64 wa, .int .i64 pf, .int .u64 (pc : Int), .int .i64 pm, .slice ca cn cc, .slice aa an ac] _ (fun w h => h.1) Tryd.underlying31 rfl rq31) hHeld ?_
    simp only [Act.put, List.setIfInBounds_toArray, List.set_cons_zero, List.set_cons_succ]
    refine wpAnyH_take (i := 1) (oi := { dst := some 5, op := Go.Op.fieldAddr 31 (Go.Operand.tmp 1) 0, type := 0, pos := "limits.go:79", after := #[], guard := none }) (v := ?_) rfl (by kernel_rfl) (by kernel_rfl) (by kernel_rfl) (fun _ _ _ h => h) (Or.inl ⟨by rfl, ?_⟩) hHeld ?_
    rotate_left 1
    · (intro w hSw; (try dsimp only at hSw); go_simp <;> with_reducible rfl)
    simp only [Act.put, List.setIfInBounds_toArray, List.set_cons_zero, List.set_cons_succ]
    refine wpAnyH_take (i := 2) (oi := { dst := some 6, op := Go.Op.load 3 (Go.Operand.tmp 5), type := 3, pos := "limits.go:79", after := #[{ on := 1, ground := Go.Ground.data }], guard := none }) (v := ?_) rfl (by kernel_rfl) (by kernel_rfl) (by kernel_rfl) (fun _ _ _ h => h) (Or.inl ⟨by rfl, ?_⟩) hHeld ?_
    rotate_left 1
    · (intro w hSw; (try dsimp only at hSw); go_simp <;> with_reducible rfl)
    simp only [Act.put, List.setIfInBounds_toArray, List.set_cons_zero, List.set_cons_succ]
    refine wpAnyH_ready (rs := [3, 5]) (by kernel_rfl) (by simp) ?_
    refine AllReadyH.cons (o := { dst := some 7, op := Go.Op.call { callee := Go.Callee.value (Go.Operand.func 10), args := #[Go.Operand.tmp 6], argTypes := #[3] }, type := 3, pos := "limits.go:79", after := #[{ on := 2, ground := Go.Ground.data }], guard := none }) rfl (fun K hK => ?_) (AllReadyH.cons (o := { dst := some 3, op := Go.Op.alloc 42, type := 0, pos := "limits.go:79", after := #[], guard := none }) rfl (fun K hK => ?_) AllReadyH.nil)
    · go_simp
      refine Calls.mono (HF.out _ HB.out.drew) ?_
      rintro e w1 ⟨rfl, rfl⟩
      refine hK.out _ _ hHeld (fun hHeld => ?_)
      clear hK K
      refine wpAnyH_take (i := 4) (oi := { dst := some 8, op := Go.Op.build 42 #[(0, Go.Operand.tmp 4), (1, Go.Operand.tmp 7)], type := 42, pos := "limits.go:79", after := #[{ on := 0, ground := Go.Ground.data }, { on := 3, ground := Go.Ground.data }], guard := none }) (v := ?_) rfl (by kernel_rfl) (by kernel_rfl) (by kernel_rfl) (fun _ _ _ h => h) (Or.inl ⟨by rfl, ?_⟩) hHeld ?_
      rotate_left 1
      · (intro w hSw; (try dsimp only at hSw); go_simp <;> with_reducible rfl)
      simp only [Act.put, List.setIfInBounds_toArray, List.set_cons_zero, List.set_cons_succ]
      refine wpAnyH_ready (rs := [5]) (by kernel_rfl) (by simp) ?_
      refine AllReadyH.cons (o := { dst := some 3, op := Go.Op.alloc 42, type := 0, pos := "limits.go:79", after := #[], guard := none }) rfl (fun K hK => ?_) AllReadyH.nil
      go_simp
      refine hK.out _ _ ⟨World.rangeAt_alloc hHeld.1 _, World.rangeAt_alloc hHeld.1 _ 0 _ rfl⟩ (fun hHeld => ?_)
      clear hK K
      refine wpAnyH_ready (rs := [6]) (by kernel_rfl) (by simp) ?_
      refine AllReadyH.cons (o := { dst := none, op := Go.Op.store 42 (Go.Operand.tmp 3) (Go.Operand.tmp 8), type := 0, pos := "limits.go:79", after := #[{ on := 5, ground := Go.Ground.data }, { on := 4, ground := Go.Ground.data }, { on := 3, ground := Go.Ground.chain }, { on := 0, ground := Go.Ground.phase }, { on := 1, ground := Go.Ground.phase }, { on := 2, ground := Go.Ground.phase }, { on := 3, ground := Go.Ground.phase }, { on := 4, ground := Go.Ground.phase }, { on := 5, ground := Go.Ground.phase }], guard := none }) rfl (fun K hK => ?_) AllReadyH.nil
      have hth := there_new W1 #[.int .i64 0, .string ⟨#[]⟩, .string ⟨#[]⟩, .string ⟨#[]⟩, .int .i64 0, .int .i64 0, .int .u64 0, .string ⟨#[]⟩, .slice none 0 0, .int .i64 0, .int .i64 0, .int .i64 0, .int .i64 0, .int .u64 0, .int .i64 0, .slice none 0 0, .slice none 0 0, .int .i64 0] 42 18 rfl
      rw [if_pos (by rfl)]
      refine wp_store_mid 42 _ _ rfl W1.heap.size 0 #[.int .i64 k, .string f, .string q, .string m, .int .i64 vk, .int .i64 vx, .int .u64 vb, .string vs, .slice la ll lc, .int .i64 ru, .int .i64 nu, .int .i64 wa, .int .i64 pf, .int .u64 (pc : Int), .int .i64 pm, .slice ca cn cc, .slice aa an ac, .int .i64 hx] rfl rfl hth rq42 (by simp [Value.oneCell']) ?_
      refine hK.out _ _ (by have hr := World.rangeAt_setCells_apart hHeld.1 W1.heap.size 0 [.int .i64 k, .string f, .string q, .string m, .int .i64 vk, .int .i64 vx, .int .u64 vb, .string vs, .slice la ll lc, .int .i64 ru, .int .i64 nu, .int .i64 wa, .int .i64 pf, .int .u64 (pc : Int), .int .i64 pm, .slice ca cn cc, .slice aa an ac, .int .i64 hx] (Or.inl (by have := HS.out; omega)); exact ⟨hr, hr 0 _ rfl⟩) (fun hHeld => ?_)
      clear hK K
      refine wpAnyH_done (by kernel_rfl) ?_ _
      go_wp2_with fail
      go_meet
      refine ⟨by simp [HS.out], AtQ.of_range ?_, ?_⟩
      · rw [← HS.out]; exact World.rangeAt_setCells_same _ _ _ _ hth
      · exact below_setCells (by have := HS.out; omega) _ _ _ _ (by first | exact belA HB.out.drew _ | exact (belA HB.out _).drew)
    · go_simp
      refine hK.out _ _ ⟨World.rangeAt_alloc hHeld.1 _, World.rangeAt_alloc hHeld.1 _ 0 _ rfl⟩ (fun hHeld => ?_)
      clear hK K
      refine wpAnyH_ready (rs := [3]) (by kernel_rfl) (by simp) ?_
      refine AllReadyH.cons (o := { dst := some 7, op := Go.Op.call { callee := Go.Callee.value (Go.Operand.func 10), args := #[Go.Operand.tmp 6], argTypes := #[3] }, type := 3, pos := "limits.go:79", after := #[{ on := 2, ground := Go.Ground.data }], guard := none }) rfl (fun K hK => ?_) AllReadyH.nil
      go_simp
      refine Calls.mono (HF.out _ (by first | exact belA HB.out.drew _ | exact (belA HB.out _).drew)) ?_
      rintro e w1 ⟨rfl, rfl⟩
      refine hK.out _ _ hHeld (fun hHeld => ?_)
      clear hK K
      refine wpAnyH_take (i := 4) (oi := { dst := some 8, op := Go.Op.build 42 #[(0, Go.Operand.tmp 4), (1, Go.Operand.tmp 7)], type := 42, pos := "limits.go:79", after := #[{ on := 0, ground := Go.Ground.data }, { on := 3, ground := Go.Ground.data }], guard := none }) (v := ?_) rfl (by kernel_rfl) (by kernel_rfl) (by kernel_rfl) (fun _ _ _ h => h) (Or.inl ⟨by rfl, ?_⟩) hHeld ?_
      rotate_left 1
      · (intro w hSw; (try dsimp only at hSw); go_simp <;> with_reducible rfl)
      simp only [Act.put, List.setIfInBounds_toArray, List.set_cons_zero, List.set_cons_succ]
      refine wpAnyH_ready (rs := [6]) (by kernel_rfl) (by simp) ?_
      refine AllReadyH.cons (o := { dst := none, op := Go.Op.store 42 (Go.Operand.tmp 3) (Go.Operand.tmp 8), type := 0, pos := "limits.go:79", after := #[{ on := 5, ground := Go.Ground.data }, { on := 4, ground := Go.Ground.data }, { on := 3, ground := Go.Ground.chain }, { on := 0, ground := Go.Ground.phase }, { on := 1, ground := Go.Ground.phase }, { on := 2, ground := Go.Ground.phase }, { on := 3, ground := Go.Ground.phase }, { on := 4, ground := Go.Ground.phase }, { on := 5, ground := Go.Ground.phase }], guard := none }) rfl (fun K hK => ?_) AllReadyH.nil
      have hth := there_new W1 #[.int .i64 0, .string ⟨#[]⟩, .string ⟨#[]⟩, .string ⟨#[]⟩, .int .i64 0, .int .i64 0, .int .u64 0, .string ⟨#[]⟩, .slice none 0 0, .int .i64 0, .int .i64 0, .int .i64 0, .int .i64 0, .int .u64 0, .int .i64 0, .slice none 0 0, .slice none 0 0, .int .i64 0] 42 18 rfl
      rw [if_pos (by rfl)]
      refine wp_store_mid 42 _ _ rfl W1.heap.size 0 #[.int .i64 k, .string f, .string q, .string m, .int .i64 vk, .int .i64 vx, .int .u64 vb, .string vs, .slice la ll lc, .int .i64 ru, .int .i64 nu, .int .i64 wa, .int .i64 pf, .int .u64 (pc : Int), .int .i64 pm, .slice ca cn cc, .slice aa an ac, .int .i64 hx] rfl rfl hth rq42 (by simp [Value.oneCell']) ?_
      refine hK.out _ _ (by have hr := World.rangeAt_setCells_apart hHeld.1 W1.heap.size 0 [.int .i64 k, .string f, .string q, .string m, .int .i64 vk, .int .i64 vx, .int .u64 vb, .string vs, .slice la ll lc, .int .i64 ru, .int .i64 nu, .int .i64 wa, .int .i64 pf, .int .u64 (pc : Int), .int .i64 pm, .slice ca cn cc, .slice aa an ac, .int .i64 hx] (Or.inl (by have := HS.out; omega)); exact ⟨hr, hr 0 _ rfl⟩) (fun hHeld => ?_)
      clear hK K
      refine wpAnyH_done (by kernel_rfl) ?_ _
      go_wp2_with fail
      go_meet
      refine ⟨by simp [HS.out], AtQ.of_range ?_, ?_⟩
      · rw [← HS.out]; exact World.rangeAt_setCells_same _ _ _ _ hth
      · exact below_setCells (by have := HS.out; omega) _ _ _ _ (by first | exact belA HB.out.drew _ | exact (belA HB.out _).drew)
  case rest =>
  obtain ⟨rfl, HX0, HB0⟩ := hcut
  replace HX : Hid (AtQ wc (w.heap.size + 1) k f q m vk vx vb vs la ll lc ru nu wa pf pc pm ca cn cc aa an ac hx) := HX0
  replace HB : Hid (Below w.heap.size w wc) := HB0
  clear HX0 HB0
  have HRg : Hid (∀ W, AtQ W (w.heap.size + 1) k f q m vk vx vb vs la ll lc ru nu wa pf pc pm ca cn cc aa an ac hx → W.rangeAt (w.heap.size + 1) 0 [.int .i64 k, .string f, .string q, .string m, .int .i64 vk, .int .i64 vx, .int .u64 vb, .string vs, .slice la ll lc, .int .i64 ru, .int .i64 nu, .int .i64 wa, .int .i64 pf, .int .u64 (pc : Int), .int .i64 pm, .slice ca cn cc, .slice aa an ac, .int .i64 hx]) := fun W h => h.range
  have hi42 : (Tryd.prog.info? 42).map (·.size) = some ([.int .i64 k, .string f, .string q, .string m, .int .i64 vk, .int .i64 vx, .int .u64 vb, .string vs, .slice la ll lc, .int .i64 ru, .int .i64 nu, .int .i64 wa, .int .i64 pf, .int .u64 (pc : Int), .int .i64 pm, .slice ca cn cc, .slice aa an ac, .int .i64 hx] : List Value).length := rq42
  generalize ([.int .i64 k, .string f, .string q, .string m, .int .i64 vk, .int .i64 vx, .int .u64 vb, .string vs, .slice la ll lc, .int .i64 ru, .int .i64 nu, .int .i64 wa, .int .i64 pf, .int .u64 (pc : Int), .int .i64 pm, .slice ca cn cc, .slice aa an ac, .int .i64 hx] : List Value) = L at HRg hi42 HFi HTx HNu HCo HAn
  by_cases h0 : hx = 0
  · have e0 : (hx == 0) = true := by simpa using h0
    obtain ⟨x0, x1, x2, x3, x4, x5, x6, x7, x8, x9, x10, x11, x12, x13, x14, x15, x16, x17⟩ := HX.out
    clear x0 x1 x2 x3 x4 x5 x6 x7 x8 x9 x10 x11 x12 x13 x14 x15 x16
    go_wp2_with fail
    exact (HE.out _ _).2 ⟨1, rfl, fun _ => rfl, fun h => absurd h0 h.1, fun h => absurd h0 h.1, fun h => absurd h0 h.1, HB.out⟩
  have e0 : (hx == 0) = false := by simpa using h0
  obtain ⟨x0, x1, x2, x3, x4, x5, x6, x7, x8, x9, x10, x11, x12, x13, x14, x15, x16, x17⟩ := HX.out
  clear x0 x1 x2 x3 x4 x5 x6 x7 x8 x9 x10 x11 x12 x13 x14 x15 x16
  go_upto_region 3 with fail
  refine wp_region_held_drew (S := (fun w' => w'.rangeAt (w.heap.size + 1) 0 L ∧ w'.cell? ⟨w.heap.size + 1, 17, none⟩ = some (.int .i64 hx))) (by kernel_rfl) ⟨HRg.out _ HX.out, x17⟩ (fun hHeld => ?_)
  change wpAnyH _ _ _ _ _ _ _ _ (World.drew _)
  clear x17
  refine wpAnyH_take (i := 0) (oi := { dst := some 13, op := Go.Op.load 42 (Go.Operand.tmp 3), type := 42, pos := "limits.go:81", after := #[], guard := none }) (v := _) rfl (by kernel_rfl) (by kernel_rfl) (by kernel_rfl) (fun _ _ _ h => h) (yieldsIf_load_mid rfl 42 _ rfl (w.heap.size + 1) 0 rfl L _ (fun w h => h.1) Tryd.underlying42 rfl hi42) hHeld ?_
  simp only [Act.put, List.setIfInBounds_toArray, List.set_cons_zero, List.set_cons_succ]
  refine wpAnyH_take (i := 2) (oi := { dst := some 15, op := Go.Op.fieldAddr 42 (Go.Operand.tmp 3) 1, type := 0, pos := "limits.go:81", after := #[], guard := none }) (v := ?_) rfl (by kernel_rfl) (by kernel_rfl) (by kernel_rfl) (fun _ _ _ h => h) (Or.inl ⟨by rfl, ?_⟩) hHeld ?_
  rotate_left 1
  · (intro w hSw; (try dsimp only at hSw); go_simp <;> with_reducible rfl)
  simp only [Act.put, List.setIfInBounds_toArray, List.set_cons_zero, List.set_cons_succ]
  refine wpAnyH_take (i := 3) (oi := { dst := some 16, op := Go.Op.load 3 (Go.Operand.tmp 15), type := 3, pos := "limits.go:81", after := #[{ on := 2, ground := Go.Ground.data }], guard := none }) (v := ?_) rfl (by kernel_rfl) (by kernel_rfl) (by kernel_rfl) (fun _ _ _ h => h) (Or.inl ⟨by rfl, ?_⟩) hHeld ?_
  rotate_left 1
  · (intro w hSw; (try dsimp only at hSw); go_simp <;> with_reducible rfl)
  simp only [Act.put, List.setIfInBounds_toArray, List.set_cons_zero, List.set_cons_succ]
  refine wpAnyH_ready (rs := [1]) (by kernel_rfl) (by simp) ?_
  refine AllReadyH.cons (o := { dst := some 14, op := Go.Op.call { callee := Go.Callee.value (Go.Operand.func 13), args := #[Go.Operand.tmp 13], argTypes := #[42] }, type := 3, pos := "limits.go:81", after := #[{ on := 0, ground := Go.Ground.data }], guard := none }) rfl (fun K hK => ?_) AllReadyH.nil
  go_simp
  refine Calls.mono (HFi.out _) ?_
  rintro e w1 ⟨rfl, hb⟩
  have HX1 : Hid (AtQ w1 (w.heap.size + 1) k f q m vk vx vb vs la ll lc ru nu wa pf pc pm ca cn cc aa an ac hx) := HX.out.below (bel2 (Below.refl _ wc).drew hb)
  replace HB : Hid (Below w.heap.size w w1) := bel2 HB.out.drew hb
  refine hK.out _ _ ⟨HRg.out _ HX1.out, by have h := HX1.out; unfold AtQ at h; exact h.2.2.2.2.2.2.2.2.2.2.2.2.2.2.2.2.2⟩ (fun hHeld => ?_)
  clear hK K
  clear hb
  refine wpAnyH_take (i := 4) (oi := { dst := some 17, op := Go.Op.binOp Go.BinOp.andNot 3 (Go.Operand.tmp 14) (Go.Operand.tmp 16) 3, type := 3, pos := "limits.go:81", after := #[{ on := 1, ground := Go.Ground.data }, { on := 3, ground := Go.Ground.data }], guard := none }) (v := ?_) rfl (by kernel_rfl) (by kernel_rfl) (by kernel_rfl) (fun _ _ _ h => h) (Or.inl ⟨by rfl, ?_⟩) hHeld ?_
  rotate_left 1
  · (intro w hSw; (try dsimp only at hSw); go_simp <;> with_reducible rfl)
  simp only [Act.put, List.setIfInBounds_toArray, List.set_cons_zero, List.set_cons_succ]
  refine wpAnyH_take (i := 5) (oi := { dst := some 18, op := Go.Op.binOp Go.BinOp.neq 3 (Go.Operand.tmp 17) (Go.Operand.const (Go.Value.int Go.IntKind.i64 0)) 3, type := 4, pos := "limits.go:81", after := #[{ on := 4, ground := Go.Ground.data }], guard := none }) (v := ?_) rfl (by kernel_rfl) (by kernel_rfl) (by kernel_rfl) (fun _ _ _ h => h) (Or.inl ⟨by rfl, ?_⟩) hHeld ?_
  rotate_left 1
  · (intro w hSw; (try dsimp only at hSw); go_simp <;> with_reducible rfl)
  simp only [Act.put, List.setIfInBounds_toArray, List.set_cons_zero, List.set_cons_succ]
  refine wpAnyH_take (i := 6) (oi := { dst := some 9, op := Go.Op.assign (Go.Operand.tmp 18), type := 4, pos := "limits.go:81", after := #[{ on := 5, ground := Go.Ground.data }, { on := 1, ground := Go.Ground.chain }], guard := none }) (v := ?_) rfl (by kernel_rfl) (by kernel_rfl) (by kernel_rfl) (fun _ _ _ h => h) (Or.inl ⟨by rfl, ?_⟩) hHeld ?_
  rotate_left 1
  · (intro w hSw; (try dsimp only at hSw); go_simp <;> with_reducible rfl)
  simp only [Act.put, List.setIfInBounds_toArray, List.set_cons_zero, List.set_cons_succ]
  refine wpAnyH_done (by kernel_rfl) ?_ _
  replace HX : Hid (AtQ w1 (w.heap.size + 1) k f q m vk vx vb vs la ll lc ru nu wa pf pc pm ca cn cc aa an ac hx) := HX1
  clear HX1 hHeld
  by_cases hz1 : z1 = 0
  rotate_left
  · have ez : (z1 != 0) = true := by simpa using hz1
    go_wp2_with fail
    exact (HE.out _ _).2 ⟨1, rfl, fun _ => rfl, fun h => absurd h.2.1 hz1, fun h => absurd h.2.1 hz1, fun h => absurd h.2.1 hz1, HB.out⟩
  have ez : (z1 != 0) = false := by simpa using hz1
  go_upto_region 4 with fail
  go_wp2_with (first | (refine wpList_load_mid (by rfl) 42 _ rfl (w.heap.size + 1) 0 rfl L _ (HRg.out _ HX.out) Tryd.underlying42 rfl hi42 ?_))
  refine Calls.mono (HTx.out _) ?_
  rintro e w2 ⟨rfl, hb⟩
  replace HX : Hid (AtQ w2 (w.heap.size + 1) k f q m vk vx vb vs la ll lc ru nu wa pf pc pm ca cn cc aa an ac hx) := HX.out.below hb
  replace HB : Hid (Below w.heap.size w w2) := bel2 HB.out hb
  clear hb 
  cases bT
  · go_wp2_with fail
    exact (HE.out _ _).2 ⟨1, rfl, fun _ => rfl, fun h => (by cases h.2.2.1), fun h => (by cases h.2.2.1), fun h => (by cases h.2.2.1), HB.out⟩
  go_upto_region 5 with fail
  go_wp2_with (first | (refine wpList_load_mid (by rfl) 42 _ rfl (w.heap.size + 1) 0 rfl L _ (HRg.out _ HX.out) Tryd.underlying42 rfl hi42 ?_))
  refine Calls.mono (HNu.out h0 _ HB.out) ?_
  rintro e w3 ⟨rfl, hb⟩
  replace HX : Hid (AtQ w3 (w.heap.size + 1) k f q m vk vx vb vs la ll lc ru nu wa pf pc pm ca cn cc aa an ac hx) := HX.out.below hb
  replace HB : Hid (Below w.heap.size w w3) := bel2 HB.out hb
  clear hb 
  cases bN
  · go_wp2_with fail
    exact (HE.out _ _).2 ⟨1, rfl, fun _ => rfl, fun h => (by cases h.2.2.2.1), fun h => (by cases h.2.2.2.1), fun h => (by cases h.2.2.2.1), HB.out⟩
  obtain ⟨x0, x1, x2, x3, x4, x5, x6, x7, x8, x9, x10, x11, x12, x13, x14, x15, x16, x17⟩ := HX.out
  clear x0 x1 x2 x3 x9 x10 x11 x12 x13 x14 x15 x16 x17
  go_wp2_with fail
  refine Calls.mono (HV.out _ HB.out) ?_
  rintro e w4 ⟨⟨r, rfl, r1, r2⟩, hb⟩
  replace HX : Hid (AtQ w4 (w.heap.size + 1) k f q m vk vx vb vs la ll lc ru nu wa pf pc pm ca cn cc aa an ac hx) := HX.out.below hb
  replace HB : Hid (Below w.heap.size w w4) := bel2 HB.out hb
  clear hb x4 x5 x6 x7 x8
  by_cases hm : MY
  rotate_left
  · obtain rfl := r2 hm
    clear r1 r2
    go_wp2_with fail
    exact (HE.out _ _).2 ⟨1, rfl, fun _ => rfl, fun h => absurd h.2.2.2.2.1 hm, fun h => absurd h.2.2.2.2.1 hm, fun h => absurd h.2.2.2.2.1 hm, HB.out⟩
  obtain rfl := r1 hm
  clear r1 r2
  obtain ⟨x0, x1, x2, x3, x4, x5, x6, x7, x8, x9, x10, x11, x12, x13, x14, x15, x16, x17⟩ := HX.out
  clear x0 x1 x2 x3 x4 x5 x6 x7 x8 x9 x10 x11 x15 x16 x17
  go_wp2_with fail
  refine Calls.mono (HPo.out _) ?_
  rintro e w5 ⟨rfl, hb⟩
  replace HX : Hid (AtQ w5 (w.heap.size + 1) k f q m vk vx vb vs la ll lc ru nu wa pf pc pm ca cn cc aa an ac hx) := HX.out.below hb
  replace HB : Hid (Below w.heap.size w w5) := bel2 HB.out hb
  clear hb x12 x13 x14
  cases bP
  · simp only [ce, Bool.false_eq_true, if_false]
    go_wp2_with fail
    exact (HE.out _ _).2 ⟨1, rfl, fun _ => rfl, fun h => (by cases h.2.2.2.2.2), fun h => (by cases h.2.2.2.2.2), fun h => (by cases h.2.2.2.2.2), HB.out⟩
  simp only [ce, if_true]
  by_cases h12 : 12 < cn
  · have f1 : decide (12 < (cn : Int)) = true := decide_eq_true (by omega)
    obtain ⟨x0, x1, x2, x3, x4, x5, x6, x7, x8, x9, x10, x11, x12, x13, x14, x15, x16, x17⟩ := HX.out
    clear x0 x1 x2 x3 x4 x5 x6 x7 x8 x9 x10 x11 x12 x13 x14 x17
    go_wp2_with fail
    exact (HE.out _ _).2 ⟨5, rfl, fun h => absurd ⟨h0, hz1, by trivial, by trivial, hm, by trivial⟩ h, fun _ _ => rfl, fun _ h => absurd h.1 (by omega), fun _ h => absurd h.1 (by omega), HB.out⟩
  have f1 : decide (12 < (cn : Int)) = false := decide_eq_false (by omega)
  by_cases h8 : 8 < an
  · have f2 : decide (8 < (an : Int)) = true := decide_eq_true (by omega)
    obtain ⟨x0, x1, x2, x3, x4, x5, x6, x7, x8, x9, x10, x11, x12, x13, x14, x15, x16, x17⟩ := HX.out
    clear x0 x1 x2 x3 x4 x5 x6 x7 x8 x9 x10 x11 x12 x13 x14 x17
    go_wp2_with fail
    exact (HE.out _ _).2 ⟨5, rfl, fun h => absurd ⟨h0, hz1, by trivial, by trivial, hm, by trivial⟩ h, fun _ _ => rfl, fun _ h => absurd h.2 (by omega), fun _ h => absurd h.2 (by omega), HB.out⟩
  have f2 : decide (8 < (an : Int)) = false := decide_eq_false (by omega)
  obtain ⟨x0, x1, x2, x3, x4, x5, x6, x7, x8, x9, x10, x11, x12, x13, x14, x15, x16, x17⟩ := HX.out
  clear x0 x1 x2 x3 x4 x5 x6 x7 x8 x9 x10 x11 x12 x13 x14 x17
  go_upto_region 13 with fail
  clear x15 x16
  go_wp2_with (first | (refine wpList_load_mid (by rfl) 42 _ rfl (w.heap.size + 1) 0 rfl L _ (HRg.out _ HX.out) Tryd.underlying42 rfl hi42 ?_))
  refine Calls.mono (HCo.out (Nat.not_lt.1 h12) _ HB.out) ?_
  rintro e w6 ⟨⟨b1, rfl, hb1⟩, hb⟩
  replace HX : Hid (AtQ w6 (w.heap.size + 1) k f q m vk vx vb vs la ll lc ru nu wa pf pc pm ca cn cc aa an ac hx) := HX.out.below hb
  replace HB : Hid (Below w.heap.size w w6) := bel2 HB.out hb
  clear hb 
  cases b1
  · have HQ : Hid (¬ PC) := fun h => by cases hb1.2 h
    clear hb1
    go_wp2_with fail
    exact (HE.out _ _).2 ⟨1, rfl, fun _ => rfl, fun _ h => absurd ⟨Nat.not_lt.1 h12, Nat.not_lt.1 h8⟩ h, fun _ _ h => absurd h.1 HQ.out, fun _ _ _ => rfl, HB.out⟩
  have HPC : Hid PC := hb1.1 rfl
  clear hb1
  go_upto_region 14 with fail
  go_wp2_with (first | (refine wpList_load_mid (by rfl) 42 _ rfl (w.heap.size + 1) 0 rfl L _ (HRg.out _ HX.out) Tryd.underlying42 rfl hi42 ?_))
  refine Calls.mono (HAn.out (Nat.not_lt.1 h8) _ HB.out) ?_
  rintro e w7 ⟨⟨b2, rfl, hb2⟩, hb⟩
  replace HX : Hid (AtQ w7 (w.heap.size + 1) k f q m vk vx vb vs la ll lc ru nu wa pf pc pm ca cn cc aa an ac hx) := HX.out.below hb
  replace HB : Hid (Below w.heap.size w w7) := bel2 HB.out hb
  clear hb 
  cases b2
  · have HQ : Hid (¬ PA) := fun h => by cases hb2.2 h
    clear hb2
    go_wp2_with fail
    exact (HE.out _ _).2 ⟨1, rfl, fun _ => rfl, fun _ h => absurd ⟨Nat.not_lt.1 h12, Nat.not_lt.1 h8⟩ h, fun _ _ h => absurd h.2 HQ.out, fun _ _ _ => rfl, HB.out⟩
  have HPA : Hid PA := hb2.1 rfl
  clear hb2
  go_wp2_with fail
  exact (HE.out _ _).2 ⟨0, rfl, fun h => absurd ⟨h0, hz1, by trivial, by trivial, hm, by trivial⟩ h, fun _ h => absurd ⟨Nat.not_lt.1 h12, Nat.not_lt.1 h8⟩ h, fun _ _ _ => rfl, fun _ _ h => absurd ⟨HPC.out, HPA.out⟩ h, HB.out⟩
end Go.Proofs.YtddigndamimmpaaDoor
