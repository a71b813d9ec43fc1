/- The contracts of changeUpdates. -/
import Derived.Test.YtakaglfeeipeiaaGreatUI
namespace Go.Proofs.YtakaglfeeipeiaaGreat
open Go.ChangeShapes Go.WideShapes Go.ChangeAt Go.RowKit
/-- A row with other cells from the sixth on. -/
def endU (r : Array Value) (vs : List Value) : Array Value := (r.toList.take 6 ++ vs).toArray
theorem endU_lo {r : Array Value} {vs : List Value} (hr : r.size = 12) {j : Nat} (hj : j < 6) : (endU r vs)[j]? = r[j]? := by
  unfold endU
  rw [List.getElem?_toArray, List.getElem?_append_left (by rw [List.length_take, Array.length_toList]; omega), List.getElem?_take_of_lt hj, Array.getElem?_toList]
theorem endU_hi {r : Array Value} {vs : List Value} (hr : r.size = 12) {j : Nat} : (endU r vs)[6 + j]? = vs[j]? := by
  unfold endU
  have : (r.toList.take 6).length = 6 := by rw [List.length_take, Array.length_toList]; omega
  rw [List.getElem?_toArray, List.getElem?_append_right (by omega), this, Nat.add_sub_cancel_left]
theorem endU_size {r : Array Value} {vs : List Value} (hr : r.size = 12) (hv : vs.length = 6) : (endU r vs).size = 12 := by
  simp [endU, hr, hv]
theorem own_upd {w : World} {lo UB m c j : Nat} {us : List (Array Value)} {r : Array Value} {vs : Array Value} (h : w.ownsRow lo 67 12 (.slice (some ⟨UB, 0, none⟩) m c) m (us.flatMap Array.toList)) (hl : us.length = m) (hus : ∀ (i : Nat) r, us[i]? = some r → r.size = 12) (hr : us[j]? = some r) (hv : vs.size = 6) :
    (w.setCells UB (j * 12 + 6) vs.toList).ownsRow lo 67 12 (.slice (some ⟨UB, 0, none⟩) m c) m ((us.set j (endU r vs.toList)).flatMap Array.toList) := by
  have hj : j < us.length := (List.getElem?_eq_some_iff.1 hr).1
  have hlies : ∀ (i : Nat) r, us[i]? = some r → Lies w UB (i * 12) r := fun i r hr k v hk => by
    have := h.cells (g := UB) rfl (i * 12 + k) v (flatS_put hus hr hk)
    rw [← this]
    congr 1
    simp [Addr.add]
  have hfr : ∀ o, w.frozen? ⟨UB, o, none⟩ = false := fun o => h.frozenAt o
  have hr12 := hus j r hr
  obtain ⟨_, ⟨h1, _⟩ | ⟨g, cap, cur, h1, hlo, hg, hle, hm, hsz, _⟩⟩ := h
  · cases h1
  · cases h1
    obtain ⟨cur', hr', hz'⟩ := setCells_row vs.toList (j * 12 + 6) w cur hg
    have th : w.there UB (j * 12 + 6) vs.size := fun k hk => ⟨by
      have := hlies j r hr (6 + k) _ (Array.getElem?_eq_getElem (by omega))
      rw [show j * 12 + 6 + k = j * 12 + (6 + k) by omega, this]; rfl, hfr _⟩
    refine owns_of_lies (cur := cur') (fun i r' hi => ?_) (by decide) (by simpa using hl) hr' hlo hle hm (by rw [hz', hsz]) fun i r' hi => ?_
    · rw [List.getElem?_set] at hi
      split at hi
      · cases hi
        exact endU_size hr12 (by simpa using hv)
      · exact hus i r' hi
    · rw [List.getElem?_set] at hi
      split at hi
      · rename_i hji
        subst hji
        cases hi
        intro k v hk
        by_cases h6 : k < 6
        · rw [endU_lo hr12 h6] at hk
          have h2 := hlies j r hr k v hk
          have h3 : Lies w UB (j * 12 + k) #[v] := fun q x hx => by
            cases q with
            | zero => simp at hx; rw [Nat.add_zero, h2, hx]
            | succ q => simp at hx
          have := lies_apart (r' := vs) h3 (.inl (by simp; omega) : j * 12 + k + (#[v] : Array Value).size ≤ j * 12 + 6 ∨ _) 0 v rfl
          simpa using this
        · obtain ⟨q, rfl⟩ : ∃ q, k = 6 + q := ⟨k - 6, by omega⟩
          rw [endU_hi hr12] at hk
          have := lies_set th q v (by simpa using hk)
          rw [← this]
          congr 2
          omega
      · rename_i hji
        have h2 := hlies i r' hi
        refine lies_apart (r' := vs) h2 ?_
        have := hus i r' hi
        omega
theorem six_eq (w : World) (UB p : Nat) (c0 c1 c2 c3 c4 c5 : Value) : (((((w.setCell ⟨UB, p + 6, none⟩ c0).setCell ⟨UB, p + 7, none⟩ c1).setCell ⟨UB, p + 7 + 1, none⟩ c2).setCell ⟨UB, p + 7 + 2, none⟩ c3).setCell ⟨UB, p + 7 + 3, none⟩ c4).setCell ⟨UB, p + 7 + 4, none⟩ c5 = w.setCells UB (p + 6) [c0, c1, c2, c3, c4, c5] := rfl
/-- What an outcome makes. -/
def OuP (lo B UB m c : Nat) (cs : Array Value) (rows : List (Array Value)) (w : World) (e : Ending) (w' : World) : Prop :=
  e = .returned (.tuple #[]) ∧ w'.heap[B]? = some (.cells cs 37 (0, 0)) ∧ w'.ownsRow lo 67 12 (.slice (some ⟨UB, 0, none⟩) m c) m (rows.flatMap Array.toList) ∧ Below lo w w' ∧ ∀ B', B' < w.heap.size → B' ≠ UB → w'.heap[B']? = w.heap[B']?
set_option maxHeartbeats 4000000 in
set_option maxRecDepth 100000 in
theorem updates12 (lo B : Nat) (cs es : Array Value) (l : List Up) (us : List (Array Value)) (a : Option Addr) (c : Nat) (q : ByteArray) (k0 x0 b0 : Int) (s0 : ByteArray) (a0 : Option Addr) (m0 n0 : Nat) (w : World) (hg : w.heap[B]? = some (.cells cs 37 (0, 0))) (c24 : cs[24]? = some (.slice a l.length c)) (hO : w.ownsRow lo 67 12 (.slice a l.length c) l.length (us.flatMap Array.toList)) (hul : us.length = l.length) (hus : ∀ (i : Nat) r, us[i]? = some r → r.size = 12 ∧ ∀ (j : Nat) (v : Value), r[j]? = some v → v.oneCell' = true) (huh : ∀ (i : Nat) r u, us[i]? = some r → l[i]? = some u → Uh r u) (hn : l.length ≤ 500) (hlo : lo ≤ B)
    (e0 : es[0]? = some (.int .i64 12)) (e4 : es[4]? = some (.string q)) (e5 : es[5]? = some (.int .i64 k0)) (e6 : es[6]? = some (.int .i64 x0)) (e7 : es[7]? = some (.int .u64 b0)) (e8 : es[8]? = some (.string s0)) (e9 : es[9]? = some (.slice a0 m0 n0)) :
    Calls Tryz.prog 62 #[.pointer (some ⟨B, 0, none⟩), .agg es] w (LsP lo B cs 24 67 12 (.slice a l.length c) (us.take (insI (fun x => gtS x.s q) l) ++ #[.string q, .int .i64 k0, .int .i64 x0, .int .u64 b0, .string s0, .slice a0 m0 n0, .int .i64 1, .int .i64 0, .int .i64 0, .int .u64 0, .string ⟨#[]⟩, .slice none 0 0] :: us.drop (insI (fun x => gtS x.s q) l)) [] w) := by
  have hBl : B < w.heap.size := (Array.getElem?_eq_some_iff.1 hg).1
  have hlw : lo ≤ w.heap.size := by omega
  have hne : (Value.slice a l.length c).ownBlock ≠ some B := box_ne hO (by decide) hg
  have hub : ∀ B', (Value.slice a l.length c).ownBlock = some B' → B' < w.heap.size := fun B' h => (hO.lt B' h).2
  have hO2 : (w.alloc (.cells es 44)).drew.ownsRow lo 67 12 (.slice a l.length c) l.length (us.flatMap Array.toList) := owns_blk hO (Nat.le_refl _) fun B' h => (bel1 w (.cells es 44)).block B' (hub B' h)
  have hc4 : (w.alloc (.cells es 44)).drew.cell? ⟨w.heap.size, 4, none⟩ = some (.string q) := row_cell (heap_alloc_last w _) e4
  have hx1 : ∀ (j : Nat) (v : Value), (#[.string q, .int .i64 k0, .int .i64 x0, .int .u64 b0, .string s0, .slice a0 m0 n0, .int .i64 1, .int .i64 0, .int .i64 0, .int .u64 0, .string ⟨#[]⟩, .slice none 0 0] : Array Value)[j]? = some v → v.oneCell' = true := fun j v hv => by
    have hm := Array.mem_of_getElem? hv
    simp only [List.mem_toArray, List.mem_cons, List.not_mem_nil, or_false] at hm
    rcases hm with rfl | rfl | rfl | rfl | rfl | rfl | rfl | rfl | rfl | rfl | rfl | rfl <;> rfl
  have key := addU_calls lo l us (.slice a l.length c) #[.string q, .int .i64 k0, .int .i64 x0, .int .u64 b0, .string s0, .slice a0 m0 n0, .int .i64 1, .int .i64 0, .int .i64 0, .int .u64 0, .string ⟨#[]⟩, .slice none 0 0] q w.heap.size (w.alloc (.cells es 44)).drew hO2 hul hus huh rfl hx1 hn hc4 (Nat.le_trans hlw (bel1 w (.cells es 44)).size)
  have HQ : Hid (∀ v W, W.heap[B]? = some (.cells (cs.setIfInBounds 24 v) 37 (0, 0)) → Lw lo B 67 12 (.slice a l.length c) (us.take (insI (fun x => gtS x.s q) l) ++ #[.string q, .int .i64 k0, .int .i64 x0, .int .u64 b0, .string s0, .slice a0 m0 n0, .int .i64 1, .int .i64 0, .int .i64 0, .int .u64 0, .string ⟨#[]⟩, .slice none 0 0] :: us.drop (insI (fun x => gtS x.s q) l)) w v W → LsP lo B cs 24 67 12 (.slice a l.length c) (us.take (insI (fun x => gtS x.s q) l) ++ #[.string q, .int .i64 k0, .int .i64 x0, .int .u64 b0, .string s0, .slice a0 m0 n0, .int .i64 1, .int .i64 0, .int .i64 0, .int .u64 0, .string ⟨#[]⟩, .slice none 0 0] :: us.drop (insI (fun x => gtS x.s q) l)) [] w (.returned (.tuple #[])) W) := fun v W h1 h2 => ⟨rfl, v, h1, h2⟩
  generalize LsP lo B cs 24 67 12 (.slice a l.length c) (us.take (insI (fun x => gtS x.s q) l) ++ #[.string q, .int .i64 k0, .int .i64 x0, .int .u64 b0, .string s0, .slice a0 m0 n0, .int .i64 1, .int .i64 0, .int .i64 0, .int .u64 0, .string ⟨#[]⟩, .slice none 0 0] :: us.drop (insI (fun x => gtS x.s q) l)) [] w = Q at HQ ⊢
  generalize us.take (insI (fun x => gtS x.s q) l) ++ #[.string q, .int .i64 k0, .int .i64 x0, .int .u64 b0, .string s0, .slice a0 m0 n0, .int .i64 1, .int .i64 0, .int .i64 0, .int .u64 0, .string ⟨#[]⟩, .slice none 0 0] :: us.drop (insI (fun x => gtS x.s q) l) = rows at key HQ
  have KA : Hid (Calls Tryz.prog 77 #[.slice a l.length c, .agg #[.string q, .int .i64 k0, .int .i64 x0, .int .u64 b0, .string s0, .slice a0 m0 n0, .int .i64 1, .int .i64 0, .int .i64 0, .int .u64 0, .string ⟨#[]⟩, .slice none 0 0], .func (.func 78) #[] #[.pointer (some ⟨w.heap.size, 0, none⟩)]] (w.alloc (.cells es 44)).drew (fun e w1 => ∃ v, e = .returned v ∧ Lw lo B 67 12 (.slice a l.length c) rows w v w1 ∧ w1.heap[B]? = some (.cells cs 37 (0, 0)) ∧ w1.heap[w.heap.size]? = some (.cells es 44 (0, 0)))) :=
    key.mono fun e w1 ⟨v, h0, h1, h2, h3, h4⟩ => ⟨v, h0, ad_lw hub hne hg hlw h1 h2 h3 h4⟩
  have HNe : Hid (B < w.heap.size) := hBl
  have HLo : Hid (lo ≤ B) := hlo
  have HG0 : Hid ((w.alloc (.cells es 44)).heap[w.heap.size]? = some (.cells es 44 (0, 0))) := heap_alloc_last w _
  have x24 : (w.alloc (.cells es 44)).cell? ⟨B, 24, none⟩ = some (.slice a l.length c) := row_cell (row_below (bel1 _ _) hg) c24
  clear hO hn hlw hne hub hO2 hc4 key hg hlo hBl hul hus huh hx1
  generalize l.length = m at KA HQ c24 x24 ⊢
  clear l us
  go_enter Tryz.func62, Tryz.ntmps62
  go_wp2_with fail
  generalize w.alloc (.cells es 44) = W0 at KA x24 HG0 ⊢
  refine wp_region_held_drew (S := (fun w' => w'.cell? ⟨w.heap.size, 4, none⟩ = some (.string q) ∧ w'.cell? ⟨w.heap.size, 5, none⟩ = some (.int .i64 k0) ∧ w'.cell? ⟨w.heap.size, 6, none⟩ = some (.int .i64 x0) ∧ w'.cell? ⟨w.heap.size, 7, none⟩ = some (.int .u64 b0) ∧ w'.cell? ⟨w.heap.size, 8, none⟩ = some (.string s0) ∧ w'.cell? ⟨w.heap.size, 9, none⟩ = some (.slice a0 m0 n0))) (by kernel_rfl) ⟨row_cell HG0.out e4, row_cell HG0.out e5, row_cell HG0.out e6, row_cell HG0.out e7, row_cell HG0.out e8, row_cell HG0.out e9⟩ (fun hHeld => ?_)
  change wpAnyH _ _ _ _ _ _ _ _ (World.drew _)
  refine wpAnyH_take (i := 0) (oi := { dst := some 8, op := Go.Op.move (Go.Operand.tmp 0), type := 87, pos := "step.go:148", after := #[], guard := none }) (v := ?_) rfl (by kernel_rfl) (by kernel_rfl) (by kernel_rfl) (fun _ _ _ h => h) (Or.inl ⟨by rfl, ?_⟩) hHeld ?_
  rotate_left 1
  · (intro w hSw; (try dsimp only at hSw); go_simp <;> with_reducible rfl)
  simp only [Act.put, List.setIfInBounds_toArray, List.set_cons_zero, List.set_cons_succ]
  refine wpAnyH_take (i := 1) (oi := { dst := some 9, op := Go.Op.move (Go.Operand.tmp 0), type := 87, pos := "step.go:148", after := #[], guard := none }) (v := ?_) rfl (by kernel_rfl) (by kernel_rfl) (by kernel_rfl) (fun _ _ _ h => h) (Or.inl ⟨by rfl, ?_⟩) hHeld ?_
  rotate_left 1
  · (intro w hSw; (try dsimp only at hSw); go_simp <;> with_reducible rfl)
  simp only [Act.put, List.setIfInBounds_toArray, List.set_cons_zero, List.set_cons_succ]
  refine wpAnyH_take (i := 2) (oi := { dst := some 10, op := Go.Op.nilCheck (Go.Operand.tmp 9), type := 0, pos := "step.go:148", after := #[{ on := 1, ground := Go.Ground.data }], guard := none }) (v := ?_) rfl (by kernel_rfl) (by kernel_rfl) (by kernel_rfl) (fun _ _ _ h => h) (Or.inl ⟨by rfl, ?_⟩) hHeld ?_
  rotate_left 1
  · (intro w hSw; (try dsimp only at hSw); go_simp <;> with_reducible rfl)
  simp only [Act.put, List.setIfInBounds_toArray, List.set_cons_zero, List.set_cons_succ]
  refine wpAnyH_take (i := 3) (oi := { dst := some 11, op := Go.Op.fieldAddr 37 (Go.Operand.tmp 10) 14, type := 0, pos := "step.go:148", after := #[{ on := 2, ground := Go.Ground.data }], guard := none }) (v := ?_) rfl (by kernel_rfl) (by kernel_rfl) (by kernel_rfl) (fun _ _ _ h => h) (Or.inl ⟨by rfl, ?_⟩) hHeld ?_
  rotate_left 1
  · (intro w hSw; (try dsimp only at hSw); go_simp <;> with_reducible rfl)
  simp only [Act.put, List.setIfInBounds_toArray, List.set_cons_zero, List.set_cons_succ]
  refine wpAnyH_take (i := 5) (oi := { dst := some 13, op := Go.Op.fieldAddr 44 (Go.Operand.tmp 3) 4, type := 0, pos := "step.go:148", after := #[], guard := none }) (v := ?_) rfl (by kernel_rfl) (by kernel_rfl) (by kernel_rfl) (fun _ _ _ h => h) (Or.inl ⟨by rfl, ?_⟩) hHeld ?_
  rotate_left 1
  · (intro w hSw; (try dsimp only at hSw); go_simp <;> with_reducible rfl)
  simp only [Act.put, List.setIfInBounds_toArray, List.set_cons_zero, List.set_cons_succ]
  refine wpAnyH_take (i := 6) (oi := { dst := some 14, op := Go.Op.load 9 (Go.Operand.tmp 13), type := 9, pos := "step.go:148", after := #[{ on := 5, ground := Go.Ground.data }], guard := none }) (v := ?_) rfl (by kernel_rfl) (by kernel_rfl) (by kernel_rfl) (fun _ _ _ h => h) (Or.inl ⟨by rfl, ?_⟩) hHeld ?_
  rotate_left 1
  · (intro w hSw; (try dsimp only at hSw); go_simp <;> with_reducible rfl)
  simp only [Act.put, List.setIfInBounds_toArray, List.set_cons_zero, List.set_cons_succ]
  refine wpAnyH_take (i := 7) (oi := { dst := some 15, op := Go.Op.fieldAddr 44 (Go.Operand.tmp 3) 5, type := 0, pos := "step.go:148", after := #[], guard := none }) (v := ?_) rfl (by kernel_rfl) (by kernel_rfl) (by kernel_rfl) (fun _ _ _ h => h) (Or.inl ⟨by rfl, ?_⟩) hHeld ?_
  rotate_left 1
  · (intro w hSw; (try dsimp only at hSw); go_simp <;> with_reducible rfl)
  simp only [Act.put, List.setIfInBounds_toArray, List.set_cons_zero, List.set_cons_succ]
  refine wpAnyH_take (i := 8) (oi := { dst := some 16, op := Go.Op.load 29 (Go.Operand.tmp 15), type := 29, pos := "step.go:148", after := #[{ on := 7, ground := Go.Ground.data }], guard := none }) (v := ?_) rfl (by kernel_rfl) (by kernel_rfl) (by kernel_rfl) (fun _ _ _ h => h) (Or.inl ⟨by rfl, ?_⟩) hHeld ?_
  rotate_left 1
  · (intro w hSw; (try dsimp only at hSw); go_simp <;> with_reducible rfl)
  simp only [Act.put, List.setIfInBounds_toArray, List.set_cons_zero, List.set_cons_succ]
  refine wpAnyH_take (i := 9) (oi := { dst := some 17, op := Go.Op.build 67 #[(0, Go.Operand.tmp 14), (1, Go.Operand.tmp 16), (2, Go.Operand.const (Go.Value.int Go.IntKind.i64 1))], type := 67, pos := "step.go:148", after := #[{ on := 6, ground := Go.Ground.data }, { on := 8, ground := Go.Ground.data }], guard := none }) (v := ?_) rfl (by kernel_rfl) (by kernel_rfl) (by kernel_rfl) (fun _ _ _ h => h) (Or.inl ⟨by rfl, ?_⟩) hHeld ?_
  rotate_left 1
  · (intro w hSw; (try dsimp only at hSw); go_simp <;> with_reducible rfl)
  simp only [Act.put, List.setIfInBounds_toArray, List.set_cons_zero, List.set_cons_succ]
  refine wpAnyH_take (i := 10) (oi := { dst := some 18, op := Go.Op.makeFunc (Go.Fn.func 78) #[] #[Go.Operand.tmp 3], type := 65, pos := "step.go:148", after := #[], guard := none }) (v := ?_) rfl (by kernel_rfl) (by kernel_rfl) (by kernel_rfl) (fun _ _ _ h => h) (Or.inl ⟨by rfl, ?_⟩) hHeld ?_
  rotate_left 1
  · (intro w hSw; (try dsimp only at hSw); go_simp <;> with_reducible rfl)
  simp only [Act.put, List.setIfInBounds_toArray, List.set_cons_zero, List.set_cons_succ]
  refine wpAnyH_ready (rs := [4]) (by kernel_rfl) (by simp) ?_
  refine AllReadyH.cons (o := { dst := some 12, op := Go.Op.load 35 (Go.Operand.tmp 11), type := 35, pos := "step.go:148", after := #[{ on := 3, ground := Go.Ground.data }], guard := none }) rfl (fun K hK => ?_) AllReadyH.nil
  go_simp
  refine hK.out _ _ hHeld (fun hHeld => ?_)
  clear hK K
  refine wpAnyH_ready (rs := [11]) (by kernel_rfl) (by simp) ?_
  refine AllReadyH.cons (o := { dst := some 19, op := Go.Op.call { callee := Go.Callee.value (Go.Operand.func 77), args := #[Go.Operand.tmp 12, Go.Operand.tmp 17, Go.Operand.tmp 18], argTypes := #[35, 67, 65] }, type := 35, pos := "step.go:148", after := #[{ on := 4, ground := Go.Ground.data }, { on := 9, ground := Go.Ground.data }, { on := 10, ground := Go.Ground.data }], guard := none }) rfl (fun K hK => ?_) AllReadyH.nil
  go_simp
  refine KA.out.mono ?_
  rintro e w1 ⟨v, rfl, hl, hb1, hg1⟩
  obtain ⟨a1, c1, rfl⟩ := owns_shape hl.own
  have HL : Hid (Lw lo B 67 12 (.slice a m c) rows w (.slice a1 rows.length c1) w1) := hl
  have HB1 : Hid (w1.heap[B]? = some (.cells cs 37 (0, 0))) := hb1
  have s24 : w1.cell? ⟨B, 24, none⟩ = some (.slice a m c) := row_cell hb1 c24
  have sf : w1.frozen? ⟨B, 24, none⟩ = false := frozen_of_row w1 B 24 _ 37 hb1
  have HG1 : Hid (w1.heap[w.heap.size]? = some (.cells es 44 (0, 0))) := hg1
  clear hl hb1 hg1
  refine hK.out _ _ ⟨row_cell HG1.out e4, row_cell HG1.out e5, row_cell HG1.out e6, row_cell HG1.out e7, row_cell HG1.out e8, row_cell HG1.out e9⟩ (fun hHeld => ?_)
  clear hK K
  refine wpAnyH_take (i := 12) (oi := { dst := some 20, op := Go.Op.nilCheck (Go.Operand.tmp 8), type := 0, pos := "step.go:148", after := #[{ on := 0, ground := Go.Ground.data }, { on := 0, ground := Go.Ground.phase }, { on := 1, ground := Go.Ground.phase }, { on := 2, ground := Go.Ground.phase }, { on := 3, ground := Go.Ground.phase }, { on := 4, ground := Go.Ground.phase }, { on := 5, ground := Go.Ground.phase }, { on := 6, ground := Go.Ground.phase }, { on := 7, ground := Go.Ground.phase }, { on := 8, ground := Go.Ground.phase }, { on := 9, ground := Go.Ground.phase }, { on := 10, ground := Go.Ground.phase }, { on := 11, ground := Go.Ground.phase }], guard := none }) (v := ?_) rfl (by kernel_rfl) (by kernel_rfl) (by kernel_rfl) (fun _ _ _ h => h) (Or.inl ⟨by rfl, ?_⟩) hHeld ?_
  rotate_left 1
  · (intro w hSw; (try dsimp only at hSw); go_simp <;> with_reducible rfl)
  simp only [Act.put, List.setIfInBounds_toArray, List.set_cons_zero, List.set_cons_succ]
  refine wpAnyH_take (i := 13) (oi := { dst := some 21, op := Go.Op.fieldAddr 37 (Go.Operand.tmp 20) 14, type := 0, pos := "step.go:148", after := #[{ on := 12, ground := Go.Ground.data }, { on := 0, ground := Go.Ground.phase }, { on := 1, ground := Go.Ground.phase }, { on := 2, ground := Go.Ground.phase }, { on := 3, ground := Go.Ground.phase }, { on := 4, ground := Go.Ground.phase }, { on := 5, ground := Go.Ground.phase }, { on := 6, ground := Go.Ground.phase }, { on := 7, ground := Go.Ground.phase }, { on := 8, ground := Go.Ground.phase }, { on := 9, ground := Go.Ground.phase }, { on := 10, ground := Go.Ground.phase }, { on := 11, ground := Go.Ground.phase }], guard := none }) (v := ?_) rfl (by kernel_rfl) (by kernel_rfl) (by kernel_rfl) (fun _ _ _ h => h) (Or.inl ⟨by rfl, ?_⟩) hHeld ?_
  rotate_left 1
  · (intro w hSw; (try dsimp only at hSw); go_simp <;> with_reducible rfl)
  simp only [Act.put, List.setIfInBounds_toArray, List.set_cons_zero, List.set_cons_succ]
  refine wpAnyH_ready (rs := [14]) (by kernel_rfl) (by simp) ?_
  refine AllReadyH.cons (o := { dst := none, op := Go.Op.store 35 (Go.Operand.tmp 21) (Go.Operand.tmp 19), type := 0, pos := "step.go:148", after := #[{ on := 13, ground := Go.Ground.data }, { on := 11, ground := Go.Ground.data }, { on := 11, ground := Go.Ground.chain }, { on := 0, ground := Go.Ground.phase }, { on := 1, ground := Go.Ground.phase }, { on := 2, ground := Go.Ground.phase }, { on := 3, ground := Go.Ground.phase }, { on := 4, ground := Go.Ground.phase }, { on := 5, ground := Go.Ground.phase }, { on := 6, ground := Go.Ground.phase }, { on := 7, ground := Go.Ground.phase }, { on := 8, ground := Go.Ground.phase }, { on := 9, ground := Go.Ground.phase }, { on := 10, ground := Go.Ground.phase }, { on := 11, ground := Go.Ground.phase }], guard := none }) rfl (fun K hK => ?_) AllReadyH.nil
  have k1 := KB.setCell B w1 24 (.slice a1 rows.length c1)
  have hx := row_kb HG1.out k1 (by have := HNe.out; omega)
  have hy := heap_setCell_same w1 B 24 cs 37 (.slice a1 rows.length c1) HB1.out
  have HX : Hid ((w1.setCell ⟨B, 24, none⟩ (.slice a1 rows.length c1)).heap[w.heap.size]? = some (.cells es 44 (0, 0))) := hx
  have HY : Hid ((w1.setCell ⟨B, 24, none⟩ (.slice a1 rows.length c1)).heap[B]? = some (.cells (cs.setIfInBounds 24 (.slice a1 rows.length c1)) 37 (0, 0))) := hy
  have HLk : Hid (Lw lo B 67 12 (.slice a m c) rows w (.slice a1 rows.length c1) (w1.setCell ⟨B, 24, none⟩ (.slice a1 rows.length c1))) := HL.out.kb HB1.out (by decide) HLo.out k1
  clear k1 hx hy
  go_simp
  refine hK.out _ _ ⟨row_cell HX.out e4, row_cell HX.out e5, row_cell HX.out e6, row_cell HX.out e7, row_cell HX.out e8, row_cell HX.out e9⟩ (fun hHeld => ?_)
  clear hK K
  refine wpAnyH_done (by kernel_rfl) ?_ _
  go_wp2_with fail
  go_end0
  exact HQ.out _ _ HY.out HLk.out
set_option maxHeartbeats 4000000 in
set_option maxRecDepth 100000 in
theorem updates13 (lo B UB m c : Nat) (cs es : Array Value) (us : List (Array Value)) (q : ByteArray) (j : Nat) (r : Array Value) (g1 k1 x1 b1 : Int) (s1 : ByteArray) (a1 : Option Addr) (m1 n1 : Nat) (k0 x0 b0 : Int) (s0 : ByteArray) (a0 : Option Addr) (m0 n0 : Nat) (w : World) (hg : w.heap[B]? = some (.cells cs 37 (0, 0))) (hs : cs.size = 31) (c24 : cs[24]? = some (.slice (some ⟨UB, 0, none⟩) m c)) (hO : w.ownsRow lo 67 12 (.slice (some ⟨UB, 0, none⟩) m c) m (us.flatMap Array.toList)) (hul : us.length = m) (hus : ∀ (i : Nat) r, us[i]? = some r → r.size = 12) (_hn : m ≤ 500) (hlo : lo ≤ B) (hr : us[j]? = some r)
    (r6 : r[6]? = some (.int .i64 g1)) (r7 : r[7]? = some (.int .i64 k1)) (r8 : r[8]? = some (.int .i64 x1)) (r9 : r[9]? = some (.int .u64 b1)) (r10 : r[10]? = some (.string s1)) (r11 : r[11]? = some (.slice a1 m1 n1))
    (KW : Hid (∀ W, Below w.heap.size w W → Calls Tryz.prog 72 #[.agg cs, .string q] W (IxP (j : Int) W))) (e0 : es[0]? = some (.int .i64 13)) (e4 : es[4]? = some (.string q)) (e5 : es[5]? = some (.int .i64 k0)) (e6 : es[6]? = some (.int .i64 x0)) (e7 : es[7]? = some (.int .u64 b0)) (e8 : es[8]? = some (.string s0)) (e9 : es[9]? = some (.slice a0 m0 n0)) :
    Calls Tryz.prog 62 #[.pointer (some ⟨B, 0, none⟩), .agg es] w (OuP lo B UB m c cs (us.set j (endU r [.int .i64 2, .int .i64 k0, .int .i64 x0, .int .u64 b0, .string s0, .slice a0 m0 n0])) w) := by
  have hBl : B < w.heap.size := (Array.getElem?_eq_some_iff.1 hg).1
  have hlU : lo ≤ UB ∧ UB < w.heap.size := hO.lt UB rfl
  have hne : UB ≠ B := fun e => box_ne hO (by decide) hg (by rw [← e]; rfl)
  have hj : j < m := by have := (List.getElem?_eq_some_iff.1 hr).1; omega
  have hlies : ∀ k v, r[k]? = some v → w.cell? ⟨UB, j * 12 + k, none⟩ = some v := fun k v hk => by
    have := hO.cells (g := UB) rfl (j * 12 + k) v (flatS_put hus hr hk)
    rw [← this]
    congr 1
    simp [Addr.add]
  have KF : Hid (∀ w1, Below w.heap.size w w1 → OuP lo B UB m c cs (us.set j (endU r [.int .i64 2, .int .i64 k0, .int .i64 x0, .int .u64 b0, .string s0, .slice a0 m0 n0])) w (.returned (.tuple #[])) (w1.setCells UB (j * 12 + 6) [.int .i64 2, .int .i64 k0, .int .i64 x0, .int .u64 b0, .string s0, .slice a0 m0 n0]).drew) := fun w1 hb => by
    have hO1 : w1.ownsRow lo 67 12 (.slice (some ⟨UB, 0, none⟩) m c) m (us.flatMap Array.toList) := owns_blk hO (Nat.le_refl _) fun B' h => hb.block B' (hO.lt B' h).2
    have kb := setCells_kb UB [.int .i64 2, .int .i64 k0, .int .i64 x0, .int .u64 b0, .string s0, .slice a0 m0 n0] (j * 12 + 6) w1
    have hsz := hb.size
    have h1 := row_kb (row_below hb hg) kb (Ne.symm hne)
    have h2 := own_upd (vs := #[.int .i64 2, .int .i64 k0, .int .i64 x0, .int .u64 b0, .string s0, .slice a0 m0 n0]) hO1 hul hus hr rfl
    have h3 := (hb.mono (show lo ≤ w.heap.size by omega)).trans (kb.below hlU.1 (show lo ≤ w1.heap.size by omega))
    have h4 : ∀ B', B' < w.heap.size → B' ≠ UB → (w1.setCells UB (j * 12 + 6) [.int .i64 2, .int .i64 k0, .int .i64 x0, .int .u64 b0, .string s0, .slice a0 m0 n0]).heap[B']? = w.heap[B']? := fun B' h1 h2 => (ne_blk kb (by omega) h2).trans (hb.block B' h1)
    generalize w1.setCells UB (j * 12 + 6) [.int .i64 2, .int .i64 k0, .int .i64 x0, .int .u64 b0, .string s0, .slice a0 m0 n0] = W9 at h1 h2 h3 h4 ⊢
    exact ⟨rfl, h1, owns_blk (w' := W9.drew) h2 (Nat.le_refl _) (fun _ _ => rfl), h3.drew, h4⟩
  generalize OuP lo B UB m c cs (us.set j (endU r [.int .i64 2, .int .i64 k0, .int .i64 x0, .int .u64 b0, .string s0, .slice a0 m0 n0])) w = Q at KF ⊢
  have hi33 := info33l cs hs
  have HB0 : Hid ((w.alloc (.cells es 44)).heap[B]? = some (.cells cs 37 (0, 0))) := row_below (bel1 _ _) hg
  have HG0 : Hid ((w.alloc (.cells es 44)).heap[w.heap.size]? = some (.cells es 44 (0, 0))) := heap_alloc_last w _
  have HBw : Hid (Below w.heap.size w (w.alloc (.cells es 44))) := bel1 _ _
  have HGU : Hid (w.heap.size ≠ UB) := (by omega : w.heap.size ≠ UB)
  have HUl : Hid (UB < w.heap.size) := hlU.2
  have HL : Hid (∀ k v, r[k]? = some v → w.cell? ⟨UB, j * 12 + k, none⟩ = some v) := hlies
  have HF : Hid (∀ o, w.frozen? ⟨UB, o, none⟩ = false) := fun o => hO.frozenAt o
  have hjl : (j : Int) < (m : Int) := by omega
  have hjl2 : j < m := hj
  clear hO hlU hne hlies hg hlo hs hBl hj hul hus hr
  clear us
  go_enter Tryz.func62, Tryz.ntmps62
  go_wp2_with fail
  generalize w.alloc (.cells es 44) = W0 at HB0 HG0 HBw ⊢
  refine wp_region_held_drew (S := (fun w' => w'.cell? ⟨w.heap.size, 4, none⟩ = some (.string q) ∧ w'.cell? ⟨B, 24, none⟩ = some (.slice (some ⟨UB, 0, none⟩) m c) ∧ w'.rangeAt B 0 cs.toList)) (by kernel_rfl) ⟨row_cell HG0.out e4, row_cell HB0.out c24, row_range HB0.out⟩ (fun hHeld => ?_)
  change wpAnyH _ _ _ _ _ _ _ _ (World.drew _)
  refine wpAnyH_take (i := 0) (oi := { dst := some 22, op := Go.Op.move (Go.Operand.tmp 0), type := 87, pos := "step.go:151", after := #[], guard := none }) (v := ?_) rfl (by kernel_rfl) (by kernel_rfl) (by kernel_rfl) (fun _ _ _ h => h) (Or.inl ⟨by rfl, ?_⟩) hHeld ?_
  rotate_left 1
  · (intro w hSw; (try dsimp only at hSw); go_simp <;> with_reducible rfl)
  simp only [Act.put, List.setIfInBounds_toArray, List.set_cons_zero, List.set_cons_succ]
  refine wpAnyH_take (i := 1) (oi := { dst := some 23, op := Go.Op.nilCheck (Go.Operand.tmp 22), type := 0, pos := "step.go:151", after := #[{ on := 0, ground := Go.Ground.data }], guard := none }) (v := ?_) rfl (by kernel_rfl) (by kernel_rfl) (by kernel_rfl) (fun _ _ _ h => h) (Or.inl ⟨by rfl, ?_⟩) hHeld ?_
  rotate_left 1
  · (intro w hSw; (try dsimp only at hSw); go_simp <;> with_reducible rfl)
  simp only [Act.put, List.setIfInBounds_toArray, List.set_cons_zero, List.set_cons_succ]
  refine wpAnyH_take (i := 2) (oi := { dst := some 24, op := Go.Op.fieldAddr 37 (Go.Operand.tmp 23) 14, type := 0, pos := "step.go:151", after := #[{ on := 1, ground := Go.Ground.data }], guard := none }) (v := ?_) rfl (by kernel_rfl) (by kernel_rfl) (by kernel_rfl) (fun _ _ _ h => h) (Or.inl ⟨by rfl, ?_⟩) hHeld ?_
  rotate_left 1
  · (intro w hSw; (try dsimp only at hSw); go_simp <;> with_reducible rfl)
  simp only [Act.put, List.setIfInBounds_toArray, List.set_cons_zero, List.set_cons_succ]
  refine wpAnyH_take (i := 3) (oi := { dst := some 25, op := Go.Op.load 35 (Go.Operand.tmp 24), type := 35, pos := "step.go:151", after := #[{ on := 2, ground := Go.Ground.data }], guard := none }) (v := ?_) rfl (by kernel_rfl) (by kernel_rfl) (by kernel_rfl) (fun _ _ _ h => h) (Or.inl ⟨by rfl, ?_⟩) hHeld ?_
  rotate_left 1
  · (intro w hSw; (try dsimp only at hSw); go_simp <;> with_reducible rfl)
  simp only [Act.put, List.setIfInBounds_toArray, List.set_cons_zero, List.set_cons_succ]
  refine wpAnyH_take (i := 4) (oi := { dst := some 26, op := Go.Op.move (Go.Operand.tmp 0), type := 87, pos := "step.go:151", after := #[], guard := none }) (v := ?_) rfl (by kernel_rfl) (by kernel_rfl) (by kernel_rfl) (fun _ _ _ h => h) (Or.inl ⟨by rfl, ?_⟩) hHeld ?_
  rotate_left 1
  · (intro w hSw; (try dsimp only at hSw); go_simp <;> with_reducible rfl)
  simp only [Act.put, List.setIfInBounds_toArray, List.set_cons_zero, List.set_cons_succ]
  refine wpAnyH_take (i := 5) (oi := { dst := some 27, op := Go.Op.nilCheck (Go.Operand.tmp 26), type := 0, pos := "step.go:151", after := #[{ on := 4, ground := Go.Ground.data }], guard := none }) (v := ?_) rfl (by kernel_rfl) (by kernel_rfl) (by kernel_rfl) (fun _ _ _ h => h) (Or.inl ⟨by rfl, ?_⟩) hHeld ?_
  rotate_left 1
  · (intro w hSw; (try dsimp only at hSw); go_simp <;> with_reducible rfl)
  simp only [Act.put, List.setIfInBounds_toArray, List.set_cons_zero, List.set_cons_succ]
  refine wpAnyH_take (i := 6) (oi := { dst := some 28, op := Go.Op.load 37 (Go.Operand.tmp 27), type := 37, pos := "step.go:151", after := #[{ on := 5, ground := Go.Ground.data }], guard := none }) (v := _) rfl (by kernel_rfl) (by kernel_rfl) (by kernel_rfl) (fun _ _ _ h => h) (yieldsIf_load_mid rfl 37 _ rfl B 0 rfl cs.toList _ (fun w h => h.2.2) Tryz.underlying37 rfl hi33) hHeld ?_
  simp only [Act.put, List.setIfInBounds_toArray, List.set_cons_zero, List.set_cons_succ]
  refine wpAnyH_take (i := 7) (oi := { dst := some 29, op := Go.Op.fieldAddr 44 (Go.Operand.tmp 3) 4, type := 0, pos := "step.go:151", after := #[], guard := none }) (v := ?_) rfl (by kernel_rfl) (by kernel_rfl) (by kernel_rfl) (fun _ _ _ h => h) (Or.inl ⟨by rfl, ?_⟩) hHeld ?_
  rotate_left 1
  · (intro w hSw; (try dsimp only at hSw); go_simp <;> with_reducible rfl)
  simp only [Act.put, List.setIfInBounds_toArray, List.set_cons_zero, List.set_cons_succ]
  refine wpAnyH_take (i := 8) (oi := { dst := some 30, op := Go.Op.load 9 (Go.Operand.tmp 29), type := 9, pos := "step.go:151", after := #[{ on := 7, ground := Go.Ground.data }], guard := none }) (v := ?_) rfl (by kernel_rfl) (by kernel_rfl) (by kernel_rfl) (fun _ _ _ h => h) (Or.inl ⟨by rfl, ?_⟩) hHeld ?_
  rotate_left 1
  · (intro w hSw; (try dsimp only at hSw); go_simp <;> with_reducible rfl)
  simp only [Act.put, List.setIfInBounds_toArray, List.set_cons_zero, List.set_cons_succ]
  refine wpAnyH_ready (rs := [9]) (by kernel_rfl) (by simp) ?_
  refine AllReadyH.cons (o := { dst := some 31, op := Go.Op.call { callee := Go.Callee.value (Go.Operand.func 72), args := #[Go.Operand.tmp 28, Go.Operand.tmp 30], argTypes := #[37, 9] }, type := 3, pos := "step.go:151", after := #[{ on := 6, ground := Go.Ground.data }, { on := 8, ground := Go.Ground.data }], guard := none }) rfl (fun K hK => ?_) AllReadyH.nil
  go_simp
  refine (KW.out _ HBw.out.drew).mono ?_
  rintro e w1 ⟨rfl, hb⟩
  have HB1 : Hid (w1.heap[B]? = some (.cells cs 37 (0, 0))) := row_below hb HB0.out
  have HG1 : Hid (w1.heap[w.heap.size]? = some (.cells es 44 (0, 0))) := row_below hb HG0.out
  have HBw1 : Hid (Below w.heap.size w w1) := bel2 HBw.out.drew hb
  clear hb
  refine hK.out _ _ ⟨row_cell HG1.out e4, row_cell HB1.out c24, row_range HB1.out⟩ (fun hHeld => ?_)
  clear hK K
  refine wpAnyH_take (i := 10) (oi := { dst := some 32, op := Go.Op.indexAddr 35 (Go.Operand.tmp 25) (Go.Operand.tmp 31), type := 0, pos := "step.go:151", after := #[{ on := 3, ground := Go.Ground.data }, { on := 9, ground := Go.Ground.data }], guard := none }) (v := ?_) rfl (by kernel_rfl) (by kernel_rfl) (by kernel_rfl) (fun _ _ _ h => h) (Or.inl ⟨by rfl, ?_⟩) hHeld ?_
  rotate_left 1
  · (intro w hSw; (try dsimp only at hSw); go_simp <;> with_reducible rfl)
  simp only [Act.put, List.setIfInBounds_toArray, List.set_cons_zero, List.set_cons_succ]
  refine wpAnyH_take (i := 11) (oi := { dst := some 4, op := Go.Op.assign (Go.Operand.tmp 32), type := 98, pos := "step.go:151", after := #[{ on := 10, ground := Go.Ground.data }, { on := 9, ground := Go.Ground.chain }, { on := 0, ground := Go.Ground.phase }, { on := 1, ground := Go.Ground.phase }, { on := 2, ground := Go.Ground.phase }, { on := 3, ground := Go.Ground.phase }, { on := 4, ground := Go.Ground.phase }, { on := 5, ground := Go.Ground.phase }, { on := 6, ground := Go.Ground.phase }, { on := 7, ground := Go.Ground.phase }, { on := 8, ground := Go.Ground.phase }, { on := 9, ground := Go.Ground.phase }, { on := 10, ground := Go.Ground.phase }], guard := none }) (v := ?_) rfl (by kernel_rfl) (by kernel_rfl) (by kernel_rfl) (fun _ _ _ h => h) (Or.inl ⟨by rfl, ?_⟩) hHeld ?_
  rotate_left 1
  · (intro w hSw; (try dsimp only at hSw); go_simp <;> with_reducible rfl)
  simp only [Act.put, List.setIfInBounds_toArray, List.set_cons_zero, List.set_cons_succ]
  refine wpAnyH_done (by kernel_rfl) ?_ _
  have u6 : w1.cell? ⟨UB, j * 12 + 6, none⟩ = some (.int .i64 g1) := cell_below (HL.out 6 _ r6) HBw1.out
  have u7 : w1.cell? ⟨UB, j * 12 + 7, none⟩ = some (.int .i64 k1) := cell_below (HL.out 7 _ r7) HBw1.out
  have u8 : w1.cell? ⟨UB, j * 12 + 8, none⟩ = some (.int .i64 x1) := cell_below (HL.out 8 _ r8) HBw1.out
  have u9 : w1.cell? ⟨UB, j * 12 + 9, none⟩ = some (.int .u64 b1) := cell_below (HL.out 9 _ r9) HBw1.out
  have u10 : w1.cell? ⟨UB, j * 12 + 10, none⟩ = some (.string s1) := cell_below (HL.out 10 _ r10) HBw1.out
  have u11 : w1.cell? ⟨UB, j * 12 + 11, none⟩ = some (.slice a1 m1 n1) := cell_below (HL.out 11 _ r11) HBw1.out
  have uf : ∀ o, w1.frozen? ⟨UB, o, none⟩ = false := fun o => (HBw1.out.frozen (p := ⟨UB, o, none⟩) HUl.out).trans (HF.out o)
  have HFin : Hid (Q (.returned (.tuple #[])) (w1.setCells UB (j * 12 + 6) [.int .i64 2, .int .i64 k0, .int .i64 x0, .int .u64 b0, .string s0, .slice a0 m0 n0]).drew) := KF.out w1 HBw1.out
  have HX : Hid ((w1.setCells UB (j * 12 + 6) [.int .i64 2, .int .i64 k0, .int .i64 x0, .int .u64 b0, .string s0, .slice a0 m0 n0]).heap[w.heap.size]? = some (.cells es 44 (0, 0))) := row_kb HG1.out (setCells_kb UB [.int .i64 2, .int .i64 k0, .int .i64 x0, .int .u64 b0, .string s0, .slice a0 m0 n0] (j * 12 + 6) w1) HGU.out
  clear KF
  go_wp2_with fail
  refine wp_region_held_drew (S := (fun w' => w'.cell? ⟨w.heap.size, 5, none⟩ = some (.int .i64 k0) ∧ w'.cell? ⟨w.heap.size, 6, none⟩ = some (.int .i64 x0) ∧ w'.cell? ⟨w.heap.size, 7, none⟩ = some (.int .u64 b0) ∧ w'.cell? ⟨w.heap.size, 8, none⟩ = some (.string s0) ∧ w'.cell? ⟨w.heap.size, 9, none⟩ = some (.slice a0 m0 n0))) (by kernel_rfl) ⟨row_cell HG1.out e5, row_cell HG1.out e6, row_cell HG1.out e7, row_cell HG1.out e8, row_cell HG1.out e9⟩ (fun hHeld => ?_)
  change wpAnyH _ _ _ _ _ _ _ _ (World.drew _)
  refine wpAnyH_take (i := 0) (oi := { dst := some 33, op := Go.Op.move (Go.Operand.tmp 4), type := 98, pos := "step.go:152", after := #[], guard := none }) (v := ?_) rfl (by kernel_rfl) (by kernel_rfl) (by kernel_rfl) (fun _ _ _ h => h) (Or.inl ⟨by rfl, ?_⟩) hHeld ?_
  rotate_left 1
  · (intro w hSw; (try dsimp only at hSw); go_simp <;> with_reducible rfl)
  simp only [Act.put, List.setIfInBounds_toArray, List.set_cons_zero, List.set_cons_succ]
  refine wpAnyH_take (i := 1) (oi := { dst := some 34, op := Go.Op.move (Go.Operand.tmp 4), type := 98, pos := "step.go:152", after := #[{ on := 6, ground := Go.Ground.gcOnly Go.Departure.lateStores }], guard := none }) (v := ?_) rfl (by kernel_rfl) (by kernel_rfl) (by kernel_rfl) (fun _ _ _ h => h) (Or.inl ⟨by rfl, ?_⟩) hHeld ?_
  rotate_left 1
  · (intro w hSw; (try dsimp only at hSw); go_simp <;> with_reducible rfl)
  simp only [Act.put, List.setIfInBounds_toArray, List.set_cons_zero, List.set_cons_succ]
  refine wpAnyH_take (i := 2) (oi := { dst := some 35, op := Go.Op.fieldAddr 44 (Go.Operand.tmp 3) 5, type := 0, pos := "step.go:152", after := #[], guard := none }) (v := ?_) rfl (by kernel_rfl) (by kernel_rfl) (by kernel_rfl) (fun _ _ _ h => h) (Or.inl ⟨by rfl, ?_⟩) hHeld ?_
  rotate_left 1
  · (intro w hSw; (try dsimp only at hSw); go_simp <;> with_reducible rfl)
  simp only [Act.put, List.setIfInBounds_toArray, List.set_cons_zero, List.set_cons_succ]
  refine wpAnyH_take (i := 3) (oi := { dst := some 36, op := Go.Op.load 29 (Go.Operand.tmp 35), type := 29, pos := "step.go:152", after := #[{ on := 2, ground := Go.Ground.data }], guard := none }) (v := ?_) rfl (by kernel_rfl) (by kernel_rfl) (by kernel_rfl) (fun _ _ _ h => h) (Or.inl ⟨by rfl, ?_⟩) hHeld ?_
  rotate_left 1
  · (intro w hSw; (try dsimp only at hSw); go_simp <;> with_reducible rfl)
  simp only [Act.put, List.setIfInBounds_toArray, List.set_cons_zero, List.set_cons_succ]
  refine wpAnyH_take (i := 4) (oi := { dst := some 37, op := Go.Op.nilCheck (Go.Operand.tmp 33), type := 0, pos := "step.go:152", after := #[{ on := 0, ground := Go.Ground.data }, { on := 0, ground := Go.Ground.phase }, { on := 1, ground := Go.Ground.textOnly Go.Departure.lateStores }, { on := 2, ground := Go.Ground.textOnly Go.Departure.lateStores }, { on := 3, ground := Go.Ground.textOnly Go.Departure.inlinedCapture }], guard := none }) (v := ?_) rfl (by kernel_rfl) (by kernel_rfl) (by kernel_rfl) (fun _ _ _ h => h) (Or.inl ⟨by rfl, ?_⟩) hHeld ?_
  rotate_left 1
  · (intro w hSw; (try dsimp only at hSw); go_simp <;> with_reducible rfl)
  simp only [Act.put, List.setIfInBounds_toArray, List.set_cons_zero, List.set_cons_succ]
  refine wpAnyH_take (i := 5) (oi := { dst := some 38, op := Go.Op.fieldAddr 67 (Go.Operand.tmp 37) 2, type := 0, pos := "step.go:152", after := #[{ on := 4, ground := Go.Ground.data }, { on := 0, ground := Go.Ground.phase }, { on := 1, ground := Go.Ground.textOnly Go.Departure.lateStores }, { on := 2, ground := Go.Ground.textOnly Go.Departure.lateStores }, { on := 3, ground := Go.Ground.textOnly Go.Departure.inlinedCapture }], guard := none }) (v := ?_) rfl (by kernel_rfl) (by kernel_rfl) (by kernel_rfl) (fun _ _ _ h => h) (Or.inl ⟨by rfl, ?_⟩) hHeld ?_
  rotate_left 1
  · (intro w hSw; (try dsimp only at hSw); go_simp <;> with_reducible rfl)
  simp only [Act.put, List.setIfInBounds_toArray, List.set_cons_zero, List.set_cons_succ]
  refine wpAnyH_ready (rs := [6]) (by kernel_rfl) (by simp) ?_
  refine AllReadyH.cons (o := { dst := none, op := Go.Op.store 3 (Go.Operand.tmp 38) (Go.Operand.const (Go.Value.int Go.IntKind.i64 2)), type := 0, pos := "step.go:152", after := #[{ on := 5, ground := Go.Ground.data }, { on := 0, ground := Go.Ground.phase }, { on := 1, ground := Go.Ground.textOnly Go.Departure.lateStores }, { on := 2, ground := Go.Ground.textOnly Go.Departure.lateStores }, { on := 3, ground := Go.Ground.textOnly Go.Departure.inlinedCapture }], guard := none }) rfl (fun K hK => ?_) AllReadyH.nil
  go_simp
  refine hK.out _ _ ⟨row_cell (row_kb HG1.out (KB.setCell UB w1 (j * 12 + 6) (.int .i64 2)) HGU.out) e5, row_cell (row_kb HG1.out (KB.setCell UB w1 (j * 12 + 6) (.int .i64 2)) HGU.out) e6, row_cell (row_kb HG1.out (KB.setCell UB w1 (j * 12 + 6) (.int .i64 2)) HGU.out) e7, row_cell (row_kb HG1.out (KB.setCell UB w1 (j * 12 + 6) (.int .i64 2)) HGU.out) e8, row_cell (row_kb HG1.out (KB.setCell UB w1 (j * 12 + 6) (.int .i64 2)) HGU.out) e9⟩ (fun hHeld => ?_)
  clear hK K
  refine wpAnyH_take (i := 7) (oi := { dst := some 39, op := Go.Op.nilCheck (Go.Operand.tmp 34), type := 0, pos := "step.go:152", after := #[{ on := 1, ground := Go.Ground.data }, { on := 0, ground := Go.Ground.phase }, { on := 1, ground := Go.Ground.phase }, { on := 2, ground := Go.Ground.phase }, { on := 3, ground := Go.Ground.phase }, { on := 4, ground := Go.Ground.phase }, { on := 5, ground := Go.Ground.phase }, { on := 6, ground := Go.Ground.phase }], guard := none }) (v := ?_) rfl (by kernel_rfl) (by kernel_rfl) (by kernel_rfl) (fun _ _ _ h => h) (Or.inl ⟨by rfl, ?_⟩) hHeld ?_
  rotate_left 1
  · (intro w hSw; (try dsimp only at hSw); go_simp <;> with_reducible rfl)
  simp only [Act.put, List.setIfInBounds_toArray, List.set_cons_zero, List.set_cons_succ]
  refine wpAnyH_take (i := 8) (oi := { dst := some 40, op := Go.Op.fieldAddr 67 (Go.Operand.tmp 39) 3, type := 0, pos := "step.go:152", after := #[{ on := 7, ground := Go.Ground.data }, { on := 0, ground := Go.Ground.phase }, { on := 1, ground := Go.Ground.phase }, { on := 2, ground := Go.Ground.phase }, { on := 3, ground := Go.Ground.phase }, { on := 4, ground := Go.Ground.phase }, { on := 5, ground := Go.Ground.phase }, { on := 6, ground := Go.Ground.phase }], guard := none }) (v := ?_) rfl (by kernel_rfl) (by kernel_rfl) (by kernel_rfl) (fun _ _ _ h => h) (Or.inl ⟨by rfl, ?_⟩) hHeld ?_
  rotate_left 1
  · (intro w hSw; (try dsimp only at hSw); go_simp <;> with_reducible rfl)
  simp only [Act.put, List.setIfInBounds_toArray, List.set_cons_zero, List.set_cons_succ]
  refine wpAnyH_ready (rs := [9]) (by kernel_rfl) (by simp) ?_
  refine AllReadyH.cons (o := { dst := none, op := Go.Op.store 29 (Go.Operand.tmp 40) (Go.Operand.tmp 36), type := 0, pos := "step.go:152", after := #[{ on := 8, ground := Go.Ground.data }, { on := 3, ground := Go.Ground.data }, { on := 6, ground := Go.Ground.chain }, { on := 0, ground := Go.Ground.phase }, { on := 1, ground := Go.Ground.phase }, { on := 2, ground := Go.Ground.phase }, { on := 3, ground := Go.Ground.phase }, { on := 4, ground := Go.Ground.phase }, { on := 5, ground := Go.Ground.phase }, { on := 6, ground := Go.Ground.phase }], guard := none }) rfl (fun K hK => ?_) AllReadyH.nil
  go_simp
  rw [six_eq]
  generalize w1.setCells UB (j * 12 + 6) [.int .i64 2, .int .i64 k0, .int .i64 x0, .int .u64 b0, .string s0, .slice a0 m0 n0] = W9 at HX HFin ⊢
  refine hK.out _ _ ⟨row_cell HX.out e5, row_cell HX.out e6, row_cell HX.out e7, row_cell HX.out e8, row_cell HX.out e9⟩ (fun hHeld => ?_)
  clear hK K
  refine wpAnyH_done (by kernel_rfl) ?_ _
  go_wp2_with fail
  go_end0
  exact HFin.out
end Go.Proofs.YtakaglfeeipeiaaGreat
