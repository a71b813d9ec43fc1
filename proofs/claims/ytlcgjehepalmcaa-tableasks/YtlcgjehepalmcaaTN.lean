/- The contract of the reference's Key; the walk of TableKeys. -/
import Derived.Test.YtlcgjehepalmcaaTJ
import Derived.Test.YtlcgjehepalmcaaYP
namespace Go.Proofs.Ytlcgjehepalmcaa
open Go.ChangeShapes Go.WideShapes Go.ChangeAt Go.RowKit
theorem rb_hp {w w' : World} {l : List UInt8} {e : Ending} (h : RB w l e w') : HpP w l e w' := by
  obtain ⟨v, h1, h2, h3⟩ := h
  exact ⟨v, h1, own_holds h2, h3⟩
set_option maxHeartbeats 4000000 in
set_option maxRecDepth 100000 in
theorem rkey_calls (n : Nat) (cs : Array Value) (r : Rq) (w : World) (h : IsR w n cs r) : Calls Try.prog 20 #[.agg cs] w (HpP w (keyB r)) := by
  obtain ⟨t, ⟨vk, vx, vb, vs, va, vm, vc, g4, g5, g6, g7, g8, hi⟩, hpt⟩ := h.v
  have V0 : Hid (cs[4]? = some (.int .i64 vk)) := g4
  have V1 : Hid (cs[5]? = some (.int .i64 vx)) := g5
  have V2 : Hid (cs[6]? = some (.int .u64 vb)) := g6
  have V3 : Hid (cs[7]? = some (.string vs)) := g7
  have V4 : Hid (cs[8]? = some (.slice va vm vc)) := g8
  have hl1 : (be (tn r.kind) 8).length = 8 := be_len8 _
  have hen := enc_length r.name.size (by have := h.wq; omega)
  have hnl := data_len r.name
  have hwq := h.wq
  have hpl := hpt.len
  have hl2 : (be (tn r.kind) 8 ++ enc r.name.size ++ r.name.data.toList).length ≤ 140737488351249 := by simp only [List.length_append, hl1, hnl]; omega
  have hl3 : ((be (tn r.kind) 8 ++ enc r.name.size ++ r.name.data.toList) ++ r.pb).length ≤ 140737488352249 := by rw [List.length_append]; omega
  have hl4 : (((be (tn r.kind) 8 ++ enc r.name.size ++ r.name.data.toList) ++ r.pb) ++ be (tn r.num) 8).length ≤ 140737488352257 := by rw [List.length_append, be_len8]; omega
  have hl5 : ((((be (tn r.kind) 8 ++ enc r.name.size ++ r.name.data.toList) ++ r.pb) ++ be (tn r.num) 8) ++ be (tn r.first) 8).length ≤ 140737488352265 := by rw [List.length_append, be_len8]; omega
  have hl6 : (((((be (tn r.kind) 8 ++ enc r.name.size ++ r.name.data.toList) ++ r.pb) ++ be (tn r.num) 8) ++ be (tn r.first) 8) ++ be r.coef 8).length ≤ 140737488352273 := by rw [List.length_append, be_len8]; omega
  have K0 : Hid (∀ W v, Below w.heap.size w W → Lib.HoldsBytes W v ([]) → Calls Try.prog 36 #[v, .int .i64 r.kind] W (HpP W (be (tn r.kind) 8))) := fun W v hB hv => (refInt_all v [] r.kind h.wk W hv (by simp)).mono fun _ _ h => rb_hp h
  have K1 : Hid (∀ W v, Below w.heap.size w W → Lib.HoldsBytes W v (be (tn r.kind) 8) → Calls Try.prog 35 #[v, .string r.name] W (HpP W (be (tn r.kind) 8 ++ enc r.name.size ++ r.name.data.toList))) := fun W v hB hv => (refText_big v _ r.name W hv (by omega) h.wq).mono fun _ _ h => rb_hp h
  have K2 : Hid (∀ W v, Below w.heap.size w W → Lib.HoldsBytes W v (be (tn r.kind) 8 ++ enc r.name.size ++ r.name.data.toList) → Calls Try.prog 37 #[v, .agg #[.int .i64 vk, .int .i64 vx, .int .u64 vb, .string vs, .slice va vm vc]] W (HpP W ((be (tn r.kind) 8 ++ enc r.name.size ++ r.name.data.toList) ++ r.pb))) := fun W v hB hv => (rput_calls n _ t v _ W (hi.below hB) hv (by omega)).mono fun e w' ⟨v', h1, h2, h3, h4⟩ => ⟨v', h1, by
    by_cases hs : ShapeT n 4 t ∧ (bytesT n t).length ≤ 1000
    · rw [hpt.1 hs]; exact h2 hs
    · rw [hpt.2 hs, List.append_nil]; exact h3 hs, h4⟩
  have K3 : Hid (∀ W v, Below w.heap.size w W → Lib.HoldsBytes W v ((be (tn r.kind) 8 ++ enc r.name.size ++ r.name.data.toList) ++ r.pb) → Calls Try.prog 36 #[v, .int .i64 r.num] W (HpP W (((be (tn r.kind) 8 ++ enc r.name.size ++ r.name.data.toList) ++ r.pb) ++ be (tn r.num) 8))) := fun W v hB hv => (refInt_all v _ r.num h.wn W hv (by omega)).mono fun _ _ h => rb_hp h
  have K4 : Hid (∀ W v, Below w.heap.size w W → Lib.HoldsBytes W v (((be (tn r.kind) 8 ++ enc r.name.size ++ r.name.data.toList) ++ r.pb) ++ be (tn r.num) 8) → Calls Try.prog 36 #[v, .int .i64 r.first] W (HpP W ((((be (tn r.kind) 8 ++ enc r.name.size ++ r.name.data.toList) ++ r.pb) ++ be (tn r.num) 8) ++ be (tn r.first) 8))) := fun W v hB hv => (refInt_all v _ r.first h.wf W hv (by omega)).mono fun _ _ h => rb_hp h
  have K5 : Hid (∀ W v, Below w.heap.size w W → Lib.HoldsBytes W v ((((be (tn r.kind) 8 ++ enc r.name.size ++ r.name.data.toList) ++ r.pb) ++ be (tn r.num) 8) ++ be (tn r.first) 8) → Calls Try.prog 38 #[v, .int .u64 (r.coef : Int)] W (HpP W (((((be (tn r.kind) 8 ++ enc r.name.size ++ r.name.data.toList) ++ r.pb) ++ be (tn r.num) 8) ++ be (tn r.first) 8) ++ be r.coef 8))) := fun W v hB hv => (refBits_all v _ r.coef h.wc W hv (by omega)).mono fun _ _ h => rb_hp h
  have K6 : Hid (∀ W v, Below w.heap.size w W → Lib.HoldsBytes W v (((((be (tn r.kind) 8 ++ enc r.name.size ++ r.name.data.toList) ++ r.pb) ++ be (tn r.num) 8) ++ be (tn r.first) 8) ++ be r.coef 8) → Calls Try.prog 36 #[v, .int .i64 r.most] W (HpP W ((((((be (tn r.kind) 8 ++ enc r.name.size ++ r.name.data.toList) ++ r.pb) ++ be (tn r.num) 8) ++ be (tn r.first) 8) ++ be r.coef 8) ++ be (tn r.most) 8))) := fun W v hB hv => (refInt_all v _ r.most h.wm W hv (by omega)).mono fun _ _ h => rb_hp h
  have c0 := h.c0
  have c3 := h.c3
  have c10 := h.c10
  have c12 := h.c12
  have c13 := h.c13
  have c14 := h.c14
  have HQ : Hid (∀ v w', Lib.HoldsBytes w' v ((((((be (tn r.kind) 8 ++ enc r.name.size ++ r.name.data.toList) ++ r.pb) ++ be (tn r.num) 8) ++ be (tn r.first) 8) ++ be r.coef 8) ++ be (tn r.most) 8) → Below w.heap.size w w' → HpP w (keyB r) (.returned v) w') := fun v w' h1 h2 => ⟨v, rfl, by
    have e : keyB r = (((((be (tn r.kind) 8 ++ enc r.name.size ++ r.name.data.toList) ++ r.pb) ++ be (tn r.num) 8) ++ be (tn r.first) 8) ++ be r.coef 8) ++ be (tn r.most) 8 := by simp [keyB, keyP]
    rw [e]
    exact h1, h2⟩
  generalize HpP w (keyB r) = Q at HQ ⊢
  clear h hi hpt hl1 hen hnl hwq hpl hl2 hl3 hl4 hl5 hl6
  generalize (((((be (tn r.kind) 8 ++ enc r.name.size ++ r.name.data.toList) ++ r.pb) ++ be (tn r.num) 8) ++ be (tn r.first) 8) ++ be r.coef 8) ++ be (tn r.most) 8 = L7 at K6 HQ
  generalize ((((be (tn r.kind) 8 ++ enc r.name.size ++ r.name.data.toList) ++ r.pb) ++ be (tn r.num) 8) ++ be (tn r.first) 8) ++ be r.coef 8 = L6 at K6 K5
  generalize (((be (tn r.kind) 8 ++ enc r.name.size ++ r.name.data.toList) ++ r.pb) ++ be (tn r.num) 8) ++ be (tn r.first) 8 = L5 at K5 K4
  generalize ((be (tn r.kind) 8 ++ enc r.name.size ++ r.name.data.toList) ++ r.pb) ++ be (tn r.num) 8 = L4 at K4 K3
  generalize (be (tn r.kind) 8 ++ enc r.name.size ++ r.name.data.toList) ++ r.pb = L3 at K3 K2
  generalize be (tn r.kind) 8 ++ enc r.name.size ++ r.name.data.toList = L2 at K2 K1
  generalize be (tn r.kind) 8 = L1 at K1 K0
  have HG0 : Hid ((w.alloc (.cells cs 32)).heap[w.heap.size]? = some (.cells cs 32 (0, 0))) := heap_alloc_last w _
  have HB0 : Hid (Below w.heap.size w (w.alloc (.cells cs 32))) := bel1 _ _
  have P0 : Hid (Lib.HoldsBytes (w.alloc (.cells cs 32)) (.slice none 0 0) []) := holds_nil _
  go_enter Try.func20, Try.ntmps20
  go_upto_region 1 with fail
  change Code.wp _ _ _ _ (w.alloc (.cells cs 32))
  generalize w.alloc (.cells cs 32) = W0 at HG0 HB0 P0 ⊢
  refine wp_region_held_drew (S := (fun w' => (∀ j, w'.cell? ⟨w.heap.size, j, none⟩ = cs[j]?) ∧ w'.rangeAt w.heap.size 4 [.int .i64 vk, .int .i64 vx, .int .u64 vb, .string vs, .slice va vm vc])) (by kernel_rfl) ⟨fun j => cell_of_row _ _ j cs 32 (0, 0) HG0.out, range4 HG0.out V0.out V1.out V2.out V3.out V4.out⟩ (fun hHeld => ?_)
  change wpAnyH _ _ _ _ _ _ _ _ (World.drew _)
  refine wpAnyH_take (i := 0) (oi := { dst := some 4, op := Go.Op.fieldAddr 32 (Go.Operand.tmp 1) 0, type := 0, pos := "ref.go:13", after := #[], guard := none }) (v := ?_) rfl (by kernel_rfl) (by kernel_rfl) (by kernel_rfl) (fun _ _ _ h => h) (Or.inl ⟨by rfl, ?_⟩) hHeld ?_
  rotate_left 1
  · (intro w hSw; (try dsimp only at hSw); go_simp <;> with_reducible rfl)
  simp only [Act.put, List.setIfInBounds_toArray, List.set_cons_zero, List.set_cons_succ]
  refine wpAnyH_take (i := 1) (oi := { dst := some 5, op := Go.Op.load 3 (Go.Operand.tmp 4), type := 3, pos := "ref.go:13", after := #[{ on := 0, ground := Go.Ground.data }], guard := none }) (v := ?_) rfl (by kernel_rfl) (by kernel_rfl) (by kernel_rfl) (fun _ _ _ h => h) (Or.inl ⟨by rfl, ?_⟩) hHeld ?_
  rotate_left 1
  · (intro w hSw; (try dsimp only at hSw); go_simp <;> with_reducible rfl)
  simp only [Act.put, List.setIfInBounds_toArray, List.set_cons_zero, List.set_cons_succ]
  refine wpAnyH_take (i := 3) (oi := { dst := some 7, op := Go.Op.fieldAddr 32 (Go.Operand.tmp 1) 3, type := 0, pos := "ref.go:13", after := #[], guard := none }) (v := ?_) rfl (by kernel_rfl) (by kernel_rfl) (by kernel_rfl) (fun _ _ _ h => h) (Or.inl ⟨by rfl, ?_⟩) hHeld ?_
  rotate_left 1
  · (intro w hSw; (try dsimp only at hSw); go_simp <;> with_reducible rfl)
  simp only [Act.put, List.setIfInBounds_toArray, List.set_cons_zero, List.set_cons_succ]
  refine wpAnyH_take (i := 4) (oi := { dst := some 8, op := Go.Op.load 9 (Go.Operand.tmp 7), type := 9, pos := "ref.go:13", after := #[{ on := 3, ground := Go.Ground.data }], guard := none }) (v := ?_) rfl (by kernel_rfl) (by kernel_rfl) (by kernel_rfl) (fun _ _ _ h => h) (Or.inl ⟨by rfl, ?_⟩) hHeld ?_
  rotate_left 1
  · (intro w hSw; (try dsimp only at hSw); go_simp <;> with_reducible rfl)
  simp only [Act.put, List.setIfInBounds_toArray, List.set_cons_zero, List.set_cons_succ]
  refine wpAnyH_ready (rs := [2]) (by kernel_rfl) (by simp) ?_
  refine AllReadyH.cons (o := { dst := some 6, op := Go.Op.call { callee := Go.Callee.value (Go.Operand.func 36), args := #[Go.Operand.const (Go.Value.slice none 0 0), Go.Operand.tmp 5], argTypes := #[35, 3] }, type := 35, pos := "ref.go:13", after := #[{ on := 1, ground := Go.Ground.data }], guard := none }) rfl (fun K hK => ?_) AllReadyH.nil
  go_simp
  refine Calls.mono (K0.out _ _ HB0.out.drew (holds_below P0.out (Below.refl _ _).drew)) ?_
  rintro e w1 ⟨v1, rfl, hh, hb⟩
  have HB1 : Hid (Below w.heap.size w w1) := bel2 HB0.out.drew hb
  have HG1 : Hid (w1.heap[w.heap.size]? = some (.cells cs 32 (0, 0))) := row_below hb HG0.out
  have P1 : Hid (Lib.HoldsBytes w1 v1 L1) := hh
  clear hh hb
  refine hK.out _ _ ⟨fun j => cell_of_row _ _ j cs 32 (0, 0) HG1.out, range4 HG1.out V0.out V1.out V2.out V3.out V4.out⟩ (fun hHeld => ?_)
  clear hK K
  refine wpAnyH_ready (rs := [5]) (by kernel_rfl) (by simp) ?_
  refine AllReadyH.cons (o := { dst := some 9, op := Go.Op.call { callee := Go.Callee.value (Go.Operand.func 35), args := #[Go.Operand.tmp 6, Go.Operand.tmp 8], argTypes := #[35, 9] }, type := 35, pos := "ref.go:13", after := #[{ on := 2, ground := Go.Ground.data }, { on := 4, ground := Go.Ground.data }, { on := 2, ground := Go.Ground.chain }], guard := none }) rfl (fun K hK => ?_) AllReadyH.nil
  go_simp
  refine Calls.mono (K1.out _ _ HB1.out P1.out) ?_
  rintro e w2 ⟨v2, rfl, hh, hb⟩
  have HB2 : Hid (Below w.heap.size w w2) := bel2 HB1.out hb
  have HG2 : Hid (w2.heap[w.heap.size]? = some (.cells cs 32 (0, 0))) := row_below hb HG1.out
  have P2 : Hid (Lib.HoldsBytes w2 v2 L2) := hh
  clear hh hb
  refine hK.out _ _ ⟨fun j => cell_of_row _ _ j cs 32 (0, 0) HG2.out, range4 HG2.out V0.out V1.out V2.out V3.out V4.out⟩ (fun hHeld => ?_)
  clear hK K
  refine wpAnyH_take (i := 6) (oi := { dst := some 3, op := Go.Op.assign (Go.Operand.tmp 9), type := 35, pos := "ref.go:13", after := #[{ on := 5, ground := Go.Ground.data }, { on := 5, ground := Go.Ground.chain }, { on := 0, ground := Go.Ground.phase }, { on := 1, ground := Go.Ground.phase }, { on := 2, ground := Go.Ground.phase }, { on := 3, ground := Go.Ground.phase }, { on := 4, ground := Go.Ground.phase }, { on := 5, ground := Go.Ground.phase }], guard := none }) (v := ?_) rfl (by kernel_rfl) (by kernel_rfl) (by kernel_rfl) (fun _ _ _ h => h) (Or.inl ⟨by rfl, ?_⟩) hHeld ?_
  rotate_left 1
  · (intro w hSw; (try dsimp only at hSw); go_simp <;> with_reducible rfl)
  simp only [Act.put, List.setIfInBounds_toArray, List.set_cons_zero, List.set_cons_succ]
  refine wpAnyH_done (by kernel_rfl) ?_ _
  go_upto_region 2 with fail
  refine wp_region_held_drew (S := (fun w' => (∀ j, w'.cell? ⟨w.heap.size, j, none⟩ = cs[j]?) ∧ w'.rangeAt w.heap.size 4 [.int .i64 vk, .int .i64 vx, .int .u64 vb, .string vs, .slice va vm vc])) (by kernel_rfl) ⟨fun j => cell_of_row _ _ j cs 32 (0, 0) HG2.out, range4 HG2.out V0.out V1.out V2.out V3.out V4.out⟩ (fun hHeld => ?_)
  change wpAnyH _ _ _ _ _ _ _ _ (World.drew _)
  refine wpAnyH_take (i := 0) (oi := { dst := some 10, op := Go.Op.move (Go.Operand.tmp 3), type := 35, pos := "ref.go:14", after := #[], guard := none }) (v := ?_) rfl (by kernel_rfl) (by kernel_rfl) (by kernel_rfl) (fun _ _ _ h => h) (Or.inl ⟨by rfl, ?_⟩) hHeld ?_
  rotate_left 1
  · (intro w hSw; (try dsimp only at hSw); go_simp <;> with_reducible rfl)
  simp only [Act.put, List.setIfInBounds_toArray, List.set_cons_zero, List.set_cons_succ]
  refine wpAnyH_take (i := 1) (oi := { dst := some 11, op := Go.Op.fieldAddr 32 (Go.Operand.tmp 1) 4, type := 0, pos := "ref.go:14", after := #[], guard := none }) (v := ?_) rfl (by kernel_rfl) (by kernel_rfl) (by kernel_rfl) (fun _ _ _ h => h) (Or.inl ⟨by rfl, ?_⟩) hHeld ?_
  rotate_left 1
  · (intro w hSw; (try dsimp only at hSw); go_simp <;> with_reducible rfl)
  simp only [Act.put, List.setIfInBounds_toArray, List.set_cons_zero, List.set_cons_succ]
  refine wpAnyH_take (i := 2) (oi := { dst := some 12, op := Go.Op.load 26 (Go.Operand.tmp 11), type := 26, pos := "ref.go:14", after := #[{ on := 1, ground := Go.Ground.data }], guard := none }) (v := _) rfl (by kernel_rfl) (by kernel_rfl) (by kernel_rfl) (fun _ _ _ h => h) (yieldsIf_load_mid rfl 26 _ rfl w.heap.size 4 rfl [.int .i64 vk, .int .i64 vx, .int .u64 vb, .string vs, .slice va vm vc] _ (fun w h => h.2) Try.underlying26 rfl info26s) hHeld ?_
  simp only [Act.put, List.setIfInBounds_toArray, List.set_cons_zero, List.set_cons_succ]
  refine wpAnyH_take (i := 4) (oi := { dst := some 14, op := Go.Op.fieldAddr 32 (Go.Operand.tmp 1) 6, type := 0, pos := "ref.go:14", after := #[], guard := none }) (v := ?_) rfl (by kernel_rfl) (by kernel_rfl) (by kernel_rfl) (fun _ _ _ h => h) (Or.inl ⟨by rfl, ?_⟩) hHeld ?_
  rotate_left 1
  · (intro w hSw; (try dsimp only at hSw); go_simp <;> with_reducible rfl)
  simp only [Act.put, List.setIfInBounds_toArray, List.set_cons_zero, List.set_cons_succ]
  refine wpAnyH_take (i := 5) (oi := { dst := some 15, op := Go.Op.load 3 (Go.Operand.tmp 14), type := 3, pos := "ref.go:14", after := #[{ on := 4, ground := Go.Ground.data }], guard := none }) (v := ?_) rfl (by kernel_rfl) (by kernel_rfl) (by kernel_rfl) (fun _ _ _ h => h) (Or.inl ⟨by rfl, ?_⟩) hHeld ?_
  rotate_left 1
  · (intro w hSw; (try dsimp only at hSw); go_simp <;> with_reducible rfl)
  simp only [Act.put, List.setIfInBounds_toArray, List.set_cons_zero, List.set_cons_succ]
  refine wpAnyH_ready (rs := [3]) (by kernel_rfl) (by simp) ?_
  refine AllReadyH.cons (o := { dst := some 13, op := Go.Op.call { callee := Go.Callee.value (Go.Operand.func 37), args := #[Go.Operand.tmp 10, Go.Operand.tmp 12], argTypes := #[35, 26] }, type := 35, pos := "ref.go:14", after := #[{ on := 0, ground := Go.Ground.data }, { on := 2, ground := Go.Ground.data }], guard := none }) rfl (fun K hK => ?_) AllReadyH.nil
  go_simp
  refine Calls.mono (K2.out _ _ HB2.out.drew (holds_below P2.out (Below.refl _ _).drew)) ?_
  rintro e w3 ⟨v3, rfl, hh, hb⟩
  have HB3 : Hid (Below w.heap.size w w3) := bel2 HB2.out.drew hb
  have HG3 : Hid (w3.heap[w.heap.size]? = some (.cells cs 32 (0, 0))) := row_below hb HG2.out
  have P3 : Hid (Lib.HoldsBytes w3 v3 L3) := hh
  clear hh hb
  refine hK.out _ _ ⟨fun j => cell_of_row _ _ j cs 32 (0, 0) HG3.out, range4 HG3.out V0.out V1.out V2.out V3.out V4.out⟩ (fun hHeld => ?_)
  clear hK K
  refine wpAnyH_ready (rs := [6]) (by kernel_rfl) (by simp) ?_
  refine AllReadyH.cons (o := { dst := some 16, op := Go.Op.call { callee := Go.Callee.value (Go.Operand.func 36), args := #[Go.Operand.tmp 13, Go.Operand.tmp 15], argTypes := #[35, 3] }, type := 35, pos := "ref.go:14", after := #[{ on := 3, ground := Go.Ground.data }, { on := 5, ground := Go.Ground.data }, { on := 3, ground := Go.Ground.chain }], guard := none }) rfl (fun K hK => ?_) AllReadyH.nil
  go_simp
  refine Calls.mono (K3.out _ _ HB3.out P3.out) ?_
  rintro e w4 ⟨v4, rfl, hh, hb⟩
  have HB4 : Hid (Below w.heap.size w w4) := bel2 HB3.out hb
  have HG4 : Hid (w4.heap[w.heap.size]? = some (.cells cs 32 (0, 0))) := row_below hb HG3.out
  have P4 : Hid (Lib.HoldsBytes w4 v4 L4) := hh
  clear hh hb
  refine hK.out _ _ ⟨fun j => cell_of_row _ _ j cs 32 (0, 0) HG4.out, range4 HG4.out V0.out V1.out V2.out V3.out V4.out⟩ (fun hHeld => ?_)
  clear hK K
  refine wpAnyH_take (i := 7) (oi := { dst := some 3, op := Go.Op.assign (Go.Operand.tmp 16), type := 35, pos := "ref.go:14", after := #[{ on := 6, ground := Go.Ground.data }, { on := 6, ground := Go.Ground.chain }, { on := 0, ground := Go.Ground.phase }, { on := 1, ground := Go.Ground.phase }, { on := 2, ground := Go.Ground.phase }, { on := 3, ground := Go.Ground.phase }, { on := 4, ground := Go.Ground.phase }, { on := 5, ground := Go.Ground.phase }, { on := 6, ground := Go.Ground.phase }], guard := none }) (v := ?_) rfl (by kernel_rfl) (by kernel_rfl) (by kernel_rfl) (fun _ _ _ h => h) (Or.inl ⟨by rfl, ?_⟩) hHeld ?_
  rotate_left 1
  · (intro w hSw; (try dsimp only at hSw); go_simp <;> with_reducible rfl)
  simp only [Act.put, List.setIfInBounds_toArray, List.set_cons_zero, List.set_cons_succ]
  refine wpAnyH_done (by kernel_rfl) ?_ _
  go_upto_region 3 with fail
  refine wp_region_held_drew (S := (fun w' => (∀ j, w'.cell? ⟨w.heap.size, j, none⟩ = cs[j]?) ∧ w'.rangeAt w.heap.size 4 [.int .i64 vk, .int .i64 vx, .int .u64 vb, .string vs, .slice va vm vc])) (by kernel_rfl) ⟨fun j => cell_of_row _ _ j cs 32 (0, 0) HG4.out, range4 HG4.out V0.out V1.out V2.out V3.out V4.out⟩ (fun hHeld => ?_)
  change wpAnyH _ _ _ _ _ _ _ _ (World.drew _)
  refine wpAnyH_take (i := 0) (oi := { dst := some 17, op := Go.Op.move (Go.Operand.tmp 3), type := 35, pos := "ref.go:15", after := #[], guard := none }) (v := ?_) rfl (by kernel_rfl) (by kernel_rfl) (by kernel_rfl) (fun _ _ _ h => h) (Or.inl ⟨by rfl, ?_⟩) hHeld ?_
  rotate_left 1
  · (intro w hSw; (try dsimp only at hSw); go_simp <;> with_reducible rfl)
  simp only [Act.put, List.setIfInBounds_toArray, List.set_cons_zero, List.set_cons_succ]
  refine wpAnyH_take (i := 1) (oi := { dst := some 18, op := Go.Op.fieldAddr 32 (Go.Operand.tmp 1) 8, type := 0, pos := "ref.go:15", after := #[], guard := none }) (v := ?_) rfl (by kernel_rfl) (by kernel_rfl) (by kernel_rfl) (fun _ _ _ h => h) (Or.inl ⟨by rfl, ?_⟩) hHeld ?_
  rotate_left 1
  · (intro w hSw; (try dsimp only at hSw); go_simp <;> with_reducible rfl)
  simp only [Act.put, List.setIfInBounds_toArray, List.set_cons_zero, List.set_cons_succ]
  refine wpAnyH_take (i := 2) (oi := { dst := some 19, op := Go.Op.fieldAddr 28 (Go.Operand.tmp 18) 0, type := 0, pos := "ref.go:15", after := #[{ on := 1, ground := Go.Ground.data }], guard := none }) (v := ?_) rfl (by kernel_rfl) (by kernel_rfl) (by kernel_rfl) (fun _ _ _ h => h) (Or.inl ⟨by rfl, ?_⟩) hHeld ?_
  rotate_left 1
  · (intro w hSw; (try dsimp only at hSw); go_simp <;> with_reducible rfl)
  simp only [Act.put, List.setIfInBounds_toArray, List.set_cons_zero, List.set_cons_succ]
  refine wpAnyH_take (i := 3) (oi := { dst := some 20, op := Go.Op.load 3 (Go.Operand.tmp 19), type := 3, pos := "ref.go:15", after := #[{ on := 2, ground := Go.Ground.data }], guard := none }) (v := ?_) rfl (by kernel_rfl) (by kernel_rfl) (by kernel_rfl) (fun _ _ _ h => h) (Or.inl ⟨by rfl, ?_⟩) hHeld ?_
  rotate_left 1
  · (intro w hSw; (try dsimp only at hSw); go_simp <;> with_reducible rfl)
  simp only [Act.put, List.setIfInBounds_toArray, List.set_cons_zero, List.set_cons_succ]
  refine wpAnyH_take (i := 5) (oi := { dst := some 22, op := Go.Op.fieldAddr 32 (Go.Operand.tmp 1) 8, type := 0, pos := "ref.go:15", after := #[], guard := none }) (v := ?_) rfl (by kernel_rfl) (by kernel_rfl) (by kernel_rfl) (fun _ _ _ h => h) (Or.inl ⟨by rfl, ?_⟩) hHeld ?_
  rotate_left 1
  · (intro w hSw; (try dsimp only at hSw); go_simp <;> with_reducible rfl)
  simp only [Act.put, List.setIfInBounds_toArray, List.set_cons_zero, List.set_cons_succ]
  refine wpAnyH_take (i := 6) (oi := { dst := some 23, op := Go.Op.fieldAddr 28 (Go.Operand.tmp 22) 1, type := 0, pos := "ref.go:15", after := #[{ on := 5, ground := Go.Ground.data }], guard := none }) (v := ?_) rfl (by kernel_rfl) (by kernel_rfl) (by kernel_rfl) (fun _ _ _ h => h) (Or.inl ⟨by rfl, ?_⟩) hHeld ?_
  rotate_left 1
  · (intro w hSw; (try dsimp only at hSw); go_simp <;> with_reducible rfl)
  simp only [Act.put, List.setIfInBounds_toArray, List.set_cons_zero, List.set_cons_succ]
  refine wpAnyH_take (i := 7) (oi := { dst := some 24, op := Go.Op.load 23 (Go.Operand.tmp 23), type := 23, pos := "ref.go:15", after := #[{ on := 6, ground := Go.Ground.data }], guard := none }) (v := ?_) rfl (by kernel_rfl) (by kernel_rfl) (by kernel_rfl) (fun _ _ _ h => h) (Or.inl ⟨by rfl, ?_⟩) hHeld ?_
  rotate_left 1
  · (intro w hSw; (try dsimp only at hSw); go_simp <;> with_reducible rfl)
  simp only [Act.put, List.setIfInBounds_toArray, List.set_cons_zero, List.set_cons_succ]
  refine wpAnyH_take (i := 9) (oi := { dst := some 26, op := Go.Op.fieldAddr 32 (Go.Operand.tmp 1) 8, type := 0, pos := "ref.go:15", after := #[], guard := none }) (v := ?_) rfl (by kernel_rfl) (by kernel_rfl) (by kernel_rfl) (fun _ _ _ h => h) (Or.inl ⟨by rfl, ?_⟩) hHeld ?_
  rotate_left 1
  · (intro w hSw; (try dsimp only at hSw); go_simp <;> with_reducible rfl)
  simp only [Act.put, List.setIfInBounds_toArray, List.set_cons_zero, List.set_cons_succ]
  refine wpAnyH_take (i := 10) (oi := { dst := some 27, op := Go.Op.fieldAddr 28 (Go.Operand.tmp 26) 2, type := 0, pos := "ref.go:15", after := #[{ on := 9, ground := Go.Ground.data }], guard := none }) (v := ?_) rfl (by kernel_rfl) (by kernel_rfl) (by kernel_rfl) (fun _ _ _ h => h) (Or.inl ⟨by rfl, ?_⟩) hHeld ?_
  rotate_left 1
  · (intro w hSw; (try dsimp only at hSw); go_simp <;> with_reducible rfl)
  simp only [Act.put, List.setIfInBounds_toArray, List.set_cons_zero, List.set_cons_succ]
  refine wpAnyH_take (i := 11) (oi := { dst := some 28, op := Go.Op.load 3 (Go.Operand.tmp 27), type := 3, pos := "ref.go:15", after := #[{ on := 10, ground := Go.Ground.data }], guard := none }) (v := ?_) rfl (by kernel_rfl) (by kernel_rfl) (by kernel_rfl) (fun _ _ _ h => h) (Or.inl ⟨by rfl, ?_⟩) hHeld ?_
  rotate_left 1
  · (intro w hSw; (try dsimp only at hSw); go_simp <;> with_reducible rfl)
  simp only [Act.put, List.setIfInBounds_toArray, List.set_cons_zero, List.set_cons_succ]
  refine wpAnyH_ready (rs := [4]) (by kernel_rfl) (by simp) ?_
  refine AllReadyH.cons (o := { dst := some 21, op := Go.Op.call { callee := Go.Callee.value (Go.Operand.func 36), args := #[Go.Operand.tmp 17, Go.Operand.tmp 20], argTypes := #[35, 3] }, type := 35, pos := "ref.go:15", after := #[{ on := 0, ground := Go.Ground.data }, { on := 3, ground := Go.Ground.data }], guard := none }) rfl (fun K hK => ?_) AllReadyH.nil
  go_simp
  refine Calls.mono (K4.out _ _ HB4.out.drew (holds_below P4.out (Below.refl _ _).drew)) ?_
  rintro e w5 ⟨v5, rfl, hh, hb⟩
  have HB5 : Hid (Below w.heap.size w w5) := bel2 HB4.out.drew hb
  have HG5 : Hid (w5.heap[w.heap.size]? = some (.cells cs 32 (0, 0))) := row_below hb HG4.out
  have P5 : Hid (Lib.HoldsBytes w5 v5 L5) := hh
  clear hh hb
  refine hK.out _ _ ⟨fun j => cell_of_row _ _ j cs 32 (0, 0) HG5.out, range4 HG5.out V0.out V1.out V2.out V3.out V4.out⟩ (fun hHeld => ?_)
  clear hK K
  refine wpAnyH_ready (rs := [8]) (by kernel_rfl) (by simp) ?_
  refine AllReadyH.cons (o := { dst := some 25, op := Go.Op.call { callee := Go.Callee.value (Go.Operand.func 38), args := #[Go.Operand.tmp 21, Go.Operand.tmp 24], argTypes := #[35, 23] }, type := 35, pos := "ref.go:15", after := #[{ on := 4, ground := Go.Ground.data }, { on := 7, ground := Go.Ground.data }, { on := 4, ground := Go.Ground.chain }], guard := none }) rfl (fun K hK => ?_) AllReadyH.nil
  go_simp
  refine Calls.mono (K5.out _ _ HB5.out P5.out) ?_
  rintro e w6 ⟨v6, rfl, hh, hb⟩
  have HB6 : Hid (Below w.heap.size w w6) := bel2 HB5.out hb
  have HG6 : Hid (w6.heap[w.heap.size]? = some (.cells cs 32 (0, 0))) := row_below hb HG5.out
  have P6 : Hid (Lib.HoldsBytes w6 v6 L6) := hh
  clear hh hb
  refine hK.out _ _ ⟨fun j => cell_of_row _ _ j cs 32 (0, 0) HG6.out, range4 HG6.out V0.out V1.out V2.out V3.out V4.out⟩ (fun hHeld => ?_)
  clear hK K
  refine wpAnyH_ready (rs := [12]) (by kernel_rfl) (by simp) ?_
  refine AllReadyH.cons (o := { dst := some 29, op := Go.Op.call { callee := Go.Callee.value (Go.Operand.func 36), args := #[Go.Operand.tmp 25, Go.Operand.tmp 28], argTypes := #[35, 3] }, type := 35, pos := "ref.go:15", after := #[{ on := 8, ground := Go.Ground.data }, { on := 11, ground := Go.Ground.data }, { on := 8, ground := Go.Ground.chain }], guard := none }) rfl (fun K hK => ?_) AllReadyH.nil
  go_simp
  refine Calls.mono (K6.out _ _ HB6.out P6.out) ?_
  rintro e w7 ⟨v7, rfl, hh, hb⟩
  have HB7 : Hid (Below w.heap.size w w7) := bel2 HB6.out hb
  have HG7 : Hid (w7.heap[w.heap.size]? = some (.cells cs 32 (0, 0))) := row_below hb HG6.out
  have P7 : Hid (Lib.HoldsBytes w7 v7 L7) := hh
  clear hh hb
  refine hK.out _ _ ⟨fun j => cell_of_row _ _ j cs 32 (0, 0) HG7.out, range4 HG7.out V0.out V1.out V2.out V3.out V4.out⟩ (fun hHeld => ?_)
  clear hK K
  refine wpAnyH_take (i := 13) (oi := { dst := some 2, op := Go.Op.assign (Go.Operand.tmp 29), type := 35, pos := "ref.go:15", after := #[{ on := 12, ground := Go.Ground.data }, { on := 12, ground := Go.Ground.chain }, { on := 0, ground := Go.Ground.phase }, { on := 1, ground := Go.Ground.phase }, { on := 2, ground := Go.Ground.phase }, { on := 3, ground := Go.Ground.phase }, { on := 4, ground := Go.Ground.phase }, { on := 5, ground := Go.Ground.phase }, { on := 6, ground := Go.Ground.phase }, { on := 7, ground := Go.Ground.phase }, { on := 8, ground := Go.Ground.phase }, { on := 9, ground := Go.Ground.phase }, { on := 10, ground := Go.Ground.phase }, { on := 11, ground := Go.Ground.phase }, { on := 12, ground := Go.Ground.phase }], guard := none }) (v := ?_) rfl (by kernel_rfl) (by kernel_rfl) (by kernel_rfl) (fun _ _ _ h => h) (Or.inl ⟨by rfl, ?_⟩) hHeld ?_
  rotate_left 1
  · (intro w hSw; (try dsimp only at hSw); go_simp <;> with_reducible rfl)
  simp only [Act.put, List.setIfInBounds_toArray, List.set_cons_zero, List.set_cons_succ]
  refine wpAnyH_done (by kernel_rfl) ?_ _
  go_wp2_with fail
  exact HQ.out _ _ P7.out HB7.out
theorem info32m (cs : Array Value) (h : cs.size = 17) : (Try.prog.info? 32).map (·.size) = some cs.toList.length := by
  rw [Array.length_toList, h]
  kernel_rfl
theorem ky_hp {w w' : World} {l : List UInt8} {e : Ending} (h : KyP w l e w') : HpP w l e w' := by
  obtain ⟨v, h1, h2, h3⟩ := h
  exact ⟨v, h1, h2.1, h3⟩
set_option maxHeartbeats 8000000 in
set_option maxRecDepth 100000 in
theorem keys_walk (N M : Nat) (cs ss : Array Value) (r s : Rq) (w : World) (hr : IsR w N cs r) (hs : IsR w M ss s) :
    Calls Try.prog 4 #[.agg cs, .agg ss] w fun e w' => e = .returned (.bool true) ∧ Below w.heap.size w w' := by
  have KW : Hid (∀ W, Calls Try.prog 8 #[] W fun e w' => e = .returned (.bool true) ∧ Below W.heap.size W w') := awake_calls
  have KP1 : Hid (∀ W, Below w.heap.size w W → Calls Try.prog 19 #[.agg cs] W (HpP W (keyB r))) := fun W hB => (key_calls N cs r W (hr.below hB)).mono fun _ _ h => ky_hp h
  have KR1 : Hid (∀ W, Below w.heap.size w W → Calls Try.prog 20 #[.agg cs] W (HpP W (keyB r))) := fun W hB => rkey_calls N cs r W (hr.below hB)
  have KP2 : Hid (∀ W, Below w.heap.size w W → Calls Try.prog 19 #[.agg ss] W (HpP W (keyB s))) := fun W hB => (key_calls M ss s W (hs.below hB)).mono fun _ _ h => ky_hp h
  have KR2 : Hid (∀ W, Below w.heap.size w W → Calls Try.prog 20 #[.agg ss] W (HpP W (keyB s))) := fun W hB => rkey_calls M ss s W (hs.below hB)
  have hi1l := info32m cs hr.size
  have hi2l := info32m ss hs.size
  have HB0 : Hid (Below w.heap.size w ((w.alloc (.cells cs 32)).alloc (.cells ss 32))) := bel2 (bel1 _ _) (bel1 _ _)
  have HG0 : Hid (((w.alloc (.cells cs 32)).alloc (.cells ss 32)).heap[w.heap.size]? = some (.cells cs 32 (0, 0))) := old2 _ _ _
  have HE0 : Hid (((w.alloc (.cells cs 32)).alloc (.cells ss 32)).heap[w.heap.size + 1]? = some (.cells ss 32 (0, 0))) := new2 _ _ _
  clear hr hs
  generalize keyB r = A at KP1 KR1
  generalize keyB s = B at KP2 KR2
  have hAA : (A == A) = true := by simp
  have hBB : (B == B) = true := by simp
  go_enter Try.func4, Try.ntmps4
  go_upto_region 1 with fail
  change Code.wp _ _ _ _ ((w.alloc (.cells cs 32)).alloc (.cells ss 32))
  generalize (w.alloc (.cells cs 32)).alloc (.cells ss 32) = W0 at HB0 HG0 HE0 ⊢
  refine wp_region_held_drew (S := (fun w' => w'.rangeAt w.heap.size 0 cs.toList ∧ w'.rangeAt (w.heap.size + 1) 0 ss.toList)) (by kernel_rfl) ⟨range0 (fun j => cell_of_row _ _ j cs 32 (0, 0) HG0.out), range0 (fun j => cell_of_row _ _ j ss 32 (0, 0) HE0.out)⟩ (fun hHeld => ?_)
  change wpAnyH _ _ _ _ _ _ _ _ (World.drew _)
  refine wpAnyH_take (i := 0) (oi := { dst := some 5, op := Go.Op.load 32 (Go.Operand.tmp 2), type := 32, pos := "law.go:43", after := #[], guard := none }) (v := _) rfl (by kernel_rfl) (by kernel_rfl) (by kernel_rfl) (fun _ _ _ h => h) (yieldsIf_load_mid rfl 32 _ rfl w.heap.size 0 rfl cs.toList _ (fun w h => h.1) Try.underlying32 rfl hi1l) hHeld ?_
  simp only [Act.put, List.setIfInBounds_toArray, List.set_cons_zero, List.set_cons_succ]
  refine wpAnyH_take (i := 2) (oi := { dst := some 7, op := Go.Op.load 32 (Go.Operand.tmp 2), type := 32, pos := "law.go:43", after := #[], guard := none }) (v := _) rfl (by kernel_rfl) (by kernel_rfl) (by kernel_rfl) (fun _ _ _ h => h) (yieldsIf_load_mid rfl 32 _ rfl w.heap.size 0 rfl cs.toList _ (fun w h => h.1) Try.underlying32 rfl hi1l) hHeld ?_
  simp only [Act.put, List.setIfInBounds_toArray, List.set_cons_zero, List.set_cons_succ]
  refine wpAnyH_ready (rs := [1]) (by kernel_rfl) (by simp) ?_
  refine AllReadyH.cons (o := { dst := some 6, op := Go.Op.call { callee := Go.Callee.value (Go.Operand.func 19), args := #[Go.Operand.tmp 5], argTypes := #[32] }, type := 35, pos := "law.go:43", after := #[{ on := 0, ground := Go.Ground.data }], guard := none }) rfl (fun K hK => ?_) AllReadyH.nil
  go_simp
  refine Calls.mono (KP1.out _ HB0.out.drew) ?_
  rintro e w1 ⟨u, rfl, hh, hb⟩
  have HB1 : Hid (Below w.heap.size w w1) := bel2 HB0.out.drew hb
  have HG1 : Hid (w1.heap[w.heap.size]? = some (.cells cs 32 (0, 0))) := row_below hb HG0.out
  have HE1 : Hid (w1.heap[w.heap.size + 1]? = some (.cells ss 32 (0, 0))) := row_below hb HE0.out
  have Hu1 : Hid (Lib.HoldsBytes w1 u A) := hh
  clear hh hb
  refine hK.out _ _ ⟨range0 (fun j => cell_of_row _ _ j cs 32 (0, 0) HG1.out), range0 (fun j => cell_of_row _ _ j ss 32 (0, 0) HE1.out)⟩ (fun hHeld => ?_)
  clear hK K
  refine wpAnyH_ready (rs := [3]) (by kernel_rfl) (by simp) ?_
  refine AllReadyH.cons (o := { dst := some 8, op := Go.Op.call { callee := Go.Callee.value (Go.Operand.func 20), args := #[Go.Operand.tmp 7], argTypes := #[32] }, type := 35, pos := "law.go:43", after := #[{ on := 2, ground := Go.Ground.data }, { on := 1, ground := Go.Ground.chain }], guard := none }) rfl (fun K hK => ?_) AllReadyH.nil
  go_simp
  refine Calls.mono (KR1.out _ HB1.out) ?_
  rintro e w2 ⟨v, rfl, hh, hb⟩
  have HB2 : Hid (Below w.heap.size w w2) := bel2 HB1.out hb
  have HG2 : Hid (w2.heap[w.heap.size]? = some (.cells cs 32 (0, 0))) := row_below hb HG1.out
  have HE2 : Hid (w2.heap[w.heap.size + 1]? = some (.cells ss 32 (0, 0))) := row_below hb HE1.out
  have Hu2 : Hid (Lib.HoldsBytes w2 u A) := holds_below Hu1.out hb
  have Hv2 : Hid (Lib.HoldsBytes w2 v A) := hh
  clear hh hb
  refine hK.out _ _ ⟨range0 (fun j => cell_of_row _ _ j cs 32 (0, 0) HG2.out), range0 (fun j => cell_of_row _ _ j ss 32 (0, 0) HE2.out)⟩ (fun hHeld => ?_)
  clear hK K
  refine wpAnyH_ready (rs := [4]) (by kernel_rfl) (by simp) ?_
  refine AllReadyH.cons (o := { dst := some 9, op := Go.Op.call { callee := Go.Callee.value (Go.Operand.func 18), args := #[Go.Operand.tmp 6, Go.Operand.tmp 8], argTypes := #[35, 35] }, type := 4, pos := "law.go:43", after := #[{ on := 1, ground := Go.Ground.data }, { on := 3, ground := Go.Ground.data }, { on := 3, ground := Go.Ground.chain }], guard := none }) rfl (fun K hK => ?_) AllReadyH.nil
  go_simp
  refine Calls.mono (equal_calls _ _ _ _ w2 Hu2.out Hv2.out) ?_
  rintro e wx ⟨rfl, hw⟩
  have hw2 := hw.symm
  subst hw2
  clear hw
  refine hK.out _ _ ⟨range0 (fun j => cell_of_row _ _ j cs 32 (0, 0) HG2.out), range0 (fun j => cell_of_row _ _ j ss 32 (0, 0) HE2.out)⟩ (fun hHeld => ?_)
  clear hK K
  rw [hAA]
  refine wpAnyH_take (i := 5) (oi := { dst := some 10, op := Go.Op.move (Go.Operand.tmp 9), type := 4, pos := "law.go:43", after := #[{ on := 4, ground := Go.Ground.data }, { on := 4, ground := Go.Ground.chain }], guard := none }) (v := ?_) rfl (by kernel_rfl) (by kernel_rfl) (by kernel_rfl) (fun _ _ _ h => h) (Or.inl ⟨by rfl, ?_⟩) hHeld ?_
  rotate_left 1
  · (intro w hSw; (try dsimp only at hSw); go_simp <;> with_reducible rfl)
  simp only [Act.put, List.setIfInBounds_toArray, List.set_cons_zero, List.set_cons_succ]
  refine wpAnyH_take (i := 6) (oi := { dst := some 11, op := Go.Op.load 32 (Go.Operand.tmp 3), type := 32, pos := "law.go:43", after := #[{ on := 5, ground := Go.Ground.guard }], guard := some (5, true) }) (v := _) rfl (by kernel_rfl) (by kernel_rfl) (by kernel_rfl) (fun _ _ _ h => h) (yieldsIf_load_mid rfl 32 _ rfl (w.heap.size + 1) 0 rfl ss.toList _ (fun w h => h.2) Try.underlying32 rfl hi2l) hHeld ?_
  simp only [Act.put, List.setIfInBounds_toArray, List.set_cons_zero, List.set_cons_succ]
  refine wpAnyH_take (i := 8) (oi := { dst := some 13, op := Go.Op.load 32 (Go.Operand.tmp 3), type := 32, pos := "law.go:43", after := #[{ on := 5, ground := Go.Ground.guard }], guard := some (5, true) }) (v := _) rfl (by kernel_rfl) (by kernel_rfl) (by kernel_rfl) (fun _ _ _ h => h) (yieldsIf_load_mid rfl 32 _ rfl (w.heap.size + 1) 0 rfl ss.toList _ (fun w h => h.2) Try.underlying32 rfl hi2l) hHeld ?_
  simp only [Act.put, List.setIfInBounds_toArray, List.set_cons_zero, List.set_cons_succ]
  refine wpAnyH_ready (rs := [7]) (by kernel_rfl) (by simp) ?_
  refine AllReadyH.cons (o := { dst := some 12, op := Go.Op.call { callee := Go.Callee.value (Go.Operand.func 19), args := #[Go.Operand.tmp 11], argTypes := #[32] }, type := 35, pos := "law.go:43", after := #[{ on := 6, ground := Go.Ground.data }, { on := 5, ground := Go.Ground.chain }, { on := 5, ground := Go.Ground.guard }], guard := some (5, true) }) rfl (fun K hK => ?_) AllReadyH.nil
  go_simp
  refine Calls.mono (KP2.out _ HB2.out) ?_
  rintro e w3 ⟨x, rfl, hh, hb⟩
  have HB3 : Hid (Below w.heap.size w w3) := bel2 HB2.out hb
  have HG3 : Hid (w3.heap[w.heap.size]? = some (.cells cs 32 (0, 0))) := row_below hb HG2.out
  have HE3 : Hid (w3.heap[w.heap.size + 1]? = some (.cells ss 32 (0, 0))) := row_below hb HE2.out
  have Hx3 : Hid (Lib.HoldsBytes w3 x B) := hh
  clear hh hb
  refine hK.out _ _ ⟨range0 (fun j => cell_of_row _ _ j cs 32 (0, 0) HG3.out), range0 (fun j => cell_of_row _ _ j ss 32 (0, 0) HE3.out)⟩ (fun hHeld => ?_)
  clear hK K
  refine wpAnyH_ready (rs := [9]) (by kernel_rfl) (by simp) ?_
  refine AllReadyH.cons (o := { dst := some 14, op := Go.Op.call { callee := Go.Callee.value (Go.Operand.func 20), args := #[Go.Operand.tmp 13], argTypes := #[32] }, type := 35, pos := "law.go:43", after := #[{ on := 8, ground := Go.Ground.data }, { on := 7, ground := Go.Ground.chain }, { on := 5, ground := Go.Ground.guard }], guard := some (5, true) }) rfl (fun K hK => ?_) AllReadyH.nil
  go_simp
  refine Calls.mono (KR2.out _ HB3.out) ?_
  rintro e w4 ⟨y, rfl, hh, hb⟩
  have HB4 : Hid (Below w.heap.size w w4) := bel2 HB3.out hb
  have HG4 : Hid (w4.heap[w.heap.size]? = some (.cells cs 32 (0, 0))) := row_below hb HG3.out
  have HE4 : Hid (w4.heap[w.heap.size + 1]? = some (.cells ss 32 (0, 0))) := row_below hb HE3.out
  have Hx4 : Hid (Lib.HoldsBytes w4 x B) := holds_below Hx3.out hb
  have Hy4 : Hid (Lib.HoldsBytes w4 y B) := hh
  clear hh hb
  refine hK.out _ _ ⟨range0 (fun j => cell_of_row _ _ j cs 32 (0, 0) HG4.out), range0 (fun j => cell_of_row _ _ j ss 32 (0, 0) HE4.out)⟩ (fun hHeld => ?_)
  clear hK K
  refine wpAnyH_ready (rs := [10]) (by kernel_rfl) (by simp) ?_
  refine AllReadyH.cons (o := { dst := some 15, op := Go.Op.call { callee := Go.Callee.value (Go.Operand.func 18), args := #[Go.Operand.tmp 12, Go.Operand.tmp 14], argTypes := #[35, 35] }, type := 4, pos := "law.go:43", after := #[{ on := 7, ground := Go.Ground.data }, { on := 9, ground := Go.Ground.data }, { on := 9, ground := Go.Ground.chain }, { on := 5, ground := Go.Ground.guard }], guard := some (5, true) }) rfl (fun K hK => ?_) AllReadyH.nil
  go_simp
  refine Calls.mono (equal_calls _ _ _ _ w4 Hx4.out Hy4.out) ?_
  rintro e wx ⟨rfl, hw⟩
  have hw2 := hw.symm
  subst hw2
  clear hw
  refine hK.out _ _ ⟨range0 (fun j => cell_of_row _ _ j cs 32 (0, 0) HG4.out), range0 (fun j => cell_of_row _ _ j ss 32 (0, 0) HE4.out)⟩ (fun hHeld => ?_)
  clear hK K
  rw [hBB]
  refine wpAnyH_take (i := 11) (oi := { dst := some 16, op := Go.Op.pick (Go.Operand.tmp 10) (Go.Operand.tmp 15) (Go.Operand.const (Go.Value.bool false)), type := 4, pos := "law.go:43", after := #[{ on := 5, ground := Go.Ground.data }, { on := 10, ground := Go.Ground.data }], guard := none }) (v := ?_) rfl (by kernel_rfl) (by kernel_rfl) (by kernel_rfl) (fun _ _ _ h => h) (Or.inl ⟨by rfl, ?_⟩) hHeld ?_
  rotate_left 1
  · (intro w hSw; (try dsimp only at hSw); go_simp <;> with_reducible rfl)
  simp only [Act.put, List.setIfInBounds_toArray, List.set_cons_zero, List.set_cons_succ]
  refine wpAnyH_take (i := 12) (oi := { dst := some 17, op := Go.Op.move (Go.Operand.tmp 16), type := 4, pos := "law.go:43", after := #[{ on := 11, ground := Go.Ground.data }, { on := 10, ground := Go.Ground.chain }], guard := none }) (v := ?_) rfl (by kernel_rfl) (by kernel_rfl) (by kernel_rfl) (fun _ _ _ h => h) (Or.inl ⟨by rfl, ?_⟩) hHeld ?_
  rotate_left 1
  · (intro w hSw; (try dsimp only at hSw); go_simp <;> with_reducible rfl)
  simp only [Act.put, List.setIfInBounds_toArray, List.set_cons_zero, List.set_cons_succ]
  refine wpAnyH_ready (rs := [13]) (by kernel_rfl) (by simp) ?_
  refine AllReadyH.cons (o := { dst := some 18, op := Go.Op.call { callee := Go.Callee.value (Go.Operand.func 8), args := #[], argTypes := #[] }, type := 4, pos := "law.go:43", after := #[{ on := 12, ground := Go.Ground.chain }, { on := 12, ground := Go.Ground.guard }], guard := some (12, true) }) rfl (fun K hK => ?_) AllReadyH.nil
  go_simp
  refine Calls.mono (KW.out w4) ?_
  rintro e w5 ⟨rfl, hb⟩
  have HB5 : Hid (Below w.heap.size w w5) := bel2 HB4.out hb
  have HG5 : Hid (w5.heap[w.heap.size]? = some (.cells cs 32 (0, 0))) := row_below hb HG4.out
  have HE5 : Hid (w5.heap[w.heap.size + 1]? = some (.cells ss 32 (0, 0))) := row_below hb HE4.out
  clear hb
  refine hK.out _ _ ⟨range0 (fun j => cell_of_row _ _ j cs 32 (0, 0) HG5.out), range0 (fun j => cell_of_row _ _ j ss 32 (0, 0) HE5.out)⟩ (fun hHeld => ?_)
  clear hK K
  refine wpAnyH_take (i := 14) (oi := { dst := some 19, op := Go.Op.pick (Go.Operand.tmp 17) (Go.Operand.tmp 18) (Go.Operand.const (Go.Value.bool false)), type := 4, pos := "law.go:43", after := #[{ on := 12, ground := Go.Ground.data }, { on := 13, ground := Go.Ground.data }], guard := none }) (v := ?_) rfl (by kernel_rfl) (by kernel_rfl) (by kernel_rfl) (fun _ _ _ h => h) (Or.inl ⟨by rfl, ?_⟩) hHeld ?_
  rotate_left 1
  · (intro w hSw; (try dsimp only at hSw); go_simp <;> with_reducible rfl)
  simp only [Act.put, List.setIfInBounds_toArray, List.set_cons_zero, List.set_cons_succ]
  refine wpAnyH_take (i := 15) (oi := { dst := some 4, op := Go.Op.assign (Go.Operand.tmp 19), type := 4, pos := "law.go:43", after := #[{ on := 14, ground := Go.Ground.data }, { on := 13, ground := Go.Ground.chain }, { on := 0, ground := Go.Ground.phase }, { on := 1, ground := Go.Ground.phase }, { on := 2, ground := Go.Ground.phase }, { on := 3, ground := Go.Ground.phase }, { on := 4, ground := Go.Ground.phase }, { on := 5, ground := Go.Ground.phase }, { on := 6, ground := Go.Ground.phase }, { on := 7, ground := Go.Ground.phase }, { on := 8, ground := Go.Ground.phase }, { on := 9, ground := Go.Ground.phase }, { on := 10, ground := Go.Ground.phase }, { on := 11, ground := Go.Ground.phase }, { on := 12, ground := Go.Ground.phase }, { on := 13, ground := Go.Ground.phase }, { on := 14, ground := Go.Ground.phase }], guard := none }) (v := ?_) rfl (by kernel_rfl) (by kernel_rfl) (by kernel_rfl) (fun _ _ _ h => h) (Or.inl ⟨by rfl, ?_⟩) hHeld ?_
  rotate_left 1
  · (intro w hSw; (try dsimp only at hSw); go_simp <;> with_reducible rfl)
  simp only [Act.put, List.setIfInBounds_toArray, List.set_cons_zero, List.set_cons_succ]
  refine wpAnyH_done (by kernel_rfl) ?_ _
  go_wp2_with fail
  go_ret
  exact ⟨rfl, HB5.out⟩
end Go.Proofs.Ytlcgjehepalmcaa
