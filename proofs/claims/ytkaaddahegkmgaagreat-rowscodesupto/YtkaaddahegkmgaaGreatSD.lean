/- The contracts of encode of a row and of a branch. -/
import Derived.Test.YtkaaddahegkmgaaGreatSC
import Derived.Test.YtkaaddahegkmgaaGreatRF
import Derived.Deep.DeepCutAuto
namespace Go.Proofs.YtkaaddahegkmgaaGreat
open Go.ChangeShapes Go.WideShapes Go.ChangeAt Go.RowKit
theorem drewBd {w w' : World} (h : Below w.drew.heap.size w.drew w') : Below w.heap.size w w' := ((Below.refl _ w).drew).trans h
theorem size_data (s : ByteArray) : s.size = s.data.toList.length := by rw [Array.length_toList]; rfl
theorem encT_length (s : List UInt8) (h : s.length < 9223372036854775808) : (encT s).length ≤ s.length + 9 := by
  have := enc_length s.length h
  unfold encT
  rw [List.length_append]
  omega
theorem textO (v : Value) (l : List UInt8) (s : ByteArray) (w : World) (hv : Lib.HoldsBytes w v l) (hl : l.length ≤ 70368744177664) (hs : s.data.toList.length ≤ 70368744177664) :
    Calls Tryz.prog 81 #[v, .string s] w (NB w (l ++ encT s.data.toList)) := by
  have h := text_calls v l s w hv (by rw [size_data]; omega) (by rw [size_data]; omega)
  rw [size_data, List.append_assoc] at h
  exact h
theorem textN (s : ByteArray) (w : World) (hs : s.data.toList.length ≤ 70368744177664) : Calls Tryz.prog 81 #[.slice none 0 0, .string s] w (NB w (encT s.data.toList)) := by
  have h := textO (.slice none 0 0) [] s w (holds_nil _) (by simp) hs
  rwa [List.nil_append] at h
/-- How great a row, a branch, rows may be, to be written. -/
structure BgR (x : Rw) : Prop where
  key : x.key.data.toList.length ≤ 2097152
  hi : x.ver < 9223372036854775808
  row : x.row.length ≤ 2097152
structure BgB (x : Bn) : Prop where
  key : x.key.data.toList.length ≤ 2097152
  len : x.ev.length ≤ 400
  ev : ∀ e ∈ x.ev, e.length ≤ 2097152
structure BgD (r : Db) : Prop where
  r0 : r.rows.length ≤ 10000
  r1 : ∀ x ∈ r.rows, BgR x
  b0 : r.brs.length ≤ 10000
  b1 : ∀ x ∈ r.brs, BgB x
theorem LimD.big {r : Db} (h : LimD r) : BgD r :=
  ⟨h.r0, fun x hx => ⟨by have := (h.r1 x hx).key; omega, by have := (h.r1 x hx).hi; omega, by have := (h.r1 x hx).row; omega⟩, h.b0, fun x hx => ⟨by have := (h.b1 x hx).key; omega, by have := (h.b1 x hx).len; omega, fun e he => by have := (h.b1 x hx).ev e he; omega⟩⟩
set_option maxHeartbeats 4000000 in
set_option maxRecDepth 100000 in
theorem encRow_calls (w : World) (B o : Nat) (x : Rw) (v : Value) (hk0 : w.cell? ⟨B, o, none⟩ = some (.string x.key)) (hk1 : w.cell? ⟨B, o + 1, none⟩ = some (.int .i64 x.ver)) (hk2 : w.cell? ⟨B, o + 2, none⟩ = some v) (hv : HB (fun _ => True) w v x.row) (hx : BgR x) :
    Calls Tryz.prog 58 #[.pointer (some ⟨B, o, none⟩)] w (NB w (encRw x)) := by
  obtain ⟨p, c, rfl, _⟩ := hv.shape
  have hh := hv.bytes
  obtain ⟨L1, hL1⟩ : ∃ L, L = encT x.key.data.toList := ⟨_, rfl⟩
  obtain ⟨L2, hL2⟩ : ∃ L, L = L1 ++ enc x.ver.toNat := ⟨_, rfl⟩
  obtain ⟨L3, hL3⟩ : ∃ L, L = L2 ++ encT x.row := ⟨_, rfl⟩
  have hb1 := enc_length x.ver.toNat (by have := hx.hi; omega)
  have hb0 := encT_length x.key.data.toList (by have := hx.key; omega)
  have hk64 := hx.key
  have hr := hx.row
  have hvv := hx.hi
  have e3 : encRw x = L3 := by rw [hL3, hL2, hL1, encRw, List.append_assoc]
  rw [e3]
  have l1 : L1.length ≤ 2097161 := by rw [hL1]; omega
  have l2 : L2.length ≤ 2097170 := by rw [hL2, List.length_append]; omega
  obtain ⟨key, ver, row⟩ := x
  dsimp only at hk0 hk1 hk2 hh hk64 hr hvv hL1 hL2 hL3 ⊢
  have T1 : Hid (∀ W, Calls Tryz.prog 81 #[.slice none 0 0, .string key] W (NB W L1)) := fun W => by rw [hL1]; exact textN key W (by omega)
  have T2 : Hid (∀ W v, Lib.HoldsBytes W v L1 → Calls Tryz.prog 57 #[v, .int .i64 ver] W (NB W L2)) := fun W v h => by rw [hL2]; exact num_calls v L1 ver (by omega) W h (by omega)
  have T3 : Hid (∀ W v, Lib.HoldsBytes W v L2 → Calls Tryz.prog 81 #[v, .string (str row)] W (NB W L3)) := fun W v h => by
    have h3 := textO v L2 (str row) W h (by omega) (by rw [data_str]; omega)
    rw [data_str] at h3
    rw [hL3]
    exact h3
  have k0 := hk0
  have k1 := hk1
  have k2 := hk2
  clear hk0 hk1 hk2 hv hx hL1 hL2 hL3 e3 l1 l2 hb0 hb1 hk64 hr hvv
  go_enter Tryz.func58, Tryz.ntmps58
  go_upto_region 4 with (simp only [ta96])
  refine wp_region_held_drew (S := (fun W => W.cell? ⟨B, o, none⟩ = some (.string key) ∧ W.cell? ⟨B, o + 1, none⟩ = some (.int .i64 ver) ∧ W.cell? ⟨B, o + 2, none⟩ = some (.slice p row.length c) ∧ Lib.HoldsBytes W (.slice p row.length c) row)) (by kernel_rfl) ⟨k0, k1, k2, hh⟩ (fun hHeld => ?_)
  change wpAnyH _ _ _ _ _ _ _ _ (World.drew _)
  refine wpAnyH_take (i := 0) (oi := { dst := some 13, op := Go.Op.move (Go.Operand.tmp 3), type := 77, pos := "rows.go:178", after := #[], guard := none }) (v := ?_) rfl (by kernel_rfl) (by kernel_rfl) (by kernel_rfl) (fun _ _ _ h => h) (Or.inl ⟨by rfl, ?_⟩) hHeld ?_
  rotate_left 1
  · (intro w hSw; (try dsimp only at hSw); go_simp <;> with_reducible rfl)
  simp only [Act.put, List.setIfInBounds_toArray, List.set_cons_zero, List.set_cons_succ]
  refine wpAnyH_take (i := 1) (oi := { dst := some 14, op := Go.Op.nilCheck (Go.Operand.tmp 13), type := 0, pos := "rows.go:178", after := #[{ on := 0, ground := Go.Ground.data }], guard := none }) (v := ?_) rfl (by kernel_rfl) (by kernel_rfl) (by kernel_rfl) (fun _ _ _ h => h) (Or.inl ⟨by rfl, ?_⟩) hHeld ?_
  rotate_left 1
  · (intro w hSw; (try dsimp only at hSw); go_simp <;> with_reducible rfl)
  simp only [Act.put, List.setIfInBounds_toArray, List.set_cons_zero, List.set_cons_succ]
  refine wpAnyH_take (i := 2) (oi := { dst := some 15, op := Go.Op.fieldAddr 47 (Go.Operand.tmp 14) 0, type := 0, pos := "rows.go:178", after := #[{ on := 1, ground := Go.Ground.data }], guard := none }) (v := ?_) rfl (by kernel_rfl) (by kernel_rfl) (by kernel_rfl) (fun _ _ _ h => h) (Or.inl ⟨by rfl, ?_⟩) hHeld ?_
  rotate_left 1
  · (intro w hSw; (try dsimp only at hSw); go_simp <;> with_reducible rfl)
  simp only [Act.put, List.setIfInBounds_toArray, List.set_cons_zero, List.set_cons_succ]
  refine wpAnyH_take (i := 3) (oi := { dst := some 16, op := Go.Op.load 9 (Go.Operand.tmp 15), type := 9, pos := "rows.go:178", after := #[{ on := 2, ground := Go.Ground.data }], guard := none }) (v := ?_) rfl (by kernel_rfl) (by kernel_rfl) (by kernel_rfl) (fun _ _ _ h => h) (Or.inl ⟨by rfl, ?_⟩) hHeld ?_
  rotate_left 1
  · (intro w hSw; (try dsimp only at hSw); go_simp <;> with_reducible rfl)
  simp only [Act.put, List.setIfInBounds_toArray, List.set_cons_zero, List.set_cons_succ]
  refine wpAnyH_take (i := 5) (oi := { dst := some 18, op := Go.Op.move (Go.Operand.tmp 3), type := 77, pos := "rows.go:178", after := #[], guard := none }) (v := ?_) rfl (by kernel_rfl) (by kernel_rfl) (by kernel_rfl) (fun _ _ _ h => h) (Or.inl ⟨by rfl, ?_⟩) hHeld ?_
  rotate_left 1
  · (intro w hSw; (try dsimp only at hSw); go_simp <;> with_reducible rfl)
  simp only [Act.put, List.setIfInBounds_toArray, List.set_cons_zero, List.set_cons_succ]
  refine wpAnyH_take (i := 6) (oi := { dst := some 19, op := Go.Op.nilCheck (Go.Operand.tmp 18), type := 0, pos := "rows.go:178", after := #[{ on := 5, ground := Go.Ground.data }], guard := none }) (v := ?_) rfl (by kernel_rfl) (by kernel_rfl) (by kernel_rfl) (fun _ _ _ h => h) (Or.inl ⟨by rfl, ?_⟩) hHeld ?_
  rotate_left 1
  · (intro w hSw; (try dsimp only at hSw); go_simp <;> with_reducible rfl)
  simp only [Act.put, List.setIfInBounds_toArray, List.set_cons_zero, List.set_cons_succ]
  refine wpAnyH_take (i := 7) (oi := { dst := some 20, op := Go.Op.fieldAddr 47 (Go.Operand.tmp 19) 1, type := 0, pos := "rows.go:178", after := #[{ on := 6, ground := Go.Ground.data }], guard := none }) (v := ?_) rfl (by kernel_rfl) (by kernel_rfl) (by kernel_rfl) (fun _ _ _ h => h) (Or.inl ⟨by rfl, ?_⟩) hHeld ?_
  rotate_left 1
  · (intro w hSw; (try dsimp only at hSw); go_simp <;> with_reducible rfl)
  simp only [Act.put, List.setIfInBounds_toArray, List.set_cons_zero, List.set_cons_succ]
  refine wpAnyH_take (i := 8) (oi := { dst := some 21, op := Go.Op.load 3 (Go.Operand.tmp 20), type := 3, pos := "rows.go:178", after := #[{ on := 7, ground := Go.Ground.data }], guard := none }) (v := ?_) rfl (by kernel_rfl) (by kernel_rfl) (by kernel_rfl) (fun _ _ _ h => h) (Or.inl ⟨by rfl, ?_⟩) hHeld ?_
  rotate_left 1
  · (intro w hSw; (try dsimp only at hSw); go_simp <;> with_reducible rfl)
  simp only [Act.put, List.setIfInBounds_toArray, List.set_cons_zero, List.set_cons_succ]
  refine wpAnyH_take (i := 10) (oi := { dst := some 23, op := Go.Op.move (Go.Operand.tmp 3), type := 77, pos := "rows.go:178", after := #[], guard := none }) (v := ?_) rfl (by kernel_rfl) (by kernel_rfl) (by kernel_rfl) (fun _ _ _ h => h) (Or.inl ⟨by rfl, ?_⟩) hHeld ?_
  rotate_left 1
  · (intro w hSw; (try dsimp only at hSw); go_simp <;> with_reducible rfl)
  simp only [Act.put, List.setIfInBounds_toArray, List.set_cons_zero, List.set_cons_succ]
  refine wpAnyH_take (i := 11) (oi := { dst := some 24, op := Go.Op.nilCheck (Go.Operand.tmp 23), type := 0, pos := "rows.go:178", after := #[{ on := 10, ground := Go.Ground.data }], guard := none }) (v := ?_) rfl (by kernel_rfl) (by kernel_rfl) (by kernel_rfl) (fun _ _ _ h => h) (Or.inl ⟨by rfl, ?_⟩) hHeld ?_
  rotate_left 1
  · (intro w hSw; (try dsimp only at hSw); go_simp <;> with_reducible rfl)
  simp only [Act.put, List.setIfInBounds_toArray, List.set_cons_zero, List.set_cons_succ]
  refine wpAnyH_take (i := 12) (oi := { dst := some 25, op := Go.Op.fieldAddr 47 (Go.Operand.tmp 24) 2, type := 0, pos := "rows.go:178", after := #[{ on := 11, ground := Go.Ground.data }], guard := none }) (v := ?_) rfl (by kernel_rfl) (by kernel_rfl) (by kernel_rfl) (fun _ _ _ h => h) (Or.inl ⟨by rfl, ?_⟩) hHeld ?_
  rotate_left 1
  · (intro w hSw; (try dsimp only at hSw); go_simp <;> with_reducible rfl)
  simp only [Act.put, List.setIfInBounds_toArray, List.set_cons_zero, List.set_cons_succ]
  refine wpAnyH_take (i := 13) (oi := { dst := some 26, op := Go.Op.load 26 (Go.Operand.tmp 25), type := 26, pos := "rows.go:178", after := #[{ on := 12, ground := Go.Ground.data }], guard := none }) (v := ?_) rfl (by kernel_rfl) (by kernel_rfl) (by kernel_rfl) (fun _ _ _ h => h) (Or.inl ⟨by rfl, ?_⟩) hHeld ?_
  rotate_left 1
  · (intro w hSw; (try dsimp only at hSw); go_simp <;> with_reducible rfl)
  simp only [Act.put, List.setIfInBounds_toArray, List.set_cons_zero, List.set_cons_succ]
  refine wpAnyH_take (i := 14) (oi := { dst := some 27, op := Go.Op.convert 26 9 (Go.Operand.tmp 26), type := 9, pos := "rows.go:178", after := #[{ on := 13, ground := Go.Ground.data }], guard := none }) (v := .string (str row)) rfl (by kernel_rfl) (by kernel_rfl) (by kernel_rfl) (fun _ _ _ h => h) (Or.inl ⟨by rfl, ?_⟩) hHeld ?_
  · (intro w hSw; (try dsimp only at hSw); have hcv := conv_string w p c row hSw.2.2.2; rw [str_nums] at hcv; go_simp <;> with_reducible rfl)
  simp only [Act.put, List.setIfInBounds_toArray, List.set_cons_zero, List.set_cons_succ]
  refine wpAnyH_ready (rs := [4]) (by kernel_rfl) (by simp) ?_
  refine AllReadyH.cons (o := { dst := some 17, op := Go.Op.call { callee := Go.Callee.value (Go.Operand.func 81), args := #[Go.Operand.const (Go.Value.slice none 0 0), Go.Operand.tmp 16], argTypes := #[26, 9] }, type := 26, pos := "rows.go:178", after := #[{ on := 3, ground := Go.Ground.data }], guard := none }) rfl (fun K hK => ?_) AllReadyH.nil
  go_simp
  refine (T1.out w.drew).mono ?_
  rintro e w2 ⟨g2, hg2, rfl, hh2, hb2⟩
  have b2 : Below w.heap.size w w2 := drewBd hb2
  clear hHeld
  refine hK.out _ _ (⟨cell_below k0 b2, cell_below k1 b2, cell_below k2 b2, holds_below hh b2⟩) (fun hHeld => ?_)
  clear hK K
  refine wpAnyH_ready (rs := [9]) (by kernel_rfl) (by simp) ?_
  refine AllReadyH.cons (o := { dst := some 22, op := Go.Op.call { callee := Go.Callee.value (Go.Operand.func 57), args := #[Go.Operand.tmp 17, Go.Operand.tmp 21], argTypes := #[26, 3] }, type := 26, pos := "rows.go:178", after := #[{ on := 4, ground := Go.Ground.data }, { on := 8, ground := Go.Ground.data }, { on := 4, ground := Go.Ground.chain }], guard := none }) rfl (fun K hK => ?_) AllReadyH.nil
  go_simp
  refine (T2.out w2 _ hh2).mono ?_
  rintro e w3 ⟨g3, hg3, rfl, hh3, hb3⟩
  have b3 : Below w.heap.size w w3 := bel2 b2 hb3
  clear hHeld
  refine hK.out _ _ (⟨cell_below k0 b3, cell_below k1 b3, cell_below k2 b3, holds_below hh b3⟩) (fun hHeld => ?_)
  clear hK K
  refine wpAnyH_ready (rs := [15]) (by kernel_rfl) (by simp) ?_
  refine AllReadyH.cons (o := { dst := some 28, op := Go.Op.call { callee := Go.Callee.value (Go.Operand.func 81), args := #[Go.Operand.tmp 22, Go.Operand.tmp 27], argTypes := #[26, 9] }, type := 26, pos := "rows.go:178", after := #[{ on := 9, ground := Go.Ground.data }, { on := 14, ground := Go.Ground.data }, { on := 9, ground := Go.Ground.chain }], guard := none }) rfl (fun K hK => ?_) AllReadyH.nil
  go_simp
  refine (T3.out w3 _ hh3).mono ?_
  rintro e w4 ⟨g4, hg4, rfl, hh4, hb4⟩
  have b4 : Below w.heap.size w w4 := bel2 b3 hb4
  clear hHeld
  refine hK.out _ _ (⟨cell_below k0 b4, cell_below k1 b4, cell_below k2 b4, holds_below hh b4⟩) (fun hHeld => ?_)
  clear hK K
  refine wpAnyH_ready (rs := [16]) (by kernel_rfl) (by simp) ?_
  refine AllReadyH.cons (o := { dst := some 2, op := Go.Op.assign (Go.Operand.tmp 28), type := 26, pos := "rows.go:178", after := #[{ on := 15, ground := Go.Ground.data }, { on := 15, ground := Go.Ground.chain }, { on := 0, ground := Go.Ground.phase }, { on := 1, ground := Go.Ground.phase }, { on := 2, ground := Go.Ground.phase }, { on := 3, ground := Go.Ground.phase }, { on := 4, ground := Go.Ground.phase }, { on := 5, ground := Go.Ground.phase }, { on := 6, ground := Go.Ground.phase }, { on := 7, ground := Go.Ground.phase }, { on := 8, ground := Go.Ground.phase }, { on := 9, ground := Go.Ground.phase }, { on := 10, ground := Go.Ground.phase }, { on := 11, ground := Go.Ground.phase }, { on := 12, ground := Go.Ground.phase }, { on := 13, ground := Go.Ground.phase }, { on := 14, ground := Go.Ground.phase }, { on := 15, ground := Go.Ground.phase }], guard := none }) rfl (fun K hK => ?_) AllReadyH.nil
  go_simp
  clear hHeld
  refine hK.out _ _ (⟨cell_below k0 b4, cell_below k1 b4, cell_below k2 b4, holds_below hh b4⟩) (fun hHeld => ?_)
  clear hK K
  refine wpAnyH_done (by kernel_rfl) ?_ _
  have HF : Hid (NB w L3 (.returned (.slice (some ⟨g4, 0, none⟩) L3.length L3.length)) w4) := ⟨g4, Nat.le_trans b3.size hg4, rfl, hh4, b4⟩
  clear b2 b3 b4 hb2 hb3 hb4 hh2 hh3 hh4 hg2 hg3 hg4
  go_wp2_with fail
  go_ret
  exact HF.out
/-- What is written of a branch ahead of its events. -/
def encH (x : Bn) : List UInt8 := encT x.key.data.toList ++ enc x.ev.length
theorem encH_more (x : Bn) : encBn x = encH x ++ x.ev.flatMap encT := by rw [encBn, encH, encL, List.append_assoc]
theorem flat_lenR {α : Type} (f : α → List UInt8) (n : Nat) (xs : List α) (h : ∀ x ∈ xs, (f x).length ≤ n) : (xs.flatMap f).length ≤ xs.length * n := by
  induction xs with
  | nil => simp
  | cons x xs ih =>
    have h1 := h x (List.mem_cons_self ..)
    have h2 := ih fun y hy => h y (List.mem_cons_of_mem _ hy)
    rw [List.flatMap_cons, List.length_append, List.length_cons, Nat.add_mul]
    omega
theorem enc_pos (n : Nat) : 0 < (enc n).length := by
  unfold enc
  split <;> simp
theorem encT_pos (s : List UInt8) : 0 < (encT s).length := by
  have := enc_pos s.length
  unfold encT
  rw [List.length_append]
  omega
set_option maxHeartbeats 8000000 in
set_option maxRecDepth 100000 in
theorem encBr_calls (w : World) (B o : Nat) (x : Bn) (v : Value) (hk0 : w.cell? ⟨B, o, none⟩ = some (.string x.key)) (hk1 : w.cell? ⟨B, o + 1, none⟩ = some v) (hv : Sl evE (fun _ => True) w v x.ev) (hx : BgB x) :
    Calls Tryz.prog 59 #[.pointer (some ⟨B, o, none⟩)] w fun e w' => (∃ u, e = .returned u ∧ Ub w.heap.size w' u (encBn x)) ∧ Below w.heap.size w w' := by
  obtain ⟨p, c, rfl, _, _, hls⟩ := hv
  obtain ⟨N, hN⟩ : ∃ N, N = x.ev.length := ⟨_, rfl⟩
  obtain ⟨L1, hL1⟩ : ∃ L, L = encT x.key.data.toList := ⟨_, rfl⟩
  obtain ⟨L2, hL2⟩ : ∃ L, L = encH x := ⟨_, rfl⟩
  have hb0 := encT_length x.key.data.toList (by have := hx.key; omega)
  have hb1 := enc_length x.ev.length (by have := hx.len; omega)
  have hk64 := hx.key
  have hn := hx.len
  have l1 : L1.length ≤ 2097161 := by rw [hL1]; omega
  have l2 : L2.length ≤ 2097170 := by rw [hL2, encH, List.length_append]; omega
  have e2 : L2 = L1 ++ enc ((N : Nat) : Int).toNat := by rw [hL2, encH, hL1, hN, Int.toNat_natCast]
  have HX : Hid (BgB x) := hx
  have HLS : Hid (Ls evE (fun _ => True) w p x.ev) := hls
  have HN : Hid (N = x.ev.length ∧ N ≤ 400) := ⟨hN, by omega⟩
  have HL : Hid (L2 = encH x ∧ L2.length ≤ 2097170) := ⟨hL2, l2⟩
  rw [← hN] at hk1
  have T1 : Hid (∀ W, Calls Tryz.prog 81 #[.slice none 0 0, .string x.key] W (NB W L1)) := fun W => by rw [hL1]; exact textN x.key W (by omega)
  have T2 : Hid (∀ W v, Lib.HoldsBytes W v L1 → Calls Tryz.prog 57 #[v, .int .i64 (N : Int)] W (NB W L2)) := fun W v h => by rw [e2]; exact num_calls v L1 (N : Int) (by omega) W h (by omega)
  have k0 := hk0
  have k1 := hk1
  have K1 : Hid (w.cell? ⟨B, o + 1, none⟩ = _) := hk1
  generalize hkey : x.key = key at T1 k0
  clear hk0 hk1 hls hx hL1 hL2 hN e2 l1 l2 hb0 hb1 hk64 hn hkey
  go_enter Tryz.func59, Tryz.ntmps59
  go_upto_region 7 with (simp only [ta98, ta9n])
  go_cut [5] (fun u wx => Hid (Ub w.heap.size wx u L2 ∧ Below w.heap.size w wx))
  case first =>
    refine wp_region_held_drew (S := (fun W => W.cell? ⟨B, o, none⟩ = some (.string key) ∧ W.cell? ⟨B, o + 1, none⟩ = some (.slice p N c))) (by kernel_rfl) ⟨k0, k1⟩ (fun hHeld => ?_)
    change wpAnyH _ _ _ _ _ _ _ _ (World.drew _)
    refine wpAnyH_take (i := 0) (oi := { dst := some 32, op := Go.Op.move (Go.Operand.tmp 4), type := 79, pos := "rows.go:180", after := #[], guard := none }) (v := ?_) rfl (by kernel_rfl) (by kernel_rfl) (by kernel_rfl) (fun _ _ _ h => h) (Or.inl ⟨by rfl, ?_⟩) hHeld ?_
    rotate_left 1
    · (intro w hSw; (try dsimp only at hSw); go_simp <;> with_reducible rfl)
    simp only [Act.put, List.setIfInBounds_toArray, List.set_cons_zero, List.set_cons_succ]
    refine wpAnyH_take (i := 1) (oi := { dst := some 33, op := Go.Op.nilCheck (Go.Operand.tmp 32), type := 0, pos := "rows.go:180", after := #[{ on := 0, ground := Go.Ground.data }], guard := none }) (v := ?_) rfl (by kernel_rfl) (by kernel_rfl) (by kernel_rfl) (fun _ _ _ h => h) (Or.inl ⟨by rfl, ?_⟩) hHeld ?_
    rotate_left 1
    · (intro w hSw; (try dsimp only at hSw); go_simp <;> with_reducible rfl)
    simp only [Act.put, List.setIfInBounds_toArray, List.set_cons_zero, List.set_cons_succ]
    refine wpAnyH_take (i := 2) (oi := { dst := some 34, op := Go.Op.fieldAddr 39 (Go.Operand.tmp 33) 0, type := 0, pos := "rows.go:180", after := #[{ on := 1, ground := Go.Ground.data }], guard := none }) (v := ?_) rfl (by kernel_rfl) (by kernel_rfl) (by kernel_rfl) (fun _ _ _ h => h) (Or.inl ⟨by rfl, ?_⟩) hHeld ?_
    rotate_left 1
    · (intro w hSw; (try dsimp only at hSw); go_simp <;> with_reducible rfl)
    simp only [Act.put, List.setIfInBounds_toArray, List.set_cons_zero, List.set_cons_succ]
    refine wpAnyH_take (i := 3) (oi := { dst := some 35, op := Go.Op.load 9 (Go.Operand.tmp 34), type := 9, pos := "rows.go:180", after := #[{ on := 2, ground := Go.Ground.data }], guard := none }) (v := ?_) rfl (by kernel_rfl) (by kernel_rfl) (by kernel_rfl) (fun _ _ _ h => h) (Or.inl ⟨by rfl, ?_⟩) hHeld ?_
    rotate_left 1
    · (intro w hSw; (try dsimp only at hSw); go_simp <;> with_reducible rfl)
    simp only [Act.put, List.setIfInBounds_toArray, List.set_cons_zero, List.set_cons_succ]
    refine wpAnyH_take (i := 5) (oi := { dst := some 37, op := Go.Op.move (Go.Operand.tmp 4), type := 79, pos := "rows.go:180", after := #[], guard := none }) (v := ?_) rfl (by kernel_rfl) (by kernel_rfl) (by kernel_rfl) (fun _ _ _ h => h) (Or.inl ⟨by rfl, ?_⟩) hHeld ?_
    rotate_left 1
    · (intro w hSw; (try dsimp only at hSw); go_simp <;> with_reducible rfl)
    simp only [Act.put, List.setIfInBounds_toArray, List.set_cons_zero, List.set_cons_succ]
    refine wpAnyH_take (i := 6) (oi := { dst := some 38, op := Go.Op.nilCheck (Go.Operand.tmp 37), type := 0, pos := "rows.go:180", after := #[{ on := 5, ground := Go.Ground.data }], guard := none }) (v := ?_) rfl (by kernel_rfl) (by kernel_rfl) (by kernel_rfl) (fun _ _ _ h => h) (Or.inl ⟨by rfl, ?_⟩) hHeld ?_
    rotate_left 1
    · (intro w hSw; (try dsimp only at hSw); go_simp <;> with_reducible rfl)
    simp only [Act.put, List.setIfInBounds_toArray, List.set_cons_zero, List.set_cons_succ]
    refine wpAnyH_take (i := 7) (oi := { dst := some 39, op := Go.Op.fieldAddr 39 (Go.Operand.tmp 38) 1, type := 0, pos := "rows.go:180", after := #[{ on := 6, ground := Go.Ground.data }], guard := none }) (v := ?_) rfl (by kernel_rfl) (by kernel_rfl) (by kernel_rfl) (fun _ _ _ h => h) (Or.inl ⟨by rfl, ?_⟩) hHeld ?_
    rotate_left 1
    · (intro w hSw; (try dsimp only at hSw); go_simp <;> with_reducible rfl)
    simp only [Act.put, List.setIfInBounds_toArray, List.set_cons_zero, List.set_cons_succ]
    refine wpAnyH_take (i := 8) (oi := { dst := some 40, op := Go.Op.load 37 (Go.Operand.tmp 39), type := 37, pos := "rows.go:180", after := #[{ on := 7, ground := Go.Ground.data }], guard := none }) (v := ?_) rfl (by kernel_rfl) (by kernel_rfl) (by kernel_rfl) (fun _ _ _ h => h) (Or.inl ⟨by rfl, ?_⟩) hHeld ?_
    rotate_left 1
    · (intro w hSw; (try dsimp only at hSw); go_simp <;> with_reducible rfl)
    simp only [Act.put, List.setIfInBounds_toArray, List.set_cons_zero, List.set_cons_succ]
    refine wpAnyH_ready (rs := [4, 9]) (by kernel_rfl) (by simp) ?_
    refine AllReadyH.cons (o := { dst := some 36, op := Go.Op.call { callee := Go.Callee.value (Go.Operand.func 81), args := #[Go.Operand.const (Go.Value.slice none 0 0), Go.Operand.tmp 35], argTypes := #[26, 9] }, type := 26, pos := "rows.go:180", after := #[{ on := 3, ground := Go.Ground.data }], guard := none }) rfl (fun K hK => ?_) (AllReadyH.cons (o := { dst := some 41, op := Go.Op.call { callee := Go.Callee.builtin Go.Builtin.len, args := #[Go.Operand.tmp 40], argTypes := #[37] }, type := 3, pos := "rows.go:180", after := #[{ on := 8, ground := Go.Ground.data }], guard := none }) rfl (fun K hK => ?_) AllReadyH.nil)
    · go_simp
      refine (T1.out w.drew).mono ?_
      rintro e w2 ⟨g2, hg2, rfl, hh2, hb2⟩
      have b2 : Below w.heap.size w w2 := drewBd hb2
      clear hHeld
      refine hK.out _ _ (⟨cell_below k0 b2, cell_below k1 b2⟩) (fun hHeld => ?_)
      clear hK K
      refine wpAnyH_ready (rs := [9]) (by kernel_rfl) (by simp) ?_
      refine AllReadyH.cons (o := { dst := some 41, op := Go.Op.call { callee := Go.Callee.builtin Go.Builtin.len, args := #[Go.Operand.tmp 40], argTypes := #[37] }, type := 3, pos := "rows.go:180", after := #[{ on := 8, ground := Go.Ground.data }], guard := none }) rfl (fun K hK => ?_) AllReadyH.nil
      go_simp
      clear hHeld
      refine hK.out _ _ (⟨cell_below k0 b2, cell_below k1 b2⟩) (fun hHeld => ?_)
      clear hK K
      refine wpAnyH_ready (rs := [10]) (by kernel_rfl) (by simp) ?_
      refine AllReadyH.cons (o := { dst := some 42, op := Go.Op.call { callee := Go.Callee.value (Go.Operand.func 57), args := #[Go.Operand.tmp 36, Go.Operand.tmp 41], argTypes := #[26, 3] }, type := 26, pos := "rows.go:180", after := #[{ on := 4, ground := Go.Ground.data }, { on := 9, ground := Go.Ground.data }, { on := 4, ground := Go.Ground.chain }], guard := none }) rfl (fun K hK => ?_) AllReadyH.nil
      go_simp
      refine (T2.out w2 _ hh2).mono ?_
      rintro e w3 ⟨g3, hg3, rfl, hh3, hb3⟩
      have b3 : Below w.heap.size w w3 := bel2 b2 hb3
      clear hHeld
      refine hK.out _ _ (⟨cell_below k0 b3, cell_below k1 b3⟩) (fun hHeld => ?_)
      clear hK K
      refine wpAnyH_ready (rs := [11]) (by kernel_rfl) (by simp) ?_
      refine AllReadyH.cons (o := { dst := some 5, op := Go.Op.assign (Go.Operand.tmp 42), type := 26, pos := "rows.go:180", after := #[{ on := 10, ground := Go.Ground.data }, { on := 10, ground := Go.Ground.chain }, { on := 0, ground := Go.Ground.phase }, { on := 1, ground := Go.Ground.phase }, { on := 2, ground := Go.Ground.phase }, { on := 3, ground := Go.Ground.phase }, { on := 4, ground := Go.Ground.phase }, { on := 5, ground := Go.Ground.phase }, { on := 6, ground := Go.Ground.phase }, { on := 7, ground := Go.Ground.phase }, { on := 8, ground := Go.Ground.phase }, { on := 9, ground := Go.Ground.phase }, { on := 10, ground := Go.Ground.phase }], guard := none }) rfl (fun K hK => ?_) AllReadyH.nil
      go_simp
      clear hHeld
      refine hK.out _ _ (⟨cell_below k0 b3, cell_below k1 b3⟩) (fun hHeld => ?_)
      clear hK K
      refine wpAnyH_done (by kernel_rfl) ?_ _
      go_wp2_with fail
      go_meet
      case rel => exact ⟨.inr ⟨g3, Nat.le_trans b2.size hg3, rfl, hh3⟩, b3⟩
    · go_simp
      clear hHeld
      refine hK.out _ _ (⟨k0, k1⟩) (fun hHeld => ?_)
      clear hK K
      refine wpAnyH_ready (rs := [4]) (by kernel_rfl) (by simp) ?_
      refine AllReadyH.cons (o := { dst := some 36, op := Go.Op.call { callee := Go.Callee.value (Go.Operand.func 81), args := #[Go.Operand.const (Go.Value.slice none 0 0), Go.Operand.tmp 35], argTypes := #[26, 9] }, type := 26, pos := "rows.go:180", after := #[{ on := 3, ground := Go.Ground.data }], guard := none }) rfl (fun K hK => ?_) AllReadyH.nil
      go_simp
      refine (T1.out w.drew).mono ?_
      rintro e w2 ⟨g2, hg2, rfl, hh2, hb2⟩
      have b2 : Below w.heap.size w w2 := drewBd hb2
      clear hHeld
      refine hK.out _ _ (⟨cell_below k0 b2, cell_below k1 b2⟩) (fun hHeld => ?_)
      clear hK K
      refine wpAnyH_ready (rs := [10]) (by kernel_rfl) (by simp) ?_
      refine AllReadyH.cons (o := { dst := some 42, op := Go.Op.call { callee := Go.Callee.value (Go.Operand.func 57), args := #[Go.Operand.tmp 36, Go.Operand.tmp 41], argTypes := #[26, 3] }, type := 26, pos := "rows.go:180", after := #[{ on := 4, ground := Go.Ground.data }, { on := 9, ground := Go.Ground.data }, { on := 4, ground := Go.Ground.chain }], guard := none }) rfl (fun K hK => ?_) AllReadyH.nil
      go_simp
      refine (T2.out w2 _ hh2).mono ?_
      rintro e w3 ⟨g3, hg3, rfl, hh3, hb3⟩
      have b3 : Below w.heap.size w w3 := bel2 b2 hb3
      clear hHeld
      refine hK.out _ _ (⟨cell_below k0 b3, cell_below k1 b3⟩) (fun hHeld => ?_)
      clear hK K
      refine wpAnyH_ready (rs := [11]) (by kernel_rfl) (by simp) ?_
      refine AllReadyH.cons (o := { dst := some 5, op := Go.Op.assign (Go.Operand.tmp 42), type := 26, pos := "rows.go:180", after := #[{ on := 10, ground := Go.Ground.data }, { on := 10, ground := Go.Ground.chain }, { on := 0, ground := Go.Ground.phase }, { on := 1, ground := Go.Ground.phase }, { on := 2, ground := Go.Ground.phase }, { on := 3, ground := Go.Ground.phase }, { on := 4, ground := Go.Ground.phase }, { on := 5, ground := Go.Ground.phase }, { on := 6, ground := Go.Ground.phase }, { on := 7, ground := Go.Ground.phase }, { on := 8, ground := Go.Ground.phase }, { on := 9, ground := Go.Ground.phase }, { on := 10, ground := Go.Ground.phase }], guard := none }) rfl (fun K hK => ?_) AllReadyH.nil
      go_simp
      clear hHeld
      refine hK.out _ _ (⟨cell_below k0 b3, cell_below k1 b3⟩) (fun hHeld => ?_)
      clear hK K
      refine wpAnyH_done (by kernel_rfl) ?_ _
      go_wp2_with fail
      go_meet
      case rel => exact ⟨.inr ⟨g3, Nat.le_trans b2.size hg3, rfl, hh3⟩, b3⟩
  case rest =>
    obtain ⟨hu, hbc⟩ := hcut.out
    obtain ⟨pu, cu, hue⟩ := hu.shp
    have HU : Hid (Ub w.heap.size wc _ L2 ∧ Below w.heap.size w wc) := ⟨hu, hbc⟩
    have k1 := cell_below K1.out hbc
    clear hu hbc hcut k0 T1 T2 hue
    go_wp2_with fail
    go_loopw [5, 7, 48] (fun u _ i wr => ∃ j : Nat, j ≤ N ∧ i = .int .i64 (j : Int) ∧ Hid (Ub w.heap.size wr u (L2 ++ (x.ev.take j).flatMap encT)) ∧ Hid (Below w.heap.size w wr)) (fun _ _ i _ => N - (intOf i).toNat)
    case atStart => exact ⟨0, Nat.zero_le _, rfl, by show Ub _ _ _ _; rw [List.take_zero, List.flatMap_nil, List.append_nil]; exact HU.out.1, HU.out.2⟩
    case round =>
      obtain ⟨j, hj, rfl, HUj, HB⟩ := hrel
      by_cases hlt : j < N
      · have hjl : (j : Int) < (N : Int) := by omega
        obtain ⟨y, hy⟩ : ∃ y, x.ev[j]? = some y := ⟨_, List.getElem?_eq_getElem (by have := HN.out.1; omega)⟩
        obtain ⟨B', o', ve, rfl, _, g0, hve⟩ := HLS.out.ev j y hy
        obtain ⟨pe, ce, rfl, _⟩ := hve.shape
        have g0 := cell_below g0 HB.out
        have hcv := conv_string wr pe ce y ((hve.below HB.out).bytes)
        rw [str_nums] at hcv
        have hy4 : y.length ≤ 2097152 := HX.out.ev y (List.mem_of_getElem? hy)
        have HT : Hid (∀ W, Calls Tryz.prog 81 #[.slice none 0 0, .string (str y)] W (NB W (encT y))) := fun W => by
          have h := textN (str y) W (by rw [data_str]; omega)
          rwa [data_str] at h
        have HLT : Hid ((encT y).length ≤ 2097161 ∧ 0 < (encT y).length) := ⟨by have := encT_length y (by omega); omega, encT_pos y⟩
        have HS : Hid (L2 ++ (x.ev.take (j + 1)).flatMap encT = L2 ++ (x.ev.take j).flatMap encT ++ encT y) := by
          show _ = _
          rw [List.take_add_one, hy, List.flatMap_append, ← List.append_assoc]
          simp
        have HLL : Hid ((L2 ++ (x.ev.take j).flatMap encT).length ≤ 2097170 + 400 * 2097161) := by
          show _ ≤ _
          have h1 := flat_lenR encT 2097161 (x.ev.take j) (fun z hz => by
            have h2 := HX.out.ev z (List.mem_of_mem_take hz)
            have h3 := encT_length z (by omega)
            omega)
          have h4 := HL.out.2
          have h5 := HN.out
          rw [List.length_take] at h1
          rw [List.length_append]
          have h6 : min j x.ev.length ≤ 400 := by omega
          have h7 := Nat.mul_le_mul_right 2097161 h6
          omega
        have HW : Hid (wrap64 ((j : Int) + 1) = ((j + 1 : Nat) : Int)) := wr1 hlt (by have := HN.out; omega)
        generalize encT y = T at HT HLT HS
        obtain ⟨pu, cu, hue⟩ := HUj.out.shp
        subst hue
        generalize (L2 ++ (x.ev.take j).flatMap encT) = A at HUj HS HLL
        clear hy hve hj hy4
        go_wp2_with fail
        refine (HT.out wr).mono ?_
        rintro e w4 ⟨g4, gl4, rfl, gh4, gb4⟩
        have hb4 := HB.out.trans (gb4.mono HB.out.size)
        obtain ⟨u', w5, hr5, ho5, hb5⟩ := ub_app (HUj.out.blw gb4) gh4 HLT.out.2 (by have := HLL.out; have := HLT.out; omega) hb4.size
        have HU5 : Hid (Ub w.heap.size w5 u' (L2 ++ (x.ev.take (j + 1)).flatMap encT)) := by rw [HS.out]; exact ho5
        have HB5 : Hid (Below w.heap.size w w5) := hb4.trans hb5
        have HR5 : Hid (∀ ty, _ = _) := hr5
        clear gh4 gb4 gl4 hr5 ho5 hb5 hb4 g0 hcv
        go_wp2_with (at_builtin; refine Lib.wpList_append_run _ rfl _ _ 26 26 rfl _ _ rfl rfl _ _ (HR5.out _) ?_)
        exact ⟨⟨j + 1, hlt, by first | rfl | rw [HW.out], HU5, HB5⟩, meas hlt (by first | rfl | exact HW.out)⟩
      · obtain rfl : j = N := by omega
        go_wp2_with fail
        go_ret
        refine ⟨⟨_, rfl, ?_⟩, HB.out⟩
        have h := HUj.out
        rw [HN.out.1, List.take_length, HL.out.1, ← encH_more] at h
        exact h
end Go.Proofs.YtkaaddahegkmgaaGreat
