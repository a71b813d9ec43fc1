/- Lists of asks that grow; ask; what is asked of a list of asks. -/
import Derived.Test.YtocjgcjechhehaaLB
namespace Go.Proofs.Ytocjgcjechhehaa
open Go.ChangeAt Go.ChangeShapes Go.Deep Go.RowKit Go.WideShapes
def zA : Array Value := #[.int .i64 0, .string ⟨#[]⟩, .int .i64 0, .int .i64 0, .int .u64 0, .string ⟨#[]⟩, .slice none 0 0]
theorem info58 : (Try.prog.info? 58).map (fun i => (i.zero, i.size, i.bytes)) = some (some (.agg zA), 7, 88) := by kernel_rfl
theorem IsA.one {R : Value → Tv → Prop} {cs : Array Value} {x : Ak} (h : IsA R cs x) (j : Nat) (v : Value) (hv : cs[j]? = some v) : v.oneCell' = true := by
  have hj := (Array.getElem?_eq_some_iff.1 hv).1
  rw [h.size] at hj
  have : (2 ≤ j ∧ j < 2 + 5) ∨ j = 0 ∨ j = 1 := by omega
  rcases this with ⟨h1, h2⟩ | rfl | rfl
  · exact h.v.one j v h1 h2 hv
  · rw [h.c0] at hv; cases hv; rfl
  · rw [h.c1] at hv; cases hv; rfl
theorem slice1A (cs : Array Value) (h : cs.size = 7) (w : World) : (Instr.buildSlice 31 1 #[(0, .agg cs)]).run Try.prog w = .ok (.slice (some ⟨w.heap.size, 0, none⟩) 1 1) (w.alloc (.cells cs 58)) := by
  obtain ⟨ie, hie, hz, hs, _⟩ := info_parts info58
  refine run_buildSlice w 31 58 1 _ cs ie (.agg zA) Try.underlying31 hie hz (by rw [hs]; decide) (by rw [hs]; decide) ?_
  rw [hs]
  exact fill_one h (by simp)
/-- A list of waits of the call's own, in blocks from lo on. -/
def GrA (lo n : Nat) (w : World) (u : Value) (xs : List Ak) : Prop :=
  ∃ cells, w.ownsRow lo 58 7 u xs.length cells ∧ ∀ (i : Nat) x, xs[i]? = some x → ∃ cs : Array Value, (∀ (k : Nat) c, cs[k]? = some c → cells[i * 7 + k]? = some c) ∧ IsA (IsQ (fun B => lo ≤ B ∧ u.ownBlock ≠ some B) w n) cs x
theorem GrA.nil (lo n : Nat) (w : World) : GrA lo n w (.slice none 0 0) [] := ⟨[], World.ownsRow_nil _ _ _ _, fun i t h => by simp at h⟩
theorem GrA.below {lo n : Nat} {w w' : World} {u : Value} {xs : List Ak} (h : GrA lo n w u xs) (hb : Below w.heap.size w w') : GrA lo n w' u xs := by
  obtain ⟨cells, ho, hc⟩ := h
  refine ⟨cells, row_kept ho (fun B _ _ hg => hb.block B (Array.getElem?_eq_some_iff.1 hg).1), fun i x hx => ?_⟩
  obtain ⟨cs, h1, hq⟩ := hc i x hx
  exact ⟨cs, h1, hq.map fun _ _ h => h.keep (fun B q c hB hcl => ⟨hb.block B (World.block_lt_of_cell? w ⟨B, q, none⟩ hcl), hB⟩)⟩
theorem GrA.shape {lo n : Nat} {w : World} {u : Value} {ts : List Ak} (h : GrA lo n w u ts) : ∃ a c, u = .slice a ts.length c ∧ ts.length ≤ c ∧ c ≤ 9223372036854775807 := by
  obtain ⟨_, ⟨_, ⟨rfl, h2⟩ | ⟨g, cap, cur, rfl, _, _, hle, hm, _⟩⟩, _⟩ := h
  · exact ⟨none, 0, by rw [h2], by omega, by omega⟩
  · unfold maxLen at hm
    exact ⟨_, _, rfl, hle, by omega⟩
theorem GrA.lt {lo n : Nat} {w : World} {u : Value} {ts : List Ak} (h : GrA lo n w u ts) {B : Nat} (hB : u.ownBlock = some B) : lo ≤ B ∧ B < w.heap.size := by
  obtain ⟨cells, ho, _⟩ := h
  exact World.ownsRow.lt ho B hB
theorem GrA.ls {lo n : Nat} {w : World} {a : Option Addr} {k c : Nat} {ts : List Ak} (h : GrA lo n w (.slice a k c) ts) : LsA w n a ts := by
  obtain ⟨cells, ho, hc⟩ := h
  intro i t ht
  have hlt : i < ts.length := (List.getElem?_eq_some_iff.1 ht).1
  obtain ⟨cs, h1, hi⟩ := hc i t ht
  have ho2 := ho
  obtain ⟨_, ⟨hu, h2⟩ | ⟨g, cap, cur, hu, hB, hg, _⟩⟩ := ho
  · omega
  · cases hu
    refine ⟨g, 0, cs, rfl, hi.size, fun j v hj => ?_, hi.map fun _ _ h => h.is⟩
    have hj7 : j < 7 := by have := (Array.getElem?_eq_some_iff.1 hj).1; have := hi.size; omega
    rw [Nat.zero_add, World.ownsRow.cellAt ho2 (i * 7 + j) (by omega), h1 j v hj]
theorem GrA.app {lo n src : Nat} {t : TypeId} {W : World} {u : Value} {xs : List Ak} {x : Ak} {r : Array Value} (h : GrA lo n W u xs) (hs : W.heap[src]? = some (.cells r t (0, 0))) (hQ : IsA (IsQ (fun B => lo ≤ B ∧ u.ownBlock ≠ some B) W n) r x) (hB : lo ≤ W.heap.size) (hk : xs.length ≤ 1000) :
    ∃ (a : Option Addr) (c : Nat) (w' : World), (∀ ty, (Builtin.append_ #[31, 31] ty #[u, .slice (some ⟨src, 0, none⟩) 1 1]).run Try.prog W = .ok (.slice a (xs.length + 1) c) w') ∧ GrA lo n w' (.slice a (xs.length + 1) c) (xs ++ [x]) ∧ Below lo W w' ∧ (∀ B, B < W.heap.size → u.ownBlock ≠ some B → w'.heap[B]? = W.heap[B]?) := by
  obtain ⟨cells, ho, hc⟩ := h
  obtain ⟨i0, hi0, hz0, hz1, hz2⟩ := info_parts info58
  obtain ⟨u', w2, hr, hown', hbl, hkeep, hblk⟩ := app2 (lo := lo) (src := src) (k := xs.length) (t := 31) (news := r.toList) Try.underlying31 hi0 hz0 hz1 hz2 rfl (by decide) ho (by rw [Array.length_toList]; exact hQ.size) (fun j z hj => by rw [add_plain, Nat.zero_add, cell_of_row W src j r t (0, 0) hs]; simpa using hj) (fun z hz => by
    obtain ⟨j, hj⟩ := List.mem_iff_getElem?.1 hz
    exact hQ.one j z (by simpa using hj)) (by omega) (by omega) hB
  obtain ⟨g', cap', rfl⟩ := ownsRow_succ hown'
  have hold : ∀ B q c, (lo ≤ B ∧ u.ownBlock ≠ some B) → W.cell? ⟨B, q, none⟩ = some c → w2.heap[B]? = W.heap[B]? ∧ (lo ≤ B ∧ (Value.slice (some ⟨g', 0, none⟩) (xs.length + 1) cap').ownBlock ≠ some B) := fun B q c hB hcel => by
    have hB3 : B < W.heap.size := World.block_lt_of_cell? W ⟨B, q, none⟩ hcel
    refine ⟨hkeep B hB3 hB.2, hB.1, ?_⟩
    rcases hblk with e | e
    · rw [e]; exact hB.2
    · rw [e]; intro e2; injection e2 with e2; omega
  have hcl : cells.length = xs.length * 7 := ho.1
  refine ⟨_, _, w2, hr, ⟨cells ++ r.toList, by rw [List.length_append]; exact hown', fun i z hz => ?_⟩, hbl, hkeep⟩
  by_cases hlt : i < xs.length
  · rw [List.getElem?_append_left hlt] at hz
    obtain ⟨cs, h1, hq⟩ := hc i z hz
    refine ⟨cs, fun k c hkc => ?_, hq.map fun _ _ h => h.keep hold⟩
    have hk7 : k < 7 := by have := (Array.getElem?_eq_some_iff.1 hkc).1; have := hq.size; omega
    rw [List.getElem?_append_left (by omega)]
    exact h1 k c hkc
  · have hi2 : i = xs.length := by
      have := (List.getElem?_eq_some_iff.1 hz).1
      simp at this
      omega
    subst hi2
    rw [List.getElem?_append_right (Nat.le_refl _)] at hz
    simp at hz
    subst hz
    refine ⟨r, fun k c hkc => ?_, hQ.map fun _ _ h => h.keep hold⟩
    rw [List.getElem?_append_right (by omega), hcl, Nat.add_sub_cancel_left]
    simpa using hkc
/-- A wait that was cloned lately is put behind the list. -/
theorem GrA.push {lo n b : Nat} {W W1 : World} {u : Value} {xs : List Ak} {x : Ak} {r : Array Value} (h : GrA lo n W u xs) (hlo : lo ≤ W.heap.size) (hb : Below W.heap.size W W1) (hWb : W.heap.size ≤ b) (hb0 : 0 < b) (hi : IsA (IsN b W1 n) r x) (hk : xs.length ≤ 1000) :
    ∃ (a : Option Addr) (c : Nat) (w' : World), (∀ ty, (Builtin.append_ #[31, 31] ty #[u, .slice (some ⟨W1.heap.size, 0, none⟩) 1 1]).run Try.prog (W1.alloc (.cells r 58)) = .ok (.slice a (xs.length + 1) c) w') ∧ GrA lo n w' (.slice a (xs.length + 1) c) (xs ++ [x]) ∧ Below lo W w' ∧ (∀ B, B < W.heap.size → u.ownBlock ≠ some B → w'.heap[B]? = W.heap[B]?) := by
  have hs := hb.size
  have h1 := (h.below hb).below (bel1 W1 (.cells r 58))
  have hi2 : IsA (IsN b (W1.alloc (.cells r 58)) n) r x := hi.map fun _ _ h => h.kb (g := 0) (KB.of_below (bel1 W1 _)) hb0
  have hQ : IsA (IsQ (fun B => lo ≤ B ∧ u.ownBlock ≠ some B) (W1.alloc (.cells r 58)) n) r x := hi2.map fun _ _ hx => hx.isQ fun B h3 _ => ⟨by omega, fun e => by have := (h.lt e).2; omega⟩
  obtain ⟨a, c, w2, hr, hg, hbl, hkp⟩ := h1.app (heap_alloc_new W1 (.cells r 58)) hQ (by simp; omega) hk
  refine ⟨a, c, w2, hr, hg, ((hb.mono hlo).trans ((bel1 W1 _).mono (by omega))).trans hbl, fun B hB hne => ?_⟩
  exact (hkp B (by simp; omega) hne).trans (((bel1 W1 (.cells r 58)).block B (by omega)).trans (hb.block B hB))
/-- What a worker is told of a wait. -/
def akOf (x : Wt) : Ak := ⟨x.op, x.name, x.asked⟩
/-- What an ask is told as. -/
def AkP (n : Nat) (w : World) (x : Wt) (e : Ending) (w' : World) : Prop := (∃ us, e = .returned (.agg us) ∧ IsA (IsN w.heap.size w' n) us (akOf x)) ∧ Below w.heap.size w w'
set_option maxHeartbeats 4000000 in
set_option maxRecDepth 100000 in
theorem ask_calls (n : Nat) (cs : Array Value) (x : Wt) (w : World) (h : IsW (Is w n) cs x) (hs : SmX n x) : Calls Try.prog 38 #[.agg cs] w (AkP n w x) := by
  obtain ⟨k, y, z, st, sa, sm, sc, i1, i2, i3, i4, i5, iv⟩ := h.asked
  have HQ : Hid (∀ us w', IsA (IsN w.heap.size w' n) us (akOf x) → Below w.heap.size w w' → AkP n w x (.returned (.agg us)) w') := fun us w' h1 h2 => ⟨⟨us, rfl, h1⟩, h2⟩
  have hrow : ((w.alloc (.cells cs 29)).alloc (.cells zA 58)).heap[w.heap.size]? = some (.cells cs 29 (0, 0)) := heap_alloc2_old _ _ _
  have HZ : Hid (((w.alloc (.cells cs 29)).alloc (.cells zA 58)).heap[w.heap.size + 1]? = some (.cells zA 58 (0, 0))) := heap_alloc2_new _ _ _
  have HSZ : Hid (((w.alloc (.cells cs 29)).alloc (.cells zA 58)).heap.size = w.heap.size + 2) := by show _ = _; simp
  have HB0 : Hid (Below w.heap.size w ((w.alloc (.cells cs 29)).alloc (.cells zA 58))) := bel2 (bel1 _ _) (bel1 _ _)
  have HS : Hid (∀ W, Below ((w.alloc (.cells cs 29)).alloc (.cells zA 58)).heap.size ((w.alloc (.cells cs 29)).alloc (.cells zA 58)) W → W.cell? ⟨w.heap.size, 0, none⟩ = some (.int .i64 x.op) ∧ W.cell? ⟨w.heap.size, 5, none⟩ = some (.string x.name) ∧ W.rangeAt w.heap.size 6 [.int .i64 k, .int .i64 y, .int .u64 z, .string st, .slice sa sm sc]) := fun W hW =>
    ⟨cellW (row_cell hrow h.c0) hW, cellW (row_cell hrow h.c5) hW, fun i v hv => by
      match i, hv with
      | 0, hv => cases hv; exact cellW (row_cell hrow i1) hW
      | 1, hv => cases hv; exact cellW (row_cell hrow i2) hW
      | 2, hv => cases hv; exact cellW (row_cell hrow i3) hW
      | 3, hv => cases hv; exact cellW (row_cell hrow i4) hW
      | 4, hv => cases hv; exact cellW (row_cell hrow i5) hW
      | i + 5, hv => simp at hv⟩
  have KV : Hid (∀ W, Below ((w.alloc (.cells cs 29)).alloc (.cells zA 58)).heap.size ((w.alloc (.cells cs 29)).alloc (.cells zA 58)) W → _) := fun W hW => pcloneW n _ x.asked W (iv.below (bel2 HB0.out hW)) hs.1
  clear hrow h hs i1 i2 i3 i4 i5 iv
  generalize AkP n w x = Q at HQ ⊢
  go_enter Try.func38, Try.ntmps38
  go_upto_region 1 with fail
  change Code.wp _ _ _ _ ((w.alloc (.cells cs 29)).alloc (.cells zA 58))
  generalize (w.alloc (.cells cs 29)).alloc (.cells zA 58) = W0 at HZ HSZ HB0 HS KV ⊢
  refine wp_region_held_drew (S := (fun w' => w'.cell? ⟨w.heap.size, 0, none⟩ = some (.int .i64 x.op) ∧ w'.cell? ⟨w.heap.size, 5, none⟩ = some (.string x.name) ∧ w'.rangeAt w.heap.size 6 [.int .i64 k, .int .i64 y, .int .u64 z, .string st, .slice sa sm sc])) (by kernel_rfl) (HS.out W0 (Below.refl _ _)) (fun hHeld => ?_)
  change wpAnyH _ _ _ _ _ _ _ _ (World.drew _)
  refine wpAnyH_take (i := 0) (oi := { dst := some 3, op := Go.Op.fieldAddr 29 (Go.Operand.tmp 1) 0, type := 0, pos := "waits.go:127", after := #[], guard := none }) (v := ?_) rfl (by kernel_rfl) (by kernel_rfl) (by kernel_rfl) (fun _ _ _ h => h) (Or.inl ⟨by rfl, ?_⟩) hHeld ?_
  rotate_left 1
  · (intro w hSw; (try dsimp only at hSw); go_simp <;> with_reducible rfl)
  simp only [Act.put, List.setIfInBounds_toArray, List.set_cons_zero, List.set_cons_succ]
  refine wpAnyH_take (i := 1) (oi := { dst := some 4, op := Go.Op.load 3 (Go.Operand.tmp 3), type := 3, pos := "waits.go:127", after := #[{ on := 0, ground := Go.Ground.data }], guard := none }) (v := ?_) rfl (by kernel_rfl) (by kernel_rfl) (by kernel_rfl) (fun _ _ _ h => h) (Or.inl ⟨by rfl, ?_⟩) hHeld ?_
  rotate_left 1
  · (intro w hSw; (try dsimp only at hSw); go_simp <;> with_reducible rfl)
  simp only [Act.put, List.setIfInBounds_toArray, List.set_cons_zero, List.set_cons_succ]
  refine wpAnyH_take (i := 2) (oi := { dst := some 5, op := Go.Op.fieldAddr 29 (Go.Operand.tmp 1) 5, type := 0, pos := "waits.go:127", after := #[], guard := none }) (v := ?_) rfl (by kernel_rfl) (by kernel_rfl) (by kernel_rfl) (fun _ _ _ h => h) (Or.inl ⟨by rfl, ?_⟩) hHeld ?_
  rotate_left 1
  · (intro w hSw; (try dsimp only at hSw); go_simp <;> with_reducible rfl)
  simp only [Act.put, List.setIfInBounds_toArray, List.set_cons_zero, List.set_cons_succ]
  refine wpAnyH_take (i := 3) (oi := { dst := some 6, op := Go.Op.load 9 (Go.Operand.tmp 5), type := 9, pos := "waits.go:127", after := #[{ on := 2, ground := Go.Ground.data }], guard := none }) (v := ?_) rfl (by kernel_rfl) (by kernel_rfl) (by kernel_rfl) (fun _ _ _ h => h) (Or.inl ⟨by rfl, ?_⟩) hHeld ?_
  rotate_left 1
  · (intro w hSw; (try dsimp only at hSw); go_simp <;> with_reducible rfl)
  simp only [Act.put, List.setIfInBounds_toArray, List.set_cons_zero, List.set_cons_succ]
  refine wpAnyH_take (i := 4) (oi := { dst := some 7, op := Go.Op.fieldAddr 29 (Go.Operand.tmp 1) 6, type := 0, pos := "waits.go:127", after := #[], guard := none }) (v := ?_) rfl (by kernel_rfl) (by kernel_rfl) (by kernel_rfl) (fun _ _ _ h => h) (Or.inl ⟨by rfl, ?_⟩) hHeld ?_
  rotate_left 1
  · (intro w hSw; (try dsimp only at hSw); go_simp <;> with_reducible rfl)
  simp only [Act.put, List.setIfInBounds_toArray, List.set_cons_zero, List.set_cons_succ]
  refine wpAnyH_take (i := 5) (oi := { dst := some 8, op := Go.Op.load 27 (Go.Operand.tmp 7), type := 27, pos := "waits.go:127", after := #[{ on := 4, ground := Go.Ground.data }], guard := none }) (v := _) rfl (by kernel_rfl) (by kernel_rfl) (by kernel_rfl) (fun _ _ _ h => h) (yieldsIf_load_mid (by rfl) 27 _ rfl w.heap.size 6 rfl [.int .i64 k, .int .i64 y, .int .u64 z, .string st, .slice sa sm sc] _ (fun w h => h.2.2) Try.underlying27 rfl (by kernel_rfl)) hHeld ?_
  simp only [Act.put, List.setIfInBounds_toArray, List.set_cons_zero, List.set_cons_succ]
  refine wpAnyH_ready (rs := [6]) (by kernel_rfl) (by simp) ?_
  refine AllReadyH.cons (o := { dst := some 9, op := Go.Op.call { callee := Go.Callee.value (Go.Operand.func 53), args := #[Go.Operand.tmp 8], argTypes := #[27] }, type := 27, pos := "waits.go:127", after := #[{ on := 5, ground := Go.Ground.data }], guard := none }) rfl (fun K hK => ?_) AllReadyH.nil
  go_simp
  refine (KV.out _ (Below.refl _ W0).drew).mono ?_
  rintro e w1 ⟨⟨v1, rfl, hn1⟩, hb1⟩
  obtain ⟨k1, y1, z1, st1, sa1, sm1, sc1, rfl⟩ := hn1.shape
  have HB1 : Hid (Below W0.heap.size W0 w1) := (Below.refl _ W0).drew.trans hb1
  have HN1 : Hid (IsN (w.heap.size + 2) w1 n (.agg #[.int .i64 k1, .int .i64 y1, .int .u64 z1, .string st1, .slice sa1 sm1 sc1]) x.asked) := by have h := hn1; rw [show W0.drew.heap.size = w.heap.size + 2 from HSZ.out] at h; exact h
  have HZ1 : Hid (w1.heap[w.heap.size + 1]? = some (.cells zA 58 (0, 0))) := row_below HB1.out HZ.out
  clear hn1 hb1 hHeld
  refine hK.out _ _ (HS.out _ HB1.out) (fun hHeld => ?_)
  clear hK K
  refine wpAnyH_take (i := 7) (oi := { dst := some 10, op := Go.Op.build 58 #[(0, Go.Operand.tmp 4), (1, Go.Operand.tmp 6), (2, Go.Operand.tmp 9)], type := 58, pos := "waits.go:127", after := #[{ on := 1, ground := Go.Ground.data }, { on := 3, ground := Go.Ground.data }, { on := 6, ground := Go.Ground.data }], guard := none }) (v := ?_) rfl (by kernel_rfl) (by kernel_rfl) (by kernel_rfl) (fun _ _ _ h => h) (Or.inl ⟨by rfl, ?_⟩) hHeld ?_
  rotate_left 1
  · (intro w hSw; (try dsimp only at hSw); go_simp <;> with_reducible rfl)
  simp only [Act.put, List.setIfInBounds_toArray, List.set_cons_zero, List.set_cons_succ]
  refine wpAnyH_ready (rs := [8]) (by kernel_rfl) (by simp) ?_
  refine AllReadyH.cons (o := { dst := none, op := Go.Op.store 58 (Go.Operand.tmp 2) (Go.Operand.tmp 10), type := 0, pos := "waits.go:127", after := #[{ on := 7, ground := Go.Ground.data }, { on := 6, ground := Go.Ground.chain }, { on := 0, ground := Go.Ground.phase }, { on := 1, ground := Go.Ground.phase }, { on := 2, ground := Go.Ground.phase }, { on := 3, ground := Go.Ground.phase }, { on := 4, ground := Go.Ground.phase }, { on := 5, ground := Go.Ground.phase }, { on := 6, ground := Go.Ground.phase }, { on := 7, ground := Go.Ground.phase }], guard := none }) rfl (fun K hK => ?_) AllReadyH.nil
  rw [if_pos (by rfl)]
  refine wp_store_row 58 _ _ rfl (w.heap.size + 1) #[.int .i64 x.op, .string x.name, .int .i64 k1, .int .i64 y1, .int .u64 z1, .string st1, .slice sa1 sm1 sc1] rfl rfl 58 zA HZ1.out (by kernel_rfl) rfl (by kernel_rfl) ?_
  have HK2 : Hid (KB (w.heap.size + 1) w1 (w1.setRow (w.heap.size + 1) #[.int .i64 x.op, .string x.name, .int .i64 k1, .int .i64 y1, .int .u64 z1, .string st1, .slice sa1 sm1 sc1])) := setRow_kb _ _ _
  have HR2 : Hid ((w1.setRow (w.heap.size + 1) #[.int .i64 x.op, .string x.name, .int .i64 k1, .int .i64 y1, .int .u64 z1, .string st1, .slice sa1 sm1 sc1]).heap[w.heap.size + 1]? = some (.cells #[.int .i64 x.op, .string x.name, .int .i64 k1, .int .i64 y1, .int .u64 z1, .string st1, .slice sa1 sm1 sc1] 58 (0, 0))) := setRow_heap w1 _ zA _ 58 (0, 0) HZ1.out
  refine hK.out _ _ ⟨HK2.out.cell hHeld.1 (by show w.heap.size ≠ w.heap.size + 1; omega), HK2.out.cell hHeld.2.1 (by show w.heap.size ≠ w.heap.size + 1; omega), fun i v hv => HK2.out.cell (hHeld.2.2 i v hv) (by show w.heap.size ≠ w.heap.size + 1; omega)⟩ (fun hHeld => ?_)
  clear hK K hHeld
  generalize w1.setRow (w.heap.size + 1) #[.int .i64 x.op, .string x.name, .int .i64 k1, .int .i64 y1, .int .u64 z1, .string st1, .slice sa1 sm1 sc1] = W2 at HK2 HR2 ⊢
  simp only [Act.put]
  refine wpAnyH_done (by kernel_rfl) ?_ _
  go_wp2_with fail
  refine bodyPost_ret (results_cell_row Try.results38 _ _ (w.heap.size + 1) 58 #[.int .i64 x.op, .string x.name, .int .i64 k1, .int .i64 y1, .int .u64 z1, .string st1, .slice sa1 sm1 sc1] (0, 0) _ rfl HR2.out Try.underlying58 rfl (by kernel_rfl)) rfl (HQ.out _ _ ?_ ?_)
  · exact ⟨rfl, rfl, rfl, ⟨k1, y1, z1, st1, sa1, sm1, sc1, rfl, rfl, rfl, rfl, rfl, (HN1.out.kb HK2.out (by omega)).lower (by omega)⟩⟩
  · exact (HB0.out.trans (HB1.out.mono (by have := HSZ.out; omega))).trans (HK2.out.below (by omega) (by have := HB1.out.size; have := HSZ.out; omega))
set_option maxHeartbeats 2000000 in
set_option maxRecDepth 100000 in
theorem ix50b_calls {α : Type} (Rp : Array Value → α → Prop) (P : α → Bool) (g : Nat) (ds : List α) (a : Option Addr) (n c : Nat) (hn : ds.length = n) (hs : n ≤ 1000) (w : World) (h : LsR 7 Rp w a ds)
    (hp : ∀ W, Below w.heap.size w W → ∀ (r : Array Value) (d : α), r.size = 7 → Rp r d → Calls Try.prog 35 #[.agg r, .pointer (some ⟨g, 0, none⟩)] W fun e w' => e = .returned (.bool (P d)) ∧ Below W.heap.size W w') :
    Calls Try.prog 50 #[.slice a n c, .func (.func 35) #[] #[.pointer (some ⟨g, 0, none⟩)]] w (IxP P ds w) := by
  have HI : Hid (LsR 7 Rp w a ds) := h
  have HN : Hid (ds.length = n) := hn
  have HS : Hid (n ≤ 1000) := hs
  have HP : Hid (∀ W, Below w.heap.size w W → _) := hp
  have HQ1 : Hid (∀ (j : Nat) (d : α) w', ds[j]? = some d → P d = true → (∀ i d, i < j → ds[i]? = some d → P d = false) → Below w.heap.size w w' → IxP P ds w (.returned (.int .i64 (j : Int))) w') := fun j z w' h1 h2 h3 h4 => ⟨.inl ⟨j, z, rfl, h1, find_first h1 h2 h3⟩, h4⟩
  have HQ2 : Hid (∀ w', (∀ d ∈ ds, P d = false) → Below w.heap.size w w' → IxP P ds w (.returned (.int .i64 (-1))) w') := fun w' h1 h4 => ⟨.inr ⟨rfl, List.find?_eq_none.2 fun d hd => by simp [h1 d hd]⟩, h4⟩
  generalize IxP P ds w = Q at HQ1 HQ2 ⊢
  clear h hn hs hp
  go_enter Try.func50, Try.ntmps50
  go_wp2_with fail
  go_loopw [5, 8] (fun _ i wr => ∃ j : Nat, j ≤ n ∧ i = .int .i64 (j : Int) ∧ Hid (∀ i d, i < j → ds[i]? = some d → P d = false) ∧ Hid (Below w.heap.size w wr)) (fun _ i _ => n - (intOf i).toNat)
  case atStart => exact ⟨0, Nat.zero_le _, rfl, fun q z hq => absurd hq (Nat.not_lt_zero _), Below.refl _ _⟩
  case round =>
    obtain ⟨j, hj, rfl, HF, HB⟩ := hrel
    by_cases hlt : j < n
    · have hjl : (j : Int) < (n : Int) := by omega
      obtain ⟨d, hd⟩ : ∃ d, ds[j]? = some d := ⟨_, List.getElem?_eq_getElem (by have := HN.out; omega)⟩
      obtain ⟨B, o, r, rfl, hsz, hl, hr⟩ := HI.out j d hd
      have hrng := lies_range (hl.below HB.out)
      have hi : (Try.prog.info? 58).map (·.size) = some r.toList.length := by rw [Array.length_toList]; exact info58s r hsz
      have HZ : Hid (ds[j]? = some d) := hd
      have HC : Hid (Calls Try.prog 35 #[.agg r, .pointer (some ⟨g, 0, none⟩)] wr fun e w' => e = .returned (.bool (P d)) ∧ Below wr.heap.size wr w') := HP.out wr HB.out r d hsz hr
      obtain ⟨pz, hpz⟩ : ∃ pz, pz = P d := ⟨_, rfl⟩
      rw [← hpz] at HC
      have HZP : Hid (pz = P d) := hpz
      have HW : Hid (wrap64 ((j : Int) + 1) = ((j + 1 : Nat) : Int)) := wr1 hlt (by have := HS.out; omega)
      clear hd hpz hl hsz hr
      go_wp2_with (refine wpList_load_mid rfl 58 _ rfl B (o + j * 7) rfl r.toList _ hrng Try.underlying58 rfl hi ?_)
      refine HC.out.mono ?_
      rintro e w1 ⟨rfl, hb⟩
      have HB1 : Hid (Below w.heap.size w w1) := bel2 HB.out hb
      clear hb hrng hi
      cases pz with
      | true =>
        go_wp2_with fail
        exact HQ1.out j d _ HZ.out HZP.out.symm HF.out HB1.out
      | false =>
        have HF2 : Hid (∀ i d, i < j + 1 → ds[i]? = some d → P d = false) := fun i z' hq hz' => by
          by_cases e : i = j
          · subst e; rw [HZ.out] at hz'; injection hz' with hz'; rw [← hz']; exact HZP.out.symm
          · exact HF.out i z' (by omega) hz'
        go_wp2_with fail
        exact ⟨⟨j + 1, hlt, by first | rw [HW.out] | exact congrArg _ (Int.natCast_succ j).symm, HF2, HB1⟩, by first | exact meas hlt HW.out | exact meas hlt (Int.natCast_succ j).symm⟩
    · obtain rfl : j = n := by omega
      go_wp2_with fail
      refine HQ2.out _ (fun z hz => ?_) HB.out
      obtain ⟨i, hi⟩ := List.getElem?_of_mem hz
      exact HF.out i z (by have := (List.getElem?_eq_some_iff.1 hi).1; have := HN.out; omega) hi
theorem knb_calls (r : Array Value) (d q : ByteArray) (h0 : r[1]? = some (.string d)) (b : Nat) (w : World) (hb : w.cell? ⟨b, 5, none⟩ = some (.string q)) :
    Calls Try.prog 35 #[.agg r, .pointer (some ⟨b, 0, none⟩)] w fun e w' => e = .returned (.bool (decide (d = q))) ∧ Below w.heap.size w w' := by
  have HB : Hid (Below w.heap.size w (w.alloc (.cells r 58))) := bel1 w _
  have e0 : (w.alloc (.cells r 58)).cell? ⟨w.heap.size, 1, none⟩ = some (.string d) := row_cell (heap_alloc_new w _) h0
  have eb := cellW hb (bel1 w (.cells r 58))
  clear h0 hb
  go_enter Try.func35, Try.ntmps35
  go_upto_region 1 with fail
  generalize w.alloc (.cells r 58) = W at HB e0 eb ⊢
  by_cases he : d = q
  · subst he
    go_wp2_with fail
    go_ret
    exact ⟨by simp, HB.out⟩
  · have e1 := tl_ne he
    go_wp2_with fail
    go_ret
    exact ⟨by simp [he], HB.out⟩
theorem any_find {α : Type} (P : α → Bool) (l : List α) : l.any P = (l.find? P).isSome := by
  induction l with
  | nil => rfl
  | cons a l ih =>
    rw [List.any_cons, List.find?_cons, ih]
    cases P a <;> rfl
theorem contains_calls (n : Nat) (ds : List Ak) (a : Option Addr) (N c : Nat) (hn : ds.length = N) (hs : N ≤ 1000) (b : Nat) (q : ByteArray) (w : World) (h : LsA w n a ds) (hb : w.cell? ⟨b, 5, none⟩ = some (.string q)) :
    Calls Try.prog 37 #[.slice a N c, .func (.func 35) #[] #[.pointer (some ⟨b, 0, none⟩)]] w fun e w' => e = .returned (.bool (ds.any fun d => decide (d.s = q))) ∧ Below w.heap.size w w' := by
  have KX : Hid (Calls Try.prog 50 #[.slice a N c, .func (.func 35) #[] #[.pointer (some ⟨b, 0, none⟩)]] w (IxP (fun d : Ak => decide (d.s = q)) ds w)) := ix50b_calls (IsA (Is w n)) (fun d : Ak => decide (d.s = q)) b ds a N c hn hs w h (fun W hW r d _ hr => knb_calls r d.s q hr.c1 b W (cellW hb hW))
  have HE : Hid ((ds.any fun d => decide (d.s = q)) = (ds.find? fun d => decide (d.s = q)).isSome) := any_find _ _
  generalize (ds.any fun d => decide (d.s = q)) = z at HE ⊢
  clear h hb hn hs
  go_enter Try.func37, Try.ntmps37
  go_wp2_with fail
  refine KX.out.mono ?_
  rintro e w1 ⟨h1, hb1⟩
  have HB1 : Hid (Below w.heap.size w w1) := hb1
  clear hb1
  rcases h1 with ⟨j, x, rfl, hj, hf⟩ | ⟨rfl, hf⟩
  · rw [hf] at HE
    have HZ : Hid (z = true) := HE.out
    have hj0 : (0 : Int) ≤ (j : Int) := by omega
    have hj1 : decide ((0 : Int) ≤ (j : Int)) = true := by simp
    clear hj hf HE
    go_wp2_with fail
    go_ret
    exact ⟨by rw [HZ.out]; simp, HB1.out⟩
  · rw [hf] at HE
    have HZ : Hid (z = false) := HE.out
    have hj1 : decide ((0 : Int) ≤ -1) = false := by decide
    clear hf HE
    go_wp2_with fail
    go_ret
    exact ⟨by rw [HZ.out]; simp, HB1.out⟩
set_option maxHeartbeats 2000000 in
set_option maxRecDepth 100000 in
theorem named_calls (n : Nat) (ds : List Ak) (a : Option Addr) (N c : Nat) (hn : ds.length = N) (hs : N ≤ 1000) (q : ByteArray) (w : World) (h : LsA w n a ds) :
    Calls Try.prog 40 #[.slice a N c, .string q] w fun e w' => e = .returned (.bool (ds.any fun d => decide (d.s = q))) ∧ Below w.heap.size w w' := by
  have HI : Hid (LsA w n a ds) := h
  have HN : Hid (ds.length = N) := hn
  have HS : Hid (N ≤ 1000) := hs
  have HQ1 : Hid (∀ (j : Nat) (d : Ak), ds[j]? = some d → d.s = q → (ds.any fun d => decide (d.s = q)) = true) := fun j d h1 h2 => List.any_eq_true.2 ⟨d, List.mem_of_getElem? h1, by simpa using h2⟩
  have HQ2 : Hid ((∀ (i : Nat) d, i < N → ds[i]? = some d → ¬ d.s = q) → (ds.any fun d => decide (d.s = q)) = false) := fun h1 => List.any_eq_false.2 fun d hd => by
    obtain ⟨i, hi⟩ := List.getElem?_of_mem hd
    have := h1 i d (by have := (List.getElem?_eq_some_iff.1 hi).1; omega) hi
    simpa using this
  generalize (ds.any fun d => decide (d.s = q)) = z at HQ1 HQ2 ⊢
  clear h hn hs
  go_enter Try.func40, Try.ntmps40
  go_wp2_with fail
  go_loopw [5] (fun i wr => ∃ j : Nat, j ≤ N ∧ i = .int .i64 (j : Int) ∧ Hid (∀ (i : Nat) d, i < j → ds[i]? = some d → ¬ d.s = q) ∧ Hid (Below w.heap.size w wr)) (fun i _ => N - (intOf i).toNat)
  case atStart => exact ⟨0, Nat.zero_le _, rfl, fun q z hq => absurd hq (Nat.not_lt_zero _), Below.refl _ _⟩
  case round =>
    obtain ⟨j, hj, rfl, HF, HB⟩ := hrel
    by_cases hlt : j < N
    · have hjl : (j : Int) < (N : Int) := by omega
      obtain ⟨d, hd⟩ : ∃ d, ds[j]? = some d := ⟨_, List.getElem?_eq_getElem (by have := HN.out; omega)⟩
      obtain ⟨B, o, r, rfl, _, hl, hr⟩ := (HI.out.below HB.out) j d hd
      have e1 : wr.cell? ⟨B, o + j * 7 + 1, none⟩ = some (.string d.s) := hl 1 _ hr.c1
      have HZ : Hid (ds[j]? = some d) := hd
      have HW : Hid (wrap64 ((j : Int) + 1) = ((j + 1 : Nat) : Int)) := wr1 hlt (by have := HS.out; omega)
      clear hd hl hr
      by_cases he : d.s = q
      · have HZt : Hid (z = true) := HQ1.out j d HZ.out he
        rw [he] at e1
        clear he
        go_wp2_with fail
        go_ret
        exact ⟨by rw [HZt.out]; rfl, HB.out⟩
      · have hne := tl_ne he
        have HF2 : Hid (∀ (i : Nat) d, i < j + 1 → ds[i]? = some d → ¬ d.s = q) := fun i z' hq hz' => by
          by_cases e : i = j
          · subst e; rw [HZ.out] at hz'; injection hz' with hz'; rw [← hz']; exact he
          · exact HF.out i z' (by omega) hz'
        clear he
        go_wp2_with fail
        exact ⟨⟨j + 1, hlt, by first | rw [HW.out] | exact congrArg _ (Int.natCast_succ j).symm, HF2, HB⟩, by first | exact meas hlt HW.out | exact meas hlt (Int.natCast_succ j).symm⟩
    · obtain rfl : j = N := by omega
      have HZf : Hid (z = false) := HQ2.out HF.out
      go_wp2_with fail
      go_ret
      exact ⟨by rw [HZf.out]; rfl, HB.out⟩
end Go.Proofs.Ytocjgcjechhehaa
