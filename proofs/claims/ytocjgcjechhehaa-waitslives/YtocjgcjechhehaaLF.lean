/- SameAsks of the same; Updates and Queries of the program. -/
import Derived.Test.YtocjgcjechhehaaLE
import Derived.Test.YtocjgcjechhehaaT
namespace Go.Proofs.Ytocjgcjechhehaa
open Go.ChangeAt Go.ChangeShapes Go.Deep Go.RowKit Go.WideShapes
/-- An update that waits for that run is told, of one name only the first. -/
def updF (flow : ByteArray) (run : Int) (acc : List Ak) (x : Wt) : List Ak := if ofB x flow run false && !(acc.any fun d => decide (d.s = x.name)) then acc ++ [akOf x] else acc
/-- A query that waits for that run is told. -/
def qryF (flow : ByteArray) (run : Int) (acc : List Ak) (x : Wt) : List Ak := if ofB x flow run true then acc ++ [akOf x] else acc
theorem fold_snoc {α β : Type} {f : β → α → β} {b : β} {l : List α} {j : Nat} {x : α} (h : l[j]? = some x) : (l.take (j + 1)).foldl f b = f ((l.take j).foldl f b) x := by
  rw [List.take_add_one, h, List.foldl_append]
  rfl
theorem fold_len {f : List Ak → Wt → List Ak} (hf : ∀ acc x, (f acc x).length ≤ acc.length + 1) : ∀ (l : List Wt) (acc : List Ak), (l.foldl f acc).length ≤ acc.length + l.length
  | [], acc => by simp
  | x :: l, acc => by
    have := fold_len hf l (f acc x)
    have := hf acc x
    simp only [List.foldl_cons, List.length_cons]
    omega
theorem updF_len (flow : ByteArray) (run : Int) (acc : List Ak) (x : Wt) : (updF flow run acc x).length ≤ acc.length + 1 := by
  unfold updF
  split <;> simp
theorem qryF_len (flow : ByteArray) (run : Int) (acc : List Ak) (x : Wt) : (qryF flow run acc x).length ≤ acc.length + 1 := by
  unfold qryF
  split <;> simp
/-- What is told is a list of asks in new memory. -/
def RetA (n : Nat) (w : World) (xs : List Ak) (e : Ending) (W' : World) : Prop := ∃ a c, e = .returned (.slice a xs.length c) ∧ LsA W' n a xs ∧ Below w.heap.size w W'
theorem GrA.ret {lo n : Nat} {w W' : World} {v : Value} {xs : List Ak} (h : GrA lo n W' v xs) (hb : Below w.heap.size w W') : RetA n w xs (.returned v) W' := by
  obtain ⟨a, c, rfl, _, _⟩ := h.shape
  exact ⟨a, c, rfl, h.ls, hb⟩
theorem GrA.lsv {lo n : Nat} {w : World} {a : Option Addr} {k c : Nat} {ts : List Ak} (h : GrA lo n w (.slice a k c) ts) (_ : ts.length = k) : LsA w n a ts := h.ls
set_option maxHeartbeats 8000000 in
set_option maxRecDepth 100000 in
theorem asame_calls (n : Nat) (ds : List Ak) (a a2 : Option Addr) (N c c2 : Nat) (hN : ds.length = N) (hl : N ≤ 1000) (w : World) (h : LsA w n a ds) (h2 : LsA w n a2 ds) :
    Calls Try.prog 13 #[.slice a N c, .slice a2 N c2] w fun e w' => e = .returned (.bool true) ∧ Below w.heap.size w w' := by
  have HH : Hid (LsA w n a ds) := h
  have HH2 : Hid (LsA w n a2 ds) := h2
  have HN : Hid (ds.length = N) := hN
  have HL : Hid (N ≤ 1000) := hl
  have hnn : ((N : Int) != (N : Int)) = false := by simp
  clear h h2 hN hl
  go_enter Try.func13, Try.ntmps13
  go_wp2_with fail
  go_loopw [5] (fun i wr => ∃ j : Nat, j ≤ N ∧ i = .int .i64 (j : Int) ∧ Hid (Below w.heap.size w wr)) (fun i _ => N - (intOf i).toNat)
  case atStart => exact ⟨0, Nat.zero_le _, rfl, Below.refl _ _⟩
  case round =>
    obtain ⟨j, hj, rfl, HB⟩ := hrel
    by_cases hlt : j < N
    · obtain ⟨d, hd⟩ : ∃ d, ds[j]? = some d := ⟨_, List.getElem?_eq_getElem (by rw [HN.out]; exact hlt)⟩
      obtain ⟨B, o, r, rfl, _, l1, i1⟩ := (HH.out.below HB.out) j d hd
      obtain ⟨B2, o2, r2, rfl, _, l2, i2⟩ := (HH2.out.below HB.out) j d hd
      obtain ⟨k1, y1, z1, t1, a1, m1, c1, g0, g1, g2, g3, g4, I1⟩ := i1.v
      obtain ⟨k2, y2, z2, t2, a2, m2, c2, f0, f1, f2, f3, f4, I2⟩ := i2.v
      have KS : Hid (∀ W, Below wr.heap.size wr W → Calls Try.prog 30 #[.agg #[.int .i64 k1, .int .i64 y1, .int .u64 z1, .string t1, .slice a1 m1 c1], .agg #[.int .i64 k2, .int .i64 y2, .int .u64 z2, .string t2, .slice a2 m2 c2]] W fun e w' => e = .returned (.bool true) ∧ Below W.heap.size W w') := fun W hW => (rsame_calls n _ d.v _ d.v W (I1.below hW) (I2.below hW)).mono fun e w' h => by
        obtain ⟨⟨b, rfl, hb⟩, h2⟩ := h
        exact ⟨by rw [hb.2 rfl], h2⟩
      have HS : Hid (∀ W, Below wr.heap.size wr W → W.cell? ⟨B, o + j * 7, none⟩ = some (.int .i64 d.o) ∧ W.cell? ⟨B, o + j * 7 + 1, none⟩ = some (.string d.s) ∧ W.cell? ⟨B2, o2 + j * 7, none⟩ = some (.int .i64 d.o) ∧ W.cell? ⟨B2, o2 + j * 7 + 1, none⟩ = some (.string d.s) ∧ W.rangeAt B (o + j * 7 + 2) [.int .i64 k1, .int .i64 y1, .int .u64 z1, .string t1, .slice a1 m1 c1] ∧ W.rangeAt B2 (o2 + j * 7 + 2) [.int .i64 k2, .int .i64 y2, .int .u64 z2, .string t2, .slice a2 m2 c2]) := fun W hW =>
        ⟨cellW (l1 0 _ i1.c0) hW, cellW (l1 1 _ i1.c1) hW, cellW (l2 0 _ i2.c0) hW, cellW (l2 1 _ i2.c1) hW, fun i v hv => by
          match i, hv with
          | 0, hv => cases hv; exact cellW (l1 2 _ g0) hW
          | 1, hv => cases hv; exact cellW (l1 (2 + 1) _ g1) hW
          | 2, hv => cases hv; exact cellW (l1 (2 + 2) _ g2) hW
          | 3, hv => cases hv; exact cellW (l1 (2 + 3) _ g3) hW
          | 4, hv => cases hv; exact cellW (l1 (2 + 4) _ g4) hW
          | i + 5, hv => simp at hv, fun i v hv => by
          match i, hv with
          | 0, hv => cases hv; exact cellW (l2 2 _ f0) hW
          | 1, hv => cases hv; exact cellW (l2 (2 + 1) _ f1) hW
          | 2, hv => cases hv; exact cellW (l2 (2 + 2) _ f2) hW
          | 3, hv => cases hv; exact cellW (l2 (2 + 3) _ f3) hW
          | 4, hv => cases hv; exact cellW (l2 (2 + 4) _ f4) hW
          | i + 5, hv => simp at hv⟩
      have hjl : (j : Int) < (N : Int) := by omega
      have HW : Hid (wrap64 ((j : Int) + 1) = ((j + 1 : Nat) : Int)) := wr1 hlt (by have := HL.out; omega)
      clear l1 l2 i1 i2 g0 g1 g2 g3 g4 f0 f1 f2 f3 f4 I1 I2 hd
      generalize d.o = do' at HS
      generalize d.s = ds' at HS
      go_wp2_with fail
      refine wp_region_held_drew (S := (fun w' => w'.cell? ⟨B, o + j * 7, none⟩ = some (.int .i64 do') ∧ w'.cell? ⟨B, o + j * 7 + 1, none⟩ = some (.string ds') ∧ w'.cell? ⟨B2, o2 + j * 7, none⟩ = some (.int .i64 do') ∧ w'.cell? ⟨B2, o2 + j * 7 + 1, none⟩ = some (.string ds') ∧ w'.rangeAt B (o + j * 7 + 2) [.int .i64 k1, .int .i64 y1, .int .u64 z1, .string t1, .slice a1 m1 c1] ∧ w'.rangeAt B2 (o2 + j * 7 + 2) [.int .i64 k2, .int .i64 y2, .int .u64 z2, .string t2, .slice a2 m2 c2])) (by kernel_rfl) (HS.out wr (Below.refl _ _)) (fun hHeld => ?_)
      change wpAnyH _ _ _ _ _ _ _ _ (World.drew _)
      refine wpAnyH_take (i := 0) (oi := { dst := some 17, op := Go.Op.move (Go.Operand.tmp 0), type := 31, pos := "ref.go:196", after := #[], guard := none }) (v := ?_) rfl (by kernel_rfl) (by kernel_rfl) (by kernel_rfl) (fun _ _ _ h => h) (Or.inl ⟨by rfl, ?_⟩) hHeld ?_
      rotate_left 1
      · (intro w hSw; (try dsimp only at hSw); go_simp <;> with_reducible rfl)
      simp only [Act.put, List.setIfInBounds_toArray, List.set_cons_zero, List.set_cons_succ]
      refine wpAnyH_take (i := 1) (oi := { dst := some 18, op := Go.Op.move (Go.Operand.tmp 5), type := 3, pos := "ref.go:196", after := #[], guard := none }) (v := ?_) rfl (by kernel_rfl) (by kernel_rfl) (by kernel_rfl) (fun _ _ _ h => h) (Or.inl ⟨by rfl, ?_⟩) hHeld ?_
      rotate_left 1
      · (intro w hSw; (try dsimp only at hSw); go_simp <;> with_reducible rfl)
      simp only [Act.put, List.setIfInBounds_toArray, List.set_cons_zero, List.set_cons_succ]
      refine wpAnyH_take (i := 2) (oi := { dst := some 19, op := Go.Op.indexAddr 31 (Go.Operand.tmp 17) (Go.Operand.tmp 18), type := 0, pos := "ref.go:196", after := #[{ on := 0, ground := Go.Ground.data }, { on := 1, ground := Go.Ground.data }], guard := none }) (v := ?_) rfl (by kernel_rfl) (by kernel_rfl) (by kernel_rfl) (fun _ _ _ h => h) (Or.inl ⟨by rfl, ?_⟩) hHeld ?_
      rotate_left 1
      · (intro w hSw; (try dsimp only at hSw); go_simp <;> with_reducible rfl)
      simp only [Act.put, List.setIfInBounds_toArray, List.set_cons_zero, List.set_cons_succ]
      refine wpAnyH_take (i := 3) (oi := { dst := some 20, op := Go.Op.fieldAddr 58 (Go.Operand.tmp 19) 0, type := 0, pos := "ref.go:196", after := #[{ on := 2, ground := Go.Ground.data }], guard := none }) (v := ?_) rfl (by kernel_rfl) (by kernel_rfl) (by kernel_rfl) (fun _ _ _ h => h) (Or.inl ⟨by rfl, ?_⟩) hHeld ?_
      rotate_left 1
      · (intro w hSw; (try dsimp only at hSw); go_simp <;> with_reducible rfl)
      simp only [Act.put, List.setIfInBounds_toArray, List.set_cons_zero, List.set_cons_succ]
      refine wpAnyH_take (i := 4) (oi := { dst := some 21, op := Go.Op.load 3 (Go.Operand.tmp 20), type := 3, pos := "ref.go:196", after := #[{ on := 3, ground := Go.Ground.data }], guard := none }) (v := ?_) rfl (by kernel_rfl) (by kernel_rfl) (by kernel_rfl) (fun _ _ _ h => h) (Or.inl ⟨by rfl, ?_⟩) hHeld ?_
      rotate_left 1
      · (intro w hSw; (try dsimp only at hSw); go_simp <;> with_reducible rfl)
      simp only [Act.put, List.setIfInBounds_toArray, List.set_cons_zero, List.set_cons_succ]
      refine wpAnyH_take (i := 5) (oi := { dst := some 22, op := Go.Op.move (Go.Operand.tmp 1), type := 31, pos := "ref.go:196", after := #[], guard := none }) (v := ?_) rfl (by kernel_rfl) (by kernel_rfl) (by kernel_rfl) (fun _ _ _ h => h) (Or.inl ⟨by rfl, ?_⟩) hHeld ?_
      rotate_left 1
      · (intro w hSw; (try dsimp only at hSw); go_simp <;> with_reducible rfl)
      simp only [Act.put, List.setIfInBounds_toArray, List.set_cons_zero, List.set_cons_succ]
      refine wpAnyH_take (i := 6) (oi := { dst := some 23, op := Go.Op.move (Go.Operand.tmp 5), type := 3, pos := "ref.go:196", after := #[], guard := none }) (v := ?_) rfl (by kernel_rfl) (by kernel_rfl) (by kernel_rfl) (fun _ _ _ h => h) (Or.inl ⟨by rfl, ?_⟩) hHeld ?_
      rotate_left 1
      · (intro w hSw; (try dsimp only at hSw); go_simp <;> with_reducible rfl)
      simp only [Act.put, List.setIfInBounds_toArray, List.set_cons_zero, List.set_cons_succ]
      refine wpAnyH_take (i := 7) (oi := { dst := some 24, op := Go.Op.indexAddr 31 (Go.Operand.tmp 22) (Go.Operand.tmp 23), type := 0, pos := "ref.go:196", after := #[{ on := 5, ground := Go.Ground.data }, { on := 6, ground := Go.Ground.data }], guard := none }) (v := ?_) rfl (by kernel_rfl) (by kernel_rfl) (by kernel_rfl) (fun _ _ _ h => h) (Or.inl ⟨by rfl, ?_⟩) hHeld ?_
      rotate_left 1
      · (intro w hSw; (try dsimp only at hSw); go_simp <;> with_reducible rfl)
      simp only [Act.put, List.setIfInBounds_toArray, List.set_cons_zero, List.set_cons_succ]
      refine wpAnyH_take (i := 8) (oi := { dst := some 25, op := Go.Op.fieldAddr 58 (Go.Operand.tmp 24) 0, type := 0, pos := "ref.go:196", after := #[{ on := 7, ground := Go.Ground.data }], guard := none }) (v := ?_) rfl (by kernel_rfl) (by kernel_rfl) (by kernel_rfl) (fun _ _ _ h => h) (Or.inl ⟨by rfl, ?_⟩) hHeld ?_
      rotate_left 1
      · (intro w hSw; (try dsimp only at hSw); go_simp <;> with_reducible rfl)
      simp only [Act.put, List.setIfInBounds_toArray, List.set_cons_zero, List.set_cons_succ]
      refine wpAnyH_take (i := 9) (oi := { dst := some 26, op := Go.Op.load 3 (Go.Operand.tmp 25), type := 3, pos := "ref.go:196", after := #[{ on := 8, ground := Go.Ground.data }], guard := none }) (v := ?_) rfl (by kernel_rfl) (by kernel_rfl) (by kernel_rfl) (fun _ _ _ h => h) (Or.inl ⟨by rfl, ?_⟩) hHeld ?_
      rotate_left 1
      · (intro w hSw; (try dsimp only at hSw); go_simp <;> with_reducible rfl)
      simp only [Act.put, List.setIfInBounds_toArray, List.set_cons_zero, List.set_cons_succ]
      refine wpAnyH_take (i := 10) (oi := { dst := some 27, op := Go.Op.binOp Go.BinOp.neq 3 (Go.Operand.tmp 21) (Go.Operand.tmp 26) 3, type := 4, pos := "ref.go:196", after := #[{ on := 4, ground := Go.Ground.data }, { on := 9, ground := Go.Ground.data }], guard := none }) (v := ?_) rfl (by kernel_rfl) (by kernel_rfl) (by kernel_rfl) (fun _ _ _ h => h) (Or.inl ⟨by rfl, ?_⟩) hHeld ?_
      rotate_left 1
      · (intro w hSw; (try dsimp only at hSw); go_simp <;> with_reducible rfl)
      simp only [Act.put, List.setIfInBounds_toArray, List.set_cons_zero, List.set_cons_succ]
      refine wpAnyH_take (i := 11) (oi := { dst := some 28, op := Go.Op.move (Go.Operand.tmp 27), type := 4, pos := "ref.go:196", after := #[{ on := 10, ground := Go.Ground.data }], guard := none }) (v := ?_) rfl (by kernel_rfl) (by kernel_rfl) (by kernel_rfl) (fun _ _ _ h => h) (Or.inl ⟨by rfl, ?_⟩) hHeld ?_
      rotate_left 1
      · (intro w hSw; (try dsimp only at hSw); go_simp <;> with_reducible rfl)
      simp only [Act.put, List.setIfInBounds_toArray, List.set_cons_zero, List.set_cons_succ]
      refine wpAnyH_take (i := 12) (oi := { dst := some 29, op := Go.Op.move (Go.Operand.tmp 0), type := 31, pos := "ref.go:196", after := #[{ on := 11, ground := Go.Ground.guard }], guard := some (11, false) }) (v := ?_) rfl (by kernel_rfl) (by kernel_rfl) (by kernel_rfl) (fun _ _ _ h => h) (Or.inl ⟨by rfl, ?_⟩) hHeld ?_
      rotate_left 1
      · (intro w hSw; (try dsimp only at hSw); go_simp <;> with_reducible rfl)
      simp only [Act.put, List.setIfInBounds_toArray, List.set_cons_zero, List.set_cons_succ]
      refine wpAnyH_take (i := 13) (oi := { dst := some 30, op := Go.Op.move (Go.Operand.tmp 5), type := 3, pos := "ref.go:196", after := #[{ on := 11, ground := Go.Ground.guard }], guard := some (11, false) }) (v := ?_) rfl (by kernel_rfl) (by kernel_rfl) (by kernel_rfl) (fun _ _ _ h => h) (Or.inl ⟨by rfl, ?_⟩) hHeld ?_
      rotate_left 1
      · (intro w hSw; (try dsimp only at hSw); go_simp <;> with_reducible rfl)
      simp only [Act.put, List.setIfInBounds_toArray, List.set_cons_zero, List.set_cons_succ]
      refine wpAnyH_take (i := 14) (oi := { dst := some 31, op := Go.Op.indexAddr 31 (Go.Operand.tmp 29) (Go.Operand.tmp 30), type := 0, pos := "ref.go:196", after := #[{ on := 12, ground := Go.Ground.data }, { on := 13, ground := Go.Ground.data }, { on := 11, ground := Go.Ground.guard }], guard := some (11, false) }) (v := ?_) rfl (by kernel_rfl) (by kernel_rfl) (by kernel_rfl) (fun _ _ _ h => h) (Or.inl ⟨by rfl, ?_⟩) hHeld ?_
      rotate_left 1
      · (intro w hSw; (try dsimp only at hSw); go_simp <;> with_reducible rfl)
      simp only [Act.put, List.setIfInBounds_toArray, List.set_cons_zero, List.set_cons_succ]
      refine wpAnyH_take (i := 15) (oi := { dst := some 32, op := Go.Op.fieldAddr 58 (Go.Operand.tmp 31) 1, type := 0, pos := "ref.go:196", after := #[{ on := 14, ground := Go.Ground.data }, { on := 11, ground := Go.Ground.guard }], guard := some (11, false) }) (v := ?_) rfl (by kernel_rfl) (by kernel_rfl) (by kernel_rfl) (fun _ _ _ h => h) (Or.inl ⟨by rfl, ?_⟩) hHeld ?_
      rotate_left 1
      · (intro w hSw; (try dsimp only at hSw); go_simp <;> with_reducible rfl)
      simp only [Act.put, List.setIfInBounds_toArray, List.set_cons_zero, List.set_cons_succ]
      refine wpAnyH_take (i := 16) (oi := { dst := some 33, op := Go.Op.load 9 (Go.Operand.tmp 32), type := 9, pos := "ref.go:196", after := #[{ on := 15, ground := Go.Ground.data }, { on := 11, ground := Go.Ground.guard }], guard := some (11, false) }) (v := ?_) rfl (by kernel_rfl) (by kernel_rfl) (by kernel_rfl) (fun _ _ _ h => h) (Or.inl ⟨by rfl, ?_⟩) hHeld ?_
      rotate_left 1
      · (intro w hSw; (try dsimp only at hSw); go_simp <;> with_reducible rfl)
      simp only [Act.put, List.setIfInBounds_toArray, List.set_cons_zero, List.set_cons_succ]
      refine wpAnyH_take (i := 17) (oi := { dst := some 34, op := Go.Op.move (Go.Operand.tmp 1), type := 31, pos := "ref.go:196", after := #[{ on := 11, ground := Go.Ground.guard }], guard := some (11, false) }) (v := ?_) rfl (by kernel_rfl) (by kernel_rfl) (by kernel_rfl) (fun _ _ _ h => h) (Or.inl ⟨by rfl, ?_⟩) hHeld ?_
      rotate_left 1
      · (intro w hSw; (try dsimp only at hSw); go_simp <;> with_reducible rfl)
      simp only [Act.put, List.setIfInBounds_toArray, List.set_cons_zero, List.set_cons_succ]
      refine wpAnyH_take (i := 18) (oi := { dst := some 35, op := Go.Op.move (Go.Operand.tmp 5), type := 3, pos := "ref.go:196", after := #[{ on := 11, ground := Go.Ground.guard }], guard := some (11, false) }) (v := ?_) rfl (by kernel_rfl) (by kernel_rfl) (by kernel_rfl) (fun _ _ _ h => h) (Or.inl ⟨by rfl, ?_⟩) hHeld ?_
      rotate_left 1
      · (intro w hSw; (try dsimp only at hSw); go_simp <;> with_reducible rfl)
      simp only [Act.put, List.setIfInBounds_toArray, List.set_cons_zero, List.set_cons_succ]
      refine wpAnyH_take (i := 19) (oi := { dst := some 36, op := Go.Op.indexAddr 31 (Go.Operand.tmp 34) (Go.Operand.tmp 35), type := 0, pos := "ref.go:196", after := #[{ on := 17, ground := Go.Ground.data }, { on := 18, ground := Go.Ground.data }, { on := 11, ground := Go.Ground.guard }], guard := some (11, false) }) (v := ?_) rfl (by kernel_rfl) (by kernel_rfl) (by kernel_rfl) (fun _ _ _ h => h) (Or.inl ⟨by rfl, ?_⟩) hHeld ?_
      rotate_left 1
      · (intro w hSw; (try dsimp only at hSw); go_simp <;> with_reducible rfl)
      simp only [Act.put, List.setIfInBounds_toArray, List.set_cons_zero, List.set_cons_succ]
      refine wpAnyH_take (i := 20) (oi := { dst := some 37, op := Go.Op.fieldAddr 58 (Go.Operand.tmp 36) 1, type := 0, pos := "ref.go:196", after := #[{ on := 19, ground := Go.Ground.data }, { on := 11, ground := Go.Ground.guard }], guard := some (11, false) }) (v := ?_) rfl (by kernel_rfl) (by kernel_rfl) (by kernel_rfl) (fun _ _ _ h => h) (Or.inl ⟨by rfl, ?_⟩) hHeld ?_
      rotate_left 1
      · (intro w hSw; (try dsimp only at hSw); go_simp <;> with_reducible rfl)
      simp only [Act.put, List.setIfInBounds_toArray, List.set_cons_zero, List.set_cons_succ]
      refine wpAnyH_take (i := 21) (oi := { dst := some 38, op := Go.Op.load 9 (Go.Operand.tmp 37), type := 9, pos := "ref.go:196", after := #[{ on := 20, ground := Go.Ground.data }, { on := 11, ground := Go.Ground.guard }], guard := some (11, false) }) (v := ?_) rfl (by kernel_rfl) (by kernel_rfl) (by kernel_rfl) (fun _ _ _ h => h) (Or.inl ⟨by rfl, ?_⟩) hHeld ?_
      rotate_left 1
      · (intro w hSw; (try dsimp only at hSw); go_simp <;> with_reducible rfl)
      simp only [Act.put, List.setIfInBounds_toArray, List.set_cons_zero, List.set_cons_succ]
      refine wpAnyH_take (i := 22) (oi := { dst := some 39, op := Go.Op.binOp Go.BinOp.neq 9 (Go.Operand.tmp 33) (Go.Operand.tmp 38) 9, type := 4, pos := "ref.go:196", after := #[{ on := 16, ground := Go.Ground.data }, { on := 21, ground := Go.Ground.data }, { on := 11, ground := Go.Ground.guard }], guard := some (11, false) }) (v := ?_) rfl (by kernel_rfl) (by kernel_rfl) (by kernel_rfl) (fun _ _ _ h => h) (Or.inl ⟨by rfl, ?_⟩) hHeld ?_
      rotate_left 1
      · (intro w hSw; (try dsimp only at hSw); go_simp <;> with_reducible rfl)
      simp only [Act.put, List.setIfInBounds_toArray, List.set_cons_zero, List.set_cons_succ]
      refine wpAnyH_take (i := 23) (oi := { dst := some 40, op := Go.Op.pick (Go.Operand.tmp 28) (Go.Operand.const (Go.Value.bool true)) (Go.Operand.tmp 39), type := 4, pos := "ref.go:196", after := #[{ on := 11, ground := Go.Ground.data }, { on := 22, ground := Go.Ground.data }], guard := none }) (v := ?_) rfl (by kernel_rfl) (by kernel_rfl) (by kernel_rfl) (fun _ _ _ h => h) (Or.inl ⟨by rfl, ?_⟩) hHeld ?_
      rotate_left 1
      · (intro w hSw; (try dsimp only at hSw); go_simp <;> with_reducible rfl)
      simp only [Act.put, List.setIfInBounds_toArray, List.set_cons_zero, List.set_cons_succ]
      refine wpAnyH_take (i := 24) (oi := { dst := some 41, op := Go.Op.move (Go.Operand.tmp 40), type := 4, pos := "ref.go:196", after := #[{ on := 23, ground := Go.Ground.data }, { on := 11, ground := Go.Ground.chain }], guard := none }) (v := ?_) rfl (by kernel_rfl) (by kernel_rfl) (by kernel_rfl) (fun _ _ _ h => h) (Or.inl ⟨by rfl, ?_⟩) hHeld ?_
      rotate_left 1
      · (intro w hSw; (try dsimp only at hSw); go_simp <;> with_reducible rfl)
      simp only [Act.put, List.setIfInBounds_toArray, List.set_cons_zero, List.set_cons_succ]
      refine wpAnyH_take (i := 25) (oi := { dst := some 42, op := Go.Op.move (Go.Operand.tmp 0), type := 31, pos := "ref.go:196", after := #[{ on := 24, ground := Go.Ground.guard }], guard := some (24, false) }) (v := ?_) rfl (by kernel_rfl) (by kernel_rfl) (by kernel_rfl) (fun _ _ _ h => h) (Or.inl ⟨by rfl, ?_⟩) hHeld ?_
      rotate_left 1
      · (intro w hSw; (try dsimp only at hSw); go_simp <;> with_reducible rfl)
      simp only [Act.put, List.setIfInBounds_toArray, List.set_cons_zero, List.set_cons_succ]
      refine wpAnyH_take (i := 26) (oi := { dst := some 43, op := Go.Op.move (Go.Operand.tmp 5), type := 3, pos := "ref.go:196", after := #[{ on := 24, ground := Go.Ground.guard }], guard := some (24, false) }) (v := ?_) rfl (by kernel_rfl) (by kernel_rfl) (by kernel_rfl) (fun _ _ _ h => h) (Or.inl ⟨by rfl, ?_⟩) hHeld ?_
      rotate_left 1
      · (intro w hSw; (try dsimp only at hSw); go_simp <;> with_reducible rfl)
      simp only [Act.put, List.setIfInBounds_toArray, List.set_cons_zero, List.set_cons_succ]
      refine wpAnyH_take (i := 27) (oi := { dst := some 44, op := Go.Op.indexAddr 31 (Go.Operand.tmp 42) (Go.Operand.tmp 43), type := 0, pos := "ref.go:196", after := #[{ on := 25, ground := Go.Ground.data }, { on := 26, ground := Go.Ground.data }, { on := 24, ground := Go.Ground.guard }], guard := some (24, false) }) (v := ?_) rfl (by kernel_rfl) (by kernel_rfl) (by kernel_rfl) (fun _ _ _ h => h) (Or.inl ⟨by rfl, ?_⟩) hHeld ?_
      rotate_left 1
      · (intro w hSw; (try dsimp only at hSw); go_simp <;> with_reducible rfl)
      simp only [Act.put, List.setIfInBounds_toArray, List.set_cons_zero, List.set_cons_succ]
      refine wpAnyH_take (i := 28) (oi := { dst := some 45, op := Go.Op.fieldAddr 58 (Go.Operand.tmp 44) 2, type := 0, pos := "ref.go:196", after := #[{ on := 27, ground := Go.Ground.data }, { on := 24, ground := Go.Ground.guard }], guard := some (24, false) }) (v := ?_) rfl (by kernel_rfl) (by kernel_rfl) (by kernel_rfl) (fun _ _ _ h => h) (Or.inl ⟨by rfl, ?_⟩) hHeld ?_
      rotate_left 1
      · (intro w hSw; (try dsimp only at hSw); go_simp <;> with_reducible rfl)
      simp only [Act.put, List.setIfInBounds_toArray, List.set_cons_zero, List.set_cons_succ]
      refine wpAnyH_take (i := 29) (oi := { dst := some 46, op := Go.Op.load 27 (Go.Operand.tmp 45), type := 27, pos := "ref.go:196", after := #[{ on := 28, ground := Go.Ground.data }, { on := 24, ground := Go.Ground.guard }], guard := some (24, false) }) (v := _) rfl (by kernel_rfl) (by kernel_rfl) (by kernel_rfl) (fun _ _ _ h => h) (yieldsIf_load_mid (by rfl) 27 _ rfl B (o + j * 7 + 2) rfl [.int .i64 k1, .int .i64 y1, .int .u64 z1, .string t1, .slice a1 m1 c1] _ (fun w h => h.2.2.2.2.1) Try.underlying27 rfl (by kernel_rfl)) hHeld ?_
      simp only [Act.put, List.setIfInBounds_toArray, List.set_cons_zero, List.set_cons_succ]
      refine wpAnyH_take (i := 30) (oi := { dst := some 47, op := Go.Op.move (Go.Operand.tmp 1), type := 31, pos := "ref.go:196", after := #[{ on := 24, ground := Go.Ground.guard }], guard := some (24, false) }) (v := ?_) rfl (by kernel_rfl) (by kernel_rfl) (by kernel_rfl) (fun _ _ _ h => h) (Or.inl ⟨by rfl, ?_⟩) hHeld ?_
      rotate_left 1
      · (intro w hSw; (try dsimp only at hSw); go_simp <;> with_reducible rfl)
      simp only [Act.put, List.setIfInBounds_toArray, List.set_cons_zero, List.set_cons_succ]
      refine wpAnyH_take (i := 31) (oi := { dst := some 48, op := Go.Op.move (Go.Operand.tmp 5), type := 3, pos := "ref.go:196", after := #[{ on := 24, ground := Go.Ground.guard }], guard := some (24, false) }) (v := ?_) rfl (by kernel_rfl) (by kernel_rfl) (by kernel_rfl) (fun _ _ _ h => h) (Or.inl ⟨by rfl, ?_⟩) hHeld ?_
      rotate_left 1
      · (intro w hSw; (try dsimp only at hSw); go_simp <;> with_reducible rfl)
      simp only [Act.put, List.setIfInBounds_toArray, List.set_cons_zero, List.set_cons_succ]
      refine wpAnyH_take (i := 32) (oi := { dst := some 49, op := Go.Op.indexAddr 31 (Go.Operand.tmp 47) (Go.Operand.tmp 48), type := 0, pos := "ref.go:196", after := #[{ on := 30, ground := Go.Ground.data }, { on := 31, ground := Go.Ground.data }, { on := 24, ground := Go.Ground.guard }], guard := some (24, false) }) (v := ?_) rfl (by kernel_rfl) (by kernel_rfl) (by kernel_rfl) (fun _ _ _ h => h) (Or.inl ⟨by rfl, ?_⟩) hHeld ?_
      rotate_left 1
      · (intro w hSw; (try dsimp only at hSw); go_simp <;> with_reducible rfl)
      simp only [Act.put, List.setIfInBounds_toArray, List.set_cons_zero, List.set_cons_succ]
      refine wpAnyH_take (i := 33) (oi := { dst := some 50, op := Go.Op.fieldAddr 58 (Go.Operand.tmp 49) 2, type := 0, pos := "ref.go:196", after := #[{ on := 32, ground := Go.Ground.data }, { on := 24, ground := Go.Ground.guard }], guard := some (24, false) }) (v := ?_) rfl (by kernel_rfl) (by kernel_rfl) (by kernel_rfl) (fun _ _ _ h => h) (Or.inl ⟨by rfl, ?_⟩) hHeld ?_
      rotate_left 1
      · (intro w hSw; (try dsimp only at hSw); go_simp <;> with_reducible rfl)
      simp only [Act.put, List.setIfInBounds_toArray, List.set_cons_zero, List.set_cons_succ]
      refine wpAnyH_take (i := 34) (oi := { dst := some 51, op := Go.Op.load 27 (Go.Operand.tmp 50), type := 27, pos := "ref.go:196", after := #[{ on := 33, ground := Go.Ground.data }, { on := 24, ground := Go.Ground.guard }], guard := some (24, false) }) (v := _) rfl (by kernel_rfl) (by kernel_rfl) (by kernel_rfl) (fun _ _ _ h => h) (yieldsIf_load_mid (by rfl) 27 _ rfl B2 (o2 + j * 7 + 2) rfl [.int .i64 k2, .int .i64 y2, .int .u64 z2, .string t2, .slice a2 m2 c2] _ (fun w h => h.2.2.2.2.2) Try.underlying27 rfl (by kernel_rfl)) hHeld ?_
      simp only [Act.put, List.setIfInBounds_toArray, List.set_cons_zero, List.set_cons_succ]
      refine wpAnyH_ready (rs := [35]) (by kernel_rfl) (by simp) ?_
      refine AllReadyH.cons (o := { dst := some 52, op := Go.Op.call { callee := Go.Callee.value (Go.Operand.func 30), args := #[Go.Operand.tmp 46, Go.Operand.tmp 51], argTypes := #[27, 27] }, type := 4, pos := "ref.go:196", after := #[{ on := 29, ground := Go.Ground.data }, { on := 34, ground := Go.Ground.data }, { on := 24, ground := Go.Ground.chain }, { on := 24, ground := Go.Ground.guard }], guard := some (24, false) }) rfl (fun K hK => ?_) AllReadyH.nil
      go_simp
      refine (KS.out _ (Below.refl _ wr).drew).mono ?_
      rintro e w3 ⟨rfl, hb3⟩
      have HB3 : Hid (Below wr.heap.size wr w3) := (Below.refl _ wr).drew.trans hb3
      clear hb3 hHeld
      refine hK.out _ _ (HS.out _ HB3.out) (fun hHeld => ?_)
      clear hK K
      refine wpAnyH_take (i := 36) (oi := { dst := some 53, op := Go.Op.unOp Go.UnOp.not 4 (Go.Operand.tmp 52), type := 4, pos := "ref.go:196", after := #[{ on := 35, ground := Go.Ground.data }, { on := 24, ground := Go.Ground.guard }], guard := some (24, false) }) (v := ?_) rfl (by kernel_rfl) (by kernel_rfl) (by kernel_rfl) (fun _ _ _ h => h) (Or.inl ⟨by rfl, ?_⟩) hHeld ?_
      rotate_left 1
      · (intro w hSw; (try dsimp only at hSw); go_simp <;> with_reducible rfl)
      simp only [Act.put, List.setIfInBounds_toArray, List.set_cons_zero, List.set_cons_succ]
      refine wpAnyH_take (i := 37) (oi := { dst := some 54, op := Go.Op.pick (Go.Operand.tmp 41) (Go.Operand.const (Go.Value.bool true)) (Go.Operand.tmp 53), type := 4, pos := "ref.go:196", after := #[{ on := 24, ground := Go.Ground.data }, { on := 36, ground := Go.Ground.data }], guard := none }) (v := ?_) rfl (by kernel_rfl) (by kernel_rfl) (by kernel_rfl) (fun _ _ _ h => h) (Or.inl ⟨by rfl, ?_⟩) hHeld ?_
      rotate_left 1
      · (intro w hSw; (try dsimp only at hSw); go_simp <;> with_reducible rfl)
      simp only [Act.put, List.setIfInBounds_toArray, List.set_cons_zero, List.set_cons_succ]
      refine wpAnyH_done (by kernel_rfl) ?_ _
      go_wp2_with fail
      exact ⟨⟨j + 1, hlt, by first | rw [HW.out] | exact congrArg _ (Int.natCast_succ j).symm, bel2 HB.out HB3.out⟩, by first | exact meas hlt HW.out | exact meas hlt (Int.natCast_succ j).symm⟩
    · obtain rfl : j = N := by omega
      go_wp2_with fail
      go_ret
      exact ⟨rfl, HB.out⟩
set_option maxHeartbeats 8000000 in
set_option maxRecDepth 100000 in
theorem updates_calls (n : Nat) (a : Option Addr) (c N : Nat) (ws : List Wt) (hN : ws.length = N) (hl : N ≤ 900) (flow : ByteArray) (run : Int) (w : World) (hR : LsW w n a ws) (hs : ∀ x ∈ ws, SmX n x) :
    Calls Try.prog 14 #[.slice a N c, .string flow, .int .i64 run] w (RetA n w (ws.foldl (updF flow run) [])) := by
  have HR : Hid (LsW w n a ws) := hR
  have HS : Hid (∀ x ∈ ws, SmX n x) := hs
  have HN : Hid (ws.length = N) := hN
  have HL : Hid (N ≤ 900) := hl
  have HQ : Hid (∀ v W', GrA w.heap.size n W' v (ws.foldl (updF flow run) []) → Below w.heap.size w W' → RetA n w (ws.foldl (updF flow run) []) (.returned v) W') := fun v W' h hb => h.ret hb
  generalize RetA n w (ws.foldl (updF flow run) []) = Q at HQ ⊢
  clear hR hs hN hl
  go_enter Try.func14, Try.ntmps14
  go_wp2_with fail
  go_loopw [7, 13] (fun v i wr => ∃ j : Nat, j ≤ N ∧ i = .int .i64 (j : Int) ∧ Hid (GrA w.heap.size n wr v ((ws.take j).foldl (updF flow run) [])) ∧ Hid (Below w.heap.size w wr)) (fun _ i _ => N - (intOf i).toNat)
  case atStart => exact ⟨0, Nat.zero_le _, rfl, GrA.nil _ _ _, Below.refl _ _⟩
  case round =>
    obtain ⟨j, hj, rfl, HG, HB⟩ := hrel
    obtain ⟨va, vc, hva, _, _⟩ := HG.out.shape
    have hlen := fold_len (updF_len flow run) (ws.take j) []
    have HLn : Hid (((ws.take j).foldl (updF flow run) []).length ≤ 900) := by
      show _ ≤ _
      have := HL.out
      simp only [List.length_nil, List.length_take] at hlen
      omega
    have HSN : Hid (∀ x, ws[j]? = some x → (ws.take (j + 1)).foldl (updF flow run) [] = updF flow run ((ws.take j).foldl (updF flow run) []) x) := fun x hx => fold_snoc hx
    clear hlen
    by_cases hlt : j < N
    · generalize hacc : (ws.take j).foldl (updF flow run) [] = acc at HG hva HLn HSN
      generalize hvl : acc.length = vl at hva
      have HVL : Hid (acc.length = vl) := hvl
      subst hva
      clear hvl hacc
      obtain ⟨x, hx⟩ : ∃ x, ws[j]? = some x := ⟨_, List.getElem?_eq_getElem (by rw [HN.out]; exact hlt)⟩
      obtain ⟨B, o, cs, rfl, hli, hi⟩ := (HR.out.below HB.out) j x hx
      have HX : Hid (ws[j]? = some x) := hx
      have HNX : Hid (∀ (v : Value) (W : World), GrA w.heap.size n W v (updF flow run acc x) → Hid (GrA w.heap.size n W v ((ws.take (j + 1)).foldl (updF flow run) []))) := fun v W h => by rw [HSN.out x hx]; exact h
      have HSX : Hid (SmX n x) := HS.out x (List.mem_of_getElem? hx)
      have hrng := lies_range hli
      have hi29 : (Try.prog.info? 29).map (·.size) = some cs.toList.length := by rw [Array.length_toList]; exact info29s cs hi.size
      have hjl : (j : Int) < (N : Int) := by omega
      have HW : Hid (wrap64 ((j : Int) + 1) = ((j + 1 : Nat) : Int)) := wr1 hlt (by have := HL.out; omega)
      have HP : Hid (0 < wr.heap.size) := by have := cell_lt (hli 0 _ hi.c0); show _ < _; omega
      have HI : Hid (IsW (Is wr n) cs x) := hi
      clear hx hi hli HSN
      have hi29' := info29s cs HI.out.size
      have ho : zW.size = cs.size := HI.out.size.symm
      have h1 := all_one HI.out.one
      have hz : (wr.alloc (.cells zW 29)).heap[wr.heap.size]? = some (.cells zW 29 (0, 0)) := heap_alloc_new wr _
      go_upto_region 5 with (first
        | refine wpList_load_mid rfl 29 _ rfl B (o + j * 19) rfl cs.toList _ hrng Try.underlying29 rfl hi29 ?_
        | refine wpList_store_row rfl 29 _ _ rfl wr.heap.size cs rfl rfl 29 zW hz hi29' ho h1 ?_)
      rw [World.setRow_alloc_new]
      have HBa : Hid (Below wr.heap.size wr (wr.alloc (.cells cs 29))) := bel1 wr _
      have hrow : (wr.alloc (.cells cs 29)).heap[wr.heap.size]? = some (.cells cs 29 (0, 0)) := heap_alloc_new wr _
      have e16 : (wr.alloc (.cells cs 29)).cell? ⟨wr.heap.size, 16, none⟩ = some (.bool x.query) := row_cell hrow HI.out.c16
      have HSa : Hid ((wr.alloc (.cells cs 29)).heap.size = wr.heap.size + 1) := by show _ = _; simp
      generalize wr.alloc (.cells cs 29) = Wa at HBa hrow e16 HSa ⊢
      clear hz ho h1 hi29 hrng
      have KO : Hid (Calls Try.prog 36 #[.agg cs, .string flow, .int .i64 run] Wa fun e w' => e = .returned (.bool (opn x flow run)) ∧ Below Wa.heap.size Wa w') := open_calls cs x HI.out flow run Wa
      cases hqq : x.query with
      | true =>
        rw [hqq] at e16
        have HFx : Hid (updF flow run acc x = acc) := by show _ = _; unfold updF ofB; rw [hqq]; rfl
        have HBs : Hid (Below w.heap.size w Wa) := bel2 HB.out HBa.out
        have HGs : Hid (GrA w.heap.size n Wa (.slice va vl vc) (updF flow run acc x)) := by rw [HFx.out]; exact HG.out.below HBa.out
        go_wp2_with fail
        exact ⟨⟨j + 1, hlt, by first | rw [HW.out] | exact congrArg _ (Int.natCast_succ j).symm, HNX.out _ _ HGs.out, HBs⟩, by first | exact meas hlt HW.out | exact meas hlt (Int.natCast_succ j).symm⟩
      | false =>
        rw [hqq] at e16
        generalize hzz : opn x flow run = z at KO
        have HOF : Hid (ofB x flow run false = z) := by show _ = _; unfold ofB; rw [hqq, hzz]; rfl
        clear hqq hzz
        go_wp2_with (refine wpList_load_rowG (by rfl) 29 _ rfl wr.heap.size rfl 29 cs (0, 0) _ hrow Try.underlying29 rfl hi29' ?_)
        refine KO.out.mono ?_
        rintro e w3 ⟨rfl, hb3⟩
        have HB3 : Hid (Below wr.heap.size wr w3) := bel2 HBa.out hb3
        have hrow3 : w3.heap[wr.heap.size]? = some (.cells cs 29 (0, 0)) := row_below hb3 hrow
        clear hb3 KO hrow e16
        cases z with
        | false =>
          have HFx : Hid (updF flow run acc x = acc) := by show _ = _; unfold updF; rw [HOF.out]; rfl
          have HBs : Hid (Below w.heap.size w w3) := bel2 HB.out HB3.out
          have HGs : Hid (GrA w.heap.size n w3 (.slice va vl vc) (updF flow run acc x)) := by rw [HFx.out]; exact HG.out.below HB3.out
          go_wp2_with fail
          exact ⟨⟨j + 1, hlt, by first | rw [HW.out] | exact congrArg _ (Int.natCast_succ j).symm, HNX.out _ _ HGs.out, HBs⟩, by first | exact meas hlt HW.out | exact meas hlt (Int.natCast_succ j).symm⟩
        | true =>
          have KC : Hid (Calls Try.prog 37 #[.slice va vl vc, .func (.func 35) #[] #[.pointer (some ⟨wr.heap.size, 0, none⟩)]] w3 fun e w' => e = .returned (.bool (acc.any fun d => decide (d.s = x.name))) ∧ Below w3.heap.size w3 w') := contains_calls n acc va vl vc HVL.out (by have := HLn.out; have := HVL.out; omega) wr.heap.size x.name w3 ((HG.out.below HB3.out).lsv HVL.out) (row_cell hrow3 HI.out.c5)
          generalize hyy : (acc.any fun d => decide (d.s = x.name)) = y at KC
          have HYY : Hid ((acc.any fun d => decide (d.s = x.name)) = y) := hyy
          clear hyy
          go_wp2_with fail
          refine KC.out.mono ?_
          rintro e w5 ⟨rfl, hb5⟩
          have HB5 : Hid (Below wr.heap.size wr w5) := bel2 HB3.out hb5
          have hrow5 : w5.heap[wr.heap.size]? = some (.cells cs 29 (0, 0)) := row_below hb5 hrow3
          clear hb5 KC hrow3
          cases y with
          | true =>
            have HFx : Hid (updF flow run acc x = acc) := by show _ = _; unfold updF; rw [HOF.out, HYY.out]; rfl
            have HBs : Hid (Below w.heap.size w w5) := bel2 HB.out HB5.out
            have HGs : Hid (GrA w.heap.size n w5 (.slice va vl vc) (updF flow run acc x)) := by rw [HFx.out]; exact HG.out.below HB5.out
            go_wp2_with fail
            exact ⟨⟨j + 1, hlt, by first | rw [HW.out] | exact congrArg _ (Int.natCast_succ j).symm, HNX.out _ _ HGs.out, HBs⟩, by first | exact meas hlt HW.out | exact meas hlt (Int.natCast_succ j).symm⟩
          | false =>
            have KA : Hid (Calls Try.prog 38 #[.agg cs] w5 (AkP n w5 x)) := ask_calls n cs x w5 (HI.out.map fun _ _ h => h.below HB5.out) HSX.out
            go_wp2_with (refine wpList_load_row rfl 29 _ rfl wr.heap.size rfl 29 cs (0, 0) _ hrow5 Try.underlying29 rfl hi29' ?_)
            refine KA.out.mono ?_
            rintro e w6 ⟨⟨us, rfl, hi6⟩, hb6⟩
            have hsl := slice1A us hi6.size w6
            have HB6 : Hid (Below wr.heap.size wr w6) := bel2 HB5.out hb6
            have HI6 : Hid (IsA (IsN w5.heap.size w6 n) us (akOf x)) := hi6
            clear hb6 hi6 KA hrow5
            have HFx : Hid (updF flow run acc x = acc ++ [akOf x]) := by show _ = _; unfold updF; rw [HOF.out, HYY.out]; rfl
            obtain ⟨a9, c9, w9, hrun, hg9, hb9, _⟩ := HG.out.push HB.out.size HB6.out (b := w5.heap.size) HB5.out.size (by have := HB5.out.size; have := HP.out; omega) HI6.out (by have := HLn.out; omega)
            rw [← HFx.out, HVL.out] at hg9
            rw [HVL.out] at hrun
            have HRun : Hid (∀ ty, _) := hrun
            have HG9 : Hid (GrA w.heap.size n w9 (.slice a9 (vl + 1) c9) (updF flow run acc x)) := hg9
            have HB9 : Hid (Below w.heap.size w w9) := HB.out.trans hb9
            clear hrun hg9 hb9 HG
            go_wp2_with (first | refine wpList_slice_run rfl 31 _ rfl (.agg us) rfl _ _ hsl ?_ | (at_builtin; refine Lib.wpList_append_run _ rfl _ _ 31 31 rfl _ _ rfl rfl _ _ (HRun.out _) ?_))
            exact ⟨⟨j + 1, hlt, by first | rw [HW.out] | exact congrArg _ (Int.natCast_succ j).symm, HNX.out _ _ HG9.out, HB9⟩, by first | exact meas hlt HW.out | exact meas hlt (Int.natCast_succ j).symm⟩
    · obtain rfl : j = N := by omega
      have ht : ws.take j = ws := List.take_of_length_le (by rw [HN.out]; exact Nat.le_refl _)
      generalize hvl : ((ws.take j).foldl (updF flow run) []).length = vl at hva
      subst hva
      have HG1 : Hid (GrA w.heap.size n wr (.slice va vl vc) (ws.foldl (updF flow run) [])) := by have h := HG.out; rw [ht] at h; exact h
      clear ht HG hvl HLn HSN
      go_wp2_with fail
      exact HQ.out _ _ HG1.out HB.out
set_option maxHeartbeats 8000000 in
set_option maxRecDepth 100000 in
theorem queries_calls (n : Nat) (a : Option Addr) (c N : Nat) (ws : List Wt) (hN : ws.length = N) (hl : N ≤ 900) (flow : ByteArray) (run : Int) (w : World) (hR : LsW w n a ws) (hs : ∀ x ∈ ws, SmX n x) :
    Calls Try.prog 16 #[.slice a N c, .string flow, .int .i64 run] w (RetA n w (ws.foldl (qryF flow run) [])) := by
  have HR : Hid (LsW w n a ws) := hR
  have HS : Hid (∀ x ∈ ws, SmX n x) := hs
  have HN : Hid (ws.length = N) := hN
  have HL : Hid (N ≤ 900) := hl
  have HQ : Hid (∀ v W', GrA w.heap.size n W' v (ws.foldl (qryF flow run) []) → Below w.heap.size w W' → RetA n w (ws.foldl (qryF flow run) []) (.returned v) W') := fun v W' h hb => h.ret hb
  generalize RetA n w (ws.foldl (qryF flow run) []) = Q at HQ ⊢
  clear hR hs hN hl
  go_enter Try.func16, Try.ntmps16
  go_wp2_with fail
  go_loopw [7, 12] (fun v i wr => ∃ j : Nat, j ≤ N ∧ i = .int .i64 (j : Int) ∧ Hid (GrA w.heap.size n wr v ((ws.take j).foldl (qryF flow run) [])) ∧ Hid (Below w.heap.size w wr)) (fun _ i _ => N - (intOf i).toNat)
  case atStart => exact ⟨0, Nat.zero_le _, rfl, GrA.nil _ _ _, Below.refl _ _⟩
  case round =>
    obtain ⟨j, hj, rfl, HG, HB⟩ := hrel
    obtain ⟨va, vc, hva, _, _⟩ := HG.out.shape
    have hlen := fold_len (qryF_len flow run) (ws.take j) []
    have HLn : Hid (((ws.take j).foldl (qryF flow run) []).length ≤ 900) := by
      show _ ≤ _
      have := HL.out
      simp only [List.length_nil, List.length_take] at hlen
      omega
    have HSN : Hid (∀ x, ws[j]? = some x → (ws.take (j + 1)).foldl (qryF flow run) [] = qryF flow run ((ws.take j).foldl (qryF flow run) []) x) := fun x hx => fold_snoc hx
    clear hlen
    by_cases hlt : j < N
    · generalize hacc : (ws.take j).foldl (qryF flow run) [] = acc at HG hva HLn HSN
      generalize hvl : acc.length = vl at hva
      have HVL : Hid (acc.length = vl) := hvl
      subst hva
      clear hvl hacc
      obtain ⟨x, hx⟩ : ∃ x, ws[j]? = some x := ⟨_, List.getElem?_eq_getElem (by rw [HN.out]; exact hlt)⟩
      obtain ⟨B, o, cs, rfl, hli, hi⟩ := (HR.out.below HB.out) j x hx
      have HX : Hid (ws[j]? = some x) := hx
      have HNX : Hid (∀ (v : Value) (W : World), GrA w.heap.size n W v (qryF flow run acc x) → Hid (GrA w.heap.size n W v ((ws.take (j + 1)).foldl (qryF flow run) []))) := fun v W h => by rw [HSN.out x hx]; exact h
      have HSX : Hid (SmX n x) := HS.out x (List.mem_of_getElem? hx)
      have hrng := lies_range hli
      have hi29 : (Try.prog.info? 29).map (·.size) = some cs.toList.length := by rw [Array.length_toList]; exact info29s cs hi.size
      have hjl : (j : Int) < (N : Int) := by omega
      have HW : Hid (wrap64 ((j : Int) + 1) = ((j + 1 : Nat) : Int)) := wr1 hlt (by have := HL.out; omega)
      have HP : Hid (0 < wr.heap.size) := by have := cell_lt (hli 0 _ hi.c0); show _ < _; omega
      have HI : Hid (IsW (Is wr n) cs x) := hi
      clear hx hi hli HSN
      have hi29' := info29s cs HI.out.size
      have ho : zW.size = cs.size := HI.out.size.symm
      have h1 := all_one HI.out.one
      have hz : (wr.alloc (.cells zW 29)).heap[wr.heap.size]? = some (.cells zW 29 (0, 0)) := heap_alloc_new wr _
      go_upto_region 5 with (first
        | refine wpList_load_mid rfl 29 _ rfl B (o + j * 19) rfl cs.toList _ hrng Try.underlying29 rfl hi29 ?_
        | refine wpList_store_row rfl 29 _ _ rfl wr.heap.size cs rfl rfl 29 zW hz hi29' ho h1 ?_)
      rw [World.setRow_alloc_new]
      have HBa : Hid (Below wr.heap.size wr (wr.alloc (.cells cs 29))) := bel1 wr _
      have hrow : (wr.alloc (.cells cs 29)).heap[wr.heap.size]? = some (.cells cs 29 (0, 0)) := heap_alloc_new wr _
      have e16 : (wr.alloc (.cells cs 29)).cell? ⟨wr.heap.size, 16, none⟩ = some (.bool x.query) := row_cell hrow HI.out.c16
      have HSa : Hid ((wr.alloc (.cells cs 29)).heap.size = wr.heap.size + 1) := by show _ = _; simp
      generalize wr.alloc (.cells cs 29) = Wa at HBa hrow e16 HSa ⊢
      clear hz ho h1 hi29 hrng
      have KO : Hid (Calls Try.prog 36 #[.agg cs, .string flow, .int .i64 run] Wa fun e w' => e = .returned (.bool (opn x flow run)) ∧ Below Wa.heap.size Wa w') := open_calls cs x HI.out flow run Wa
      cases hqq : x.query with
      | false =>
        rw [hqq] at e16
        have HFx : Hid (qryF flow run acc x = acc) := by show _ = _; unfold qryF ofB; rw [hqq]; rfl
        have HBs : Hid (Below w.heap.size w Wa) := bel2 HB.out HBa.out
        have HGs : Hid (GrA w.heap.size n Wa (.slice va vl vc) (qryF flow run acc x)) := by rw [HFx.out]; exact HG.out.below HBa.out
        go_wp2_with fail
        exact ⟨⟨j + 1, hlt, by first | rw [HW.out] | exact congrArg _ (Int.natCast_succ j).symm, HNX.out _ _ HGs.out, HBs⟩, by first | exact meas hlt HW.out | exact meas hlt (Int.natCast_succ j).symm⟩
      | true =>
        rw [hqq] at e16
        generalize hzz : opn x flow run = z at KO
        have HOF : Hid (ofB x flow run true = z) := by show _ = _; unfold ofB; rw [hqq, hzz]; rfl
        clear hqq hzz
        go_wp2_with (refine wpList_load_rowG (by rfl) 29 _ rfl wr.heap.size rfl 29 cs (0, 0) _ hrow Try.underlying29 rfl hi29' ?_)
        refine KO.out.mono ?_
        rintro e w5 ⟨rfl, hb5⟩
        have HB5 : Hid (Below wr.heap.size wr w5) := bel2 HBa.out hb5
        have hrow5 : w5.heap[wr.heap.size]? = some (.cells cs 29 (0, 0)) := row_below hb5 hrow
        clear hb5 KO hrow e16
        cases z with
        | false =>
          have HFx : Hid (qryF flow run acc x = acc) := by show _ = _; unfold qryF; rw [HOF.out]; rfl
          have HBs : Hid (Below w.heap.size w w5) := bel2 HB.out HB5.out
          have HGs : Hid (GrA w.heap.size n w5 (.slice va vl vc) (qryF flow run acc x)) := by rw [HFx.out]; exact HG.out.below HB5.out
          go_wp2_with fail
          exact ⟨⟨j + 1, hlt, by first | rw [HW.out] | exact congrArg _ (Int.natCast_succ j).symm, HNX.out _ _ HGs.out, HBs⟩, by first | exact meas hlt HW.out | exact meas hlt (Int.natCast_succ j).symm⟩
        | true =>
          have KA : Hid (Calls Try.prog 38 #[.agg cs] w5 (AkP n w5 x)) := ask_calls n cs x w5 (HI.out.map fun _ _ h => h.below HB5.out) HSX.out
          go_wp2_with (refine wpList_load_row rfl 29 _ rfl wr.heap.size rfl 29 cs (0, 0) _ hrow5 Try.underlying29 rfl hi29' ?_)
          refine KA.out.mono ?_
          rintro e w6 ⟨⟨us, rfl, hi6⟩, hb6⟩
          have hsl := slice1A us hi6.size w6
          have HB6 : Hid (Below wr.heap.size wr w6) := bel2 HB5.out hb6
          have HI6 : Hid (IsA (IsN w5.heap.size w6 n) us (akOf x)) := hi6
          clear hb6 hi6 KA hrow5
          have HFx : Hid (qryF flow run acc x = acc ++ [akOf x]) := by show _ = _; unfold qryF; rw [HOF.out]; rfl
          obtain ⟨a9, c9, w9, hrun, hg9, hb9, _⟩ := HG.out.push HB.out.size HB6.out (b := w5.heap.size) HB5.out.size (by have := HB5.out.size; have := HP.out; omega) HI6.out (by have := HLn.out; omega)
          rw [← HFx.out, HVL.out] at hg9
          rw [HVL.out] at hrun
          have HRun : Hid (∀ ty, _) := hrun
          have HG9 : Hid (GrA w.heap.size n w9 (.slice a9 (vl + 1) c9) (qryF flow run acc x)) := hg9
          have HB9 : Hid (Below w.heap.size w w9) := HB.out.trans hb9
          clear hrun hg9 hb9 HG
          go_wp2_with (first | refine wpList_slice_run rfl 31 _ rfl (.agg us) rfl _ _ hsl ?_ | (at_builtin; refine Lib.wpList_append_run _ rfl _ _ 31 31 rfl _ _ rfl rfl _ _ (HRun.out _) ?_))
          exact ⟨⟨j + 1, hlt, by first | rw [HW.out] | exact congrArg _ (Int.natCast_succ j).symm, HNX.out _ _ HG9.out, HB9⟩, by first | exact meas hlt HW.out | exact meas hlt (Int.natCast_succ j).symm⟩
    · obtain rfl : j = N := by omega
      have ht : ws.take j = ws := List.take_of_length_le (by rw [HN.out]; exact Nat.le_refl _)
      generalize hvl : ((ws.take j).foldl (qryF flow run) []).length = vl at hva
      subst hva
      have HG1 : Hid (GrA w.heap.size n wr (.slice va vl vc) (ws.foldl (qryF flow run) [])) := by have h := HG.out; rw [ht] at h; exact h
      clear ht HG hvl HLn HSN
      go_wp2_with fail
      exact HQ.out _ _ HG1.out HB.out
end Go.Proofs.Ytocjgcjechhehaa
