/- The contract of the reference's Same, of two states that are the same. -/
import Derived.Test.YthhnfeeakdnncaaSQ
import Derived.Test.YthhnfeeakdnncaaVB
import Derived.Laws.StructEq
namespace Go.Proofs.Ythhnfeeakdnncaa
open Go.ChangeShapes Go.WideShapes Go.ChangeAt Go.RowKit
theorem tm_base {ok : Nat → Prop} {w : World} {a : Option Addr} {l : List Tm} (h : RowS ok w a 2 (l.map Tm.cells)) {j : Nat} {tt : Tm} (hj : l[j]? = some tt) : ∃ B o, a = some ⟨B, o, none⟩ ∧ w.rangeAt B (o + j * 2) [.string tt.s, .int .i64 tt.d] := by
  obtain ⟨_, _, B, o, ha, _, hl⟩ := h j tt.cells (by rw [List.getElem?_map, hj]; rfl)
  exact ⟨B, o, ha, lies_range hl⟩
theorem hi38 (a b : Value) : (Try.prog.info? 38).map (·.size) = some [a, b].length := by kernel_rfl
set_option maxHeartbeats 4000000 in
set_option maxRecDepth 100000 in
theorem ssame_calls (n : Nat) (cs ds : Array Value) (s : Sta) (w : World) (h : Rs w n cs s) (k : Rs w n ds s) (ht : s.tm.length ≤ 1000) (hu : s.up.length ≤ 1000) :
    Calls Try.prog 7 #[.agg cs, .agg ds] w fun e w' => e = .returned (.bool true) ∧ Below w.heap.size w w' := by
  obtain ⟨k1, x1, b1, s1, a1, m1, c1, i1, i2, i3, i4, i5, iv⟩ := h.inp
  obtain ⟨k2, x2, b2, s2, a2, m2, c2, j1, j2, j3, j4, j5, jv⟩ := h.res
  obtain ⟨k3, x3, b3, s3, a3, m3, c3, p1, p2, p3, p4, p5, pv⟩ := k.inp
  obtain ⟨k4, x4, b4, s4, a4, m4, c4, q1, q2, q3, q4, q5, qv⟩ := k.res
  obtain ⟨ta, tc, t1, t2⟩ := h.tm
  obtain ⟨ta2, tc2, t3, t4⟩ := k.tm
  obtain ⟨ua, uc, us, u1, u2, u3, u4⟩ := h.up
  obtain ⟨ua2, uc2, us2, u5, u6, u7, u8⟩ := k.up
  have KI : Hid (∀ W, Below w.heap.size w W → _) := fun W hB => rsame_calls n _ _ _ _ W (iv.below hB) (pv.below hB)
  have KR : Hid (∀ W, Below w.heap.size w W → _) := fun W hB => rsame_calls n _ _ _ _ W (jv.below hB) (qv.below hB)
  have HT2 : Hid (RowS (fun _ => True) w ta 2 (s.tm.map Tm.cells)) := t2
  have HT4 : Hid (RowS (fun _ => True) w ta2 2 (s.tm.map Tm.cells)) := t4
  have HU2 : Hid (us.length = s.up.length ∧ us2.length = s.up.length) := ⟨u2, u6⟩
  have HU3 : Hid (RowS (fun _ => True) w ua 12 us) := u3
  have HU7 : Hid (RowS (fun _ => True) w ua2 12 us2) := u7
  have HU4 : Hid (∀ (i : Nat) r u, us[i]? = some r → s.up[i]? = some u → IsU (Is w n) r u) := u4
  have HU8 : Hid (∀ (i : Nat) r u, us2[i]? = some r → s.up[i]? = some u → IsU (Is w n) r u) := u8
  have HT : Hid (s.tm.length ≤ 1000) := ht
  have HU : Hid (s.up.length ≤ 1000) := hu
  have e0 := h.c0
  have e1 := h.c1
  have e2 := h.c2
  have e3 := h.c3
  have e4 := h.c4
  have e5 := h.c5
  have e6 := h.c6
  have e7 := h.c7
  have e13 := h.c13
  have e14 := h.c14
  have e15 := h.c15
  have e16 := h.c16
  have e17 := h.c17
  have e18 := h.c18
  have e19 := h.c19
  have e20 := h.c20
  have e21 := h.c21
  have e22 := h.c22
  have e30 := h.c30
  have f0 := k.c0
  have f1 := k.c1
  have f2 := k.c2
  have f3 := k.c3
  have f4 := k.c4
  have f5 := k.c5
  have f6 := k.c6
  have f7 := k.c7
  have f13 := k.c13
  have f14 := k.c14
  have f15 := k.c15
  have f16 := k.c16
  have f17 := k.c17
  have f18 := k.c18
  have f19 := k.c19
  have f20 := k.c20
  have f21 := k.c21
  have f22 := k.c22
  have f30 := k.c30
  clear iv jv pv qv t2 t4 u2 u6 u3 u7 u4 u8 ht hu h k
  go_enter Try.func7, Try.ntmps7
  go_wp2_with fail
  refine (KI.out _ (bel2 (bel1 _ _) (bel1 _ _))).mono ?_
  rintro e w1 ⟨⟨r1, rfl, hr1⟩, hb1⟩
  obtain rfl := hr1.2 trivial
  have G1 : Hid (w1.heap[w.heap.size]? = some (.cells cs 33 (0, 0))) := row_below hb1 (heap_alloc2_old _ _ _)
  have D1 : Hid (w1.heap[w.heap.size + 1]? = some (.cells ds 33 (0, 0))) := row_below hb1 (heap_alloc2_new _ _ _)
  have B1 : Hid (Below w.heap.size w w1) := bel2 (bel2 (bel1 _ _) (bel1 _ _)) hb1
  have g1 : ∀ j, w1.cell? ⟨w.heap.size, j, none⟩ = cs[j]? := fun j => cell_of_row w1 _ j cs 33 (0, 0) G1.out
  have d1 : ∀ j, w1.cell? ⟨w.heap.size + 1, j, none⟩ = ds[j]? := fun j => cell_of_row w1 _ j ds 33 (0, 0) D1.out
  clear hr1 hb1 KI e0 f0 e1 f1 e2 f2 e3 f3 e4 f4 e5 f5 e6 f6 e7 f7 e13 f13 e14 f14 e15 f15 e16 f16 e17 f17 e18 f18 e19 f19 e20 f20 e21 f21 e22 f22 e30 f30 i1 i2 i3 i4 i5 p1 p2 p3 p4 p5
  go_wp2_with fail
  refine (KR.out _ B1.out).mono ?_
  rintro e w2 ⟨⟨r2, rfl, hr2⟩, hb2⟩
  obtain rfl := hr2.2 trivial
  have G2 : Hid (w2.heap[w.heap.size]? = some (.cells cs 33 (0, 0))) := row_below hb2 G1.out
  have D2 : Hid (w2.heap[w.heap.size + 1]? = some (.cells ds 33 (0, 0))) := row_below hb2 D1.out
  have B2 : Hid (Below w.heap.size w w2) := bel2 B1.out hb2
  have g2 : ∀ j, w2.cell? ⟨w.heap.size, j, none⟩ = cs[j]? := fun j => cell_of_row w2 _ j cs 33 (0, 0) G2.out
  have d2 : ∀ j, w2.cell? ⟨w.heap.size + 1, j, none⟩ = ds[j]? := fun j => cell_of_row w2 _ j ds 33 (0, 0) D2.out
  clear hr2 hb2 KR g1 d1 j1 j2 j3 j4 j5 q1 q2 q3 q4 q5 G1 D1 B1
  go_wp2_with fail
  have B0 : Hid (w.heap.size + 2 ≤ w2.heap.size) := by
    have hh := (Array.getElem?_eq_some_iff.1 D2.out).1
    show _ ≤ _
    omega
  clear g2 d2
  go_loopw [5] (fun i wr => ∃ j : Nat, j ≤ s.tm.length ∧ i = .int .i64 j ∧ Hid (Below w2.heap.size w2 wr)) (fun i _ => s.tm.length - (intOf i).toNat)
  case atStart => exact ⟨0, Nat.zero_le _, rfl, Below.refl _ _⟩
  case round =>
    obtain ⟨j, hj, rfl, HB⟩ := hrel
    have g3 : ∀ j, wr.cell? ⟨w.heap.size, j, none⟩ = cs[j]? := fun j => cell_of_row wr _ j cs 33 (0, 0) (row_below HB.out G2.out)
    have d3 : ∀ j, wr.cell? ⟨w.heap.size + 1, j, none⟩ = ds[j]? := fun j => cell_of_row wr _ j ds 33 (0, 0) (row_below HB.out D2.out)
    by_cases hlt : j < s.tm.length
    · obtain ⟨tt, htt⟩ : ∃ tt, s.tm[j]? = some tt := ⟨_, List.getElem?_eq_getElem hlt⟩
      obtain ⟨TB, tp, hta, l1⟩ := tm_base HT2.out htt
      obtain ⟨TB2, tp2, hta2, l2⟩ := tm_base HT4.out htt
      have hbw := bel2 B2.out HB.out
      have l1 : wr.rangeAt TB (tp + j * 2) [.string tt.s, .int .i64 tt.d] := fun i v hv => cellW (l1 i v hv) hbw
      have l2 : wr.rangeAt TB2 (tp2 + j * 2) [.string tt.s, .int .i64 tt.d] := fun i v hv => cellW (l2 i v hv) hbw
      have z23 := (g3 23).trans t1
      have y23 := (d3 23).trans t3
      rw [hta] at z23
      rw [hta2] at y23
      have hi38 := hi38 (.string tt.s) (.int .i64 tt.d)
      have hjl : (j : Int) < (s.tm.length : Int) := by omega
      have HW1 : Hid (wrap64 ((j : Int) + 1) = ((j + 1 : Nat) : Int)) := wr1 hlt (by have := HT.out; omega)
      clear htt hta hta2 hbw
      go_wp2_with fail
      refine wp_region_held_drew (S := (fun w' => w'.cell? ⟨w.heap.size, 23, none⟩ = some (.slice (some ⟨TB, tp, none⟩) s.tm.length tc) ∧ w'.cell? ⟨w.heap.size + 1, 23, none⟩ = some (.slice (some ⟨TB2, tp2, none⟩) s.tm.length tc2) ∧ w'.rangeAt TB (tp + j * 2) [.string tt.s, .int .i64 tt.d] ∧ w'.rangeAt TB2 (tp2 + j * 2) [.string tt.s, .int .i64 tt.d])) (by kernel_rfl) ⟨z23, y23, l1, l2⟩ (fun hHeld => ?_)
      change wpAnyH _ _ _ _ _ _ _ _ (World.drew _)
      refine wpAnyH_take (i := 0) (oi := { dst := some 137, op := Go.Op.fieldAddr 33 (Go.Operand.tmp 2) 13, type := 0, pos := "ref.go:98", after := #[], guard := none }) (v := ?_) rfl (by kernel_rfl) (by kernel_rfl) (by kernel_rfl) (fun _ _ _ h => h) (Or.inl ⟨by rfl, ?_⟩) hHeld ?_
      rotate_left 1
      · (intro w hSw; (try dsimp only at hSw); go_simp <;> with_reducible rfl)
      simp only [Act.put, List.setIfInBounds_toArray, List.set_cons_zero, List.set_cons_succ]
      refine wpAnyH_take (i := 1) (oi := { dst := some 138, op := Go.Op.load 30 (Go.Operand.tmp 137), type := 30, pos := "ref.go:98", after := #[{ on := 0, ground := Go.Ground.data }], guard := none }) (v := ?_) rfl (by kernel_rfl) (by kernel_rfl) (by kernel_rfl) (fun _ _ _ h => h) (Or.inl ⟨by rfl, ?_⟩) hHeld ?_
      rotate_left 1
      · (intro w hSw; (try dsimp only at hSw); go_simp <;> with_reducible rfl)
      simp only [Act.put, List.setIfInBounds_toArray, List.set_cons_zero, List.set_cons_succ]
      refine wpAnyH_take (i := 2) (oi := { dst := some 139, op := Go.Op.move (Go.Operand.tmp 5), type := 3, pos := "ref.go:98", after := #[], guard := none }) (v := ?_) rfl (by kernel_rfl) (by kernel_rfl) (by kernel_rfl) (fun _ _ _ h => h) (Or.inl ⟨by rfl, ?_⟩) hHeld ?_
      rotate_left 1
      · (intro w hSw; (try dsimp only at hSw); go_simp <;> with_reducible rfl)
      simp only [Act.put, List.setIfInBounds_toArray, List.set_cons_zero, List.set_cons_succ]
      refine wpAnyH_take (i := 3) (oi := { dst := some 140, op := Go.Op.indexAddr 30 (Go.Operand.tmp 138) (Go.Operand.tmp 139), type := 0, pos := "ref.go:98", after := #[{ on := 1, ground := Go.Ground.data }, { on := 2, ground := Go.Ground.data }], guard := none }) (v := ?_) rfl (by kernel_rfl) (by kernel_rfl) (by kernel_rfl) (fun _ _ _ h => h) (Or.inl ⟨by rfl, ?_⟩) hHeld ?_
      rotate_left 1
      · (intro w hSw; (try dsimp only at hSw); go_simp <;> with_reducible rfl)
      simp only [Act.put, List.setIfInBounds_toArray, List.set_cons_zero, List.set_cons_succ]
      refine wpAnyH_take (i := 4) (oi := { dst := some 141, op := Go.Op.load 38 (Go.Operand.tmp 140), type := 38, pos := "ref.go:98", after := #[{ on := 3, ground := Go.Ground.data }], guard := none }) (v := _) rfl (by kernel_rfl) (by kernel_rfl) (by kernel_rfl) (fun _ _ _ h => h) (yieldsIf_load_mid rfl 38 _ rfl TB (tp + j * 2) rfl [.string tt.s, .int .i64 tt.d] _ (fun w h => h.2.2.1) Try.underlying38 rfl hi38) hHeld ?_
      simp only [Act.put, List.setIfInBounds_toArray, List.set_cons_zero, List.set_cons_succ]
      refine wpAnyH_take (i := 5) (oi := { dst := some 142, op := Go.Op.fieldAddr 33 (Go.Operand.tmp 3) 13, type := 0, pos := "ref.go:98", after := #[], guard := none }) (v := ?_) rfl (by kernel_rfl) (by kernel_rfl) (by kernel_rfl) (fun _ _ _ h => h) (Or.inl ⟨by rfl, ?_⟩) hHeld ?_
      rotate_left 1
      · (intro w hSw; (try dsimp only at hSw); go_simp <;> with_reducible rfl)
      simp only [Act.put, List.setIfInBounds_toArray, List.set_cons_zero, List.set_cons_succ]
      refine wpAnyH_take (i := 6) (oi := { dst := some 143, op := Go.Op.load 30 (Go.Operand.tmp 142), type := 30, pos := "ref.go:98", after := #[{ on := 5, ground := Go.Ground.data }], guard := none }) (v := ?_) rfl (by kernel_rfl) (by kernel_rfl) (by kernel_rfl) (fun _ _ _ h => h) (Or.inl ⟨by rfl, ?_⟩) hHeld ?_
      rotate_left 1
      · (intro w hSw; (try dsimp only at hSw); go_simp <;> with_reducible rfl)
      simp only [Act.put, List.setIfInBounds_toArray, List.set_cons_zero, List.set_cons_succ]
      refine wpAnyH_take (i := 7) (oi := { dst := some 144, op := Go.Op.move (Go.Operand.tmp 5), type := 3, pos := "ref.go:98", after := #[], guard := none }) (v := ?_) rfl (by kernel_rfl) (by kernel_rfl) (by kernel_rfl) (fun _ _ _ h => h) (Or.inl ⟨by rfl, ?_⟩) hHeld ?_
      rotate_left 1
      · (intro w hSw; (try dsimp only at hSw); go_simp <;> with_reducible rfl)
      simp only [Act.put, List.setIfInBounds_toArray, List.set_cons_zero, List.set_cons_succ]
      refine wpAnyH_take (i := 8) (oi := { dst := some 145, op := Go.Op.indexAddr 30 (Go.Operand.tmp 143) (Go.Operand.tmp 144), type := 0, pos := "ref.go:98", after := #[{ on := 6, ground := Go.Ground.data }, { on := 7, ground := Go.Ground.data }], guard := none }) (v := ?_) rfl (by kernel_rfl) (by kernel_rfl) (by kernel_rfl) (fun _ _ _ h => h) (Or.inl ⟨by rfl, ?_⟩) hHeld ?_
      rotate_left 1
      · (intro w hSw; (try dsimp only at hSw); go_simp <;> with_reducible rfl)
      simp only [Act.put, List.setIfInBounds_toArray, List.set_cons_zero, List.set_cons_succ]
      refine wpAnyH_take (i := 9) (oi := { dst := some 146, op := Go.Op.load 38 (Go.Operand.tmp 145), type := 38, pos := "ref.go:98", after := #[{ on := 8, ground := Go.Ground.data }], guard := none }) (v := _) rfl (by kernel_rfl) (by kernel_rfl) (by kernel_rfl) (fun _ _ _ h => h) (yieldsIf_load_mid rfl 38 _ rfl TB2 (tp2 + j * 2) rfl [.string tt.s, .int .i64 tt.d] _ (fun w h => h.2.2.2) Try.underlying38 rfl hi38) hHeld ?_
      simp only [Act.put, List.setIfInBounds_toArray, List.set_cons_zero, List.set_cons_succ]
      refine wpAnyH_take (i := 10) (oi := { dst := some 147, op := Go.Op.binOp Go.BinOp.neq 38 (Go.Operand.tmp 141) (Go.Operand.tmp 146) 38, type := 4, pos := "ref.go:98", after := #[{ on := 4, ground := Go.Ground.data }, { on := 9, ground := Go.Ground.data }], guard := none }) (v := ?_) rfl (by kernel_rfl) (by kernel_rfl) (by kernel_rfl) (fun _ _ _ h => h) (Or.inl ⟨by rfl, ?_⟩) hHeld ?_
      rotate_left 1
      · (intro w hSw; (try dsimp only at hSw); go_simp <;> with_reducible rfl)
      simp only [Act.put, List.setIfInBounds_toArray, List.set_cons_zero, List.set_cons_succ]
      refine wpAnyH_done (by kernel_rfl) ?_ _
      go_wp2_with fail
      exact ⟨⟨j + 1, hlt, by rw [HW1.out], (HB.out.drew)⟩, meas hlt HW1.out⟩
    · obtain rfl : j = s.tm.length := by omega
      have B3 : Hid (Below w.heap.size w wr) := bel2 B2.out HB.out
      have G3 : Hid (wr.heap[w.heap.size]? = some (.cells cs 33 (0, 0))) := row_below HB.out G2.out
      have D3 : Hid (wr.heap[w.heap.size + 1]? = some (.cells ds 33 (0, 0))) := row_below HB.out D2.out
      go_wp2_with fail
      clear g3 d3 HB G2 D2 B2
      generalize wr = w3 at B3 G3 D3 ⊢
      go_loopw [6] (fun i wr => ∃ j : Nat, j ≤ s.up.length ∧ i = .int .i64 j ∧ Hid (Below w3.heap.size w3 wr)) (fun i _ => s.up.length - (intOf i).toNat)
      case atStart => exact ⟨0, Nat.zero_le _, rfl, Below.refl _ _⟩
      case round =>
        obtain ⟨j, hj, rfl, HB⟩ := hrel
        have g3 : ∀ j, wr.cell? ⟨w.heap.size, j, none⟩ = cs[j]? := fun j => cell_of_row wr _ j cs 33 (0, 0) (row_below HB.out G3.out)
        have d3 : ∀ j, wr.cell? ⟨w.heap.size + 1, j, none⟩ = ds[j]? := fun j => cell_of_row wr _ j ds 33 (0, 0) (row_below HB.out D3.out)
        by_cases hlt : j < s.up.length
        · obtain ⟨u, hu⟩ : ∃ u, s.up[j]? = some u := ⟨_, List.getElem?_eq_getElem hlt⟩
          obtain ⟨r, hr⟩ : ∃ r, us[j]? = some r := ⟨_, List.getElem?_eq_getElem (by rw [HU2.out.1]; exact hlt)⟩
          obtain ⟨q, hq⟩ : ∃ q, us2[j]? = some q := ⟨_, List.getElem?_eq_getElem (by rw [HU2.out.2]; exact hlt)⟩
          have hbw := bel2 B3.out HB.out
          obtain ⟨sr, or_, TB, tp, hta, _, l1⟩ := HU3.out j r hr
          obtain ⟨sq, oq, TB2, tp2, hta2, _, l2⟩ := HU7.out j q hq
          have l1 : wr.rangeAt TB (tp + j * 12) r.toList := lies_range (l1.below hbw)
          have l2 : wr.rangeAt TB2 (tp2 + j * 12) q.toList := lies_range (l2.below hbw)
          have ir := HU4.out j r u hr hu
          have iq := HU8.out j q u hq hu
          obtain ⟨k1, x1, b1, s1, a1, m1, c1, i1, i2, i3, i4, i5, iv⟩ := ir.v
          obtain ⟨k2, x2, b2, s2, a2, m2, c2, j1, j2, j3, j4, j5, jv⟩ := ir.o
          obtain ⟨k3, x3, b3, s3, a3, m3, c3, p1, p2, p3, p4, p5, pv⟩ := iq.v
          obtain ⟨k4, x4, b4, s4, a4, m4, c4, q1, q2, q3, q4, q5, qv⟩ := iq.o
          have KV : Hid (∀ W, Below w.heap.size w W → _) := fun W hB => rsame_calls n _ _ _ _ W (iv.below hB) (pv.below hB)
          have KO : Hid (∀ W, Below w.heap.size w W → _) := fun W hB => rsame_calls n _ _ _ _ W (jv.below hB) (qv.below hB)
          have r0 := ir.c0
          have r6 := ir.c6
          have q0 := iq.c0
          have q6 := iq.c6
          have z24 := (g3 24).trans u1
          have y24 := (d3 24).trans u5
          rw [hta] at z24
          rw [hta2] at y24
          have hir : (Try.prog.info? 40).map (·.size) = some r.toList.length := by rw [Array.length_toList]; exact info40s r sr
          have hiq : (Try.prog.info? 40).map (·.size) = some q.toList.length := by rw [Array.length_toList]; exact info40s q sq
          have hir' := info40s r sr
          have hiq' := info40s q sq
          have har := all_one or_
          have haq := all_one oq
          have hjl : (j : Int) < (s.up.length : Int) := by omega
          have HW1 : Hid (wrap64 ((j : Int) + 1) = ((j + 1 : Nat) : Int)) := wr1 hlt (by have := HU.out; omega)
          have HBw : Hid (Below w.heap.size w wr) := hbw
          have hz1 : zU.size = r.size := sr.symm
          have hz2 : zU.size = q.size := sq.symm
          clear hu hr hq hta hta2 hbw ir iq iv jv pv qv or_ oq
          go_upto_region 13 with fail
          go_cut [7, 8] (fun s7 s8 wc => ∃ g7 g8, s7 = .pointer (some ⟨g7, 0, none⟩) ∧ s8 = .pointer (some ⟨g8, 0, none⟩) ∧ Hid (wc.heap[g7]? = some (.cells r 40 (0, 0)) ∧ wc.heap[g8]? = some (.cells q 40 (0, 0)) ∧ Below wr.heap.size wr wc))
          case first =>
            have hk13 : ∀ {W : World}, Below wr.heap.size wr W → (fun w' => w'.cell? ⟨w.heap.size, 24, none⟩ = some (.slice (some ⟨TB, tp, none⟩) s.up.length uc) ∧ w'.cell? ⟨w.heap.size + 1, 24, none⟩ = some (.slice (some ⟨TB2, tp2, none⟩) s.up.length uc2) ∧ w'.rangeAt TB (tp + j * 12) r.toList ∧ w'.rangeAt TB2 (tp2 + j * 12) q.toList) W := fun hb => ⟨cellW z24 hb, cellW y24 hb, fun i v hv => cellW (l1 i v hv) hb, fun i v hv => cellW (l2 i v hv) hb⟩
            refine wp_region_held_drew (S := (fun w' => w'.cell? ⟨w.heap.size, 24, none⟩ = some (.slice (some ⟨TB, tp, none⟩) s.up.length uc) ∧ w'.cell? ⟨w.heap.size + 1, 24, none⟩ = some (.slice (some ⟨TB2, tp2, none⟩) s.up.length uc2) ∧ w'.rangeAt TB (tp + j * 12) r.toList ∧ w'.rangeAt TB2 (tp2 + j * 12) q.toList)) (by kernel_rfl) ⟨z24, y24, l1, l2⟩ (fun hHeld => ?_)
            change wpAnyH _ _ _ _ _ _ _ _ (World.drew _)
            refine wpAnyH_take (i := 0) (oi := { dst := some 155, op := Go.Op.fieldAddr 33 (Go.Operand.tmp 2) 14, type := 0, pos := "ref.go:103", after := #[], guard := none }) (v := ?_) rfl (by kernel_rfl) (by kernel_rfl) (by kernel_rfl) (fun _ _ _ h => h) (Or.inl ⟨by rfl, ?_⟩) hHeld ?_
            rotate_left 1
            · (intro w hSw; (try dsimp only at hSw); go_simp <;> with_reducible rfl)
            simp only [Act.put, List.setIfInBounds_toArray, List.set_cons_zero, List.set_cons_succ]
            refine wpAnyH_take (i := 1) (oi := { dst := some 156, op := Go.Op.load 31 (Go.Operand.tmp 155), type := 31, pos := "ref.go:103", after := #[{ on := 0, ground := Go.Ground.data }], guard := none }) (v := ?_) rfl (by kernel_rfl) (by kernel_rfl) (by kernel_rfl) (fun _ _ _ h => h) (Or.inl ⟨by rfl, ?_⟩) hHeld ?_
            rotate_left 1
            · (intro w hSw; (try dsimp only at hSw); go_simp <;> with_reducible rfl)
            simp only [Act.put, List.setIfInBounds_toArray, List.set_cons_zero, List.set_cons_succ]
            refine wpAnyH_take (i := 2) (oi := { dst := some 157, op := Go.Op.move (Go.Operand.tmp 6), type := 3, pos := "ref.go:103", after := #[], guard := none }) (v := ?_) rfl (by kernel_rfl) (by kernel_rfl) (by kernel_rfl) (fun _ _ _ h => h) (Or.inl ⟨by rfl, ?_⟩) hHeld ?_
            rotate_left 1
            · (intro w hSw; (try dsimp only at hSw); go_simp <;> with_reducible rfl)
            simp only [Act.put, List.setIfInBounds_toArray, List.set_cons_zero, List.set_cons_succ]
            refine wpAnyH_take (i := 3) (oi := { dst := some 158, op := Go.Op.indexAddr 31 (Go.Operand.tmp 156) (Go.Operand.tmp 157), type := 0, pos := "ref.go:103", after := #[{ on := 1, ground := Go.Ground.data }, { on := 2, ground := Go.Ground.data }], guard := none }) (v := ?_) rfl (by kernel_rfl) (by kernel_rfl) (by kernel_rfl) (fun _ _ _ h => h) (Or.inl ⟨by rfl, ?_⟩) hHeld ?_
            rotate_left 1
            · (intro w hSw; (try dsimp only at hSw); go_simp <;> with_reducible rfl)
            simp only [Act.put, List.setIfInBounds_toArray, List.set_cons_zero, List.set_cons_succ]
            refine wpAnyH_take (i := 4) (oi := { dst := some 159, op := Go.Op.load 40 (Go.Operand.tmp 158), type := 40, pos := "ref.go:103", after := #[{ on := 3, ground := Go.Ground.data }], guard := none }) (v := _) rfl (by kernel_rfl) (by kernel_rfl) (by kernel_rfl) (fun _ _ _ h => h) (yieldsIf_load_mid rfl 40 _ rfl TB (tp + j * 12) rfl r.toList _ (fun w h => h.2.2.1) Try.underlying40 rfl hir) hHeld ?_
            simp only [Act.put, List.setIfInBounds_toArray, List.set_cons_zero, List.set_cons_succ]
            refine wpAnyH_take (i := 5) (oi := { dst := some 160, op := Go.Op.fieldAddr 33 (Go.Operand.tmp 3) 14, type := 0, pos := "ref.go:103", after := #[{ on := 12, ground := Go.Ground.gcOnly Go.Departure.lateStores }], guard := none }) (v := ?_) rfl (by kernel_rfl) (by kernel_rfl) (by kernel_rfl) (fun _ _ _ h => h) (Or.inl ⟨by rfl, ?_⟩) hHeld ?_
            rotate_left 1
            · (intro w hSw; (try dsimp only at hSw); go_simp <;> with_reducible rfl)
            simp only [Act.put, List.setIfInBounds_toArray, List.set_cons_zero, List.set_cons_succ]
            refine wpAnyH_take (i := 6) (oi := { dst := some 161, op := Go.Op.load 31 (Go.Operand.tmp 160), type := 31, pos := "ref.go:103", after := #[{ on := 5, ground := Go.Ground.data }, { on := 12, ground := Go.Ground.gcOnly Go.Departure.lateStores }], guard := none }) (v := ?_) rfl (by kernel_rfl) (by kernel_rfl) (by kernel_rfl) (fun _ _ _ h => h) (Or.inl ⟨by rfl, ?_⟩) hHeld ?_
            rotate_left 1
            · (intro w hSw; (try dsimp only at hSw); go_simp <;> with_reducible rfl)
            simp only [Act.put, List.setIfInBounds_toArray, List.set_cons_zero, List.set_cons_succ]
            refine wpAnyH_take (i := 7) (oi := { dst := some 162, op := Go.Op.move (Go.Operand.tmp 6), type := 3, pos := "ref.go:103", after := #[{ on := 12, ground := Go.Ground.gcOnly Go.Departure.lateStores }], guard := none }) (v := ?_) rfl (by kernel_rfl) (by kernel_rfl) (by kernel_rfl) (fun _ _ _ h => h) (Or.inl ⟨by rfl, ?_⟩) hHeld ?_
            rotate_left 1
            · (intro w hSw; (try dsimp only at hSw); go_simp <;> with_reducible rfl)
            simp only [Act.put, List.setIfInBounds_toArray, List.set_cons_zero, List.set_cons_succ]
            refine wpAnyH_take (i := 8) (oi := { dst := some 163, op := Go.Op.indexAddr 31 (Go.Operand.tmp 161) (Go.Operand.tmp 162), type := 0, pos := "ref.go:103", after := #[{ on := 6, ground := Go.Ground.data }, { on := 7, ground := Go.Ground.data }, { on := 12, ground := Go.Ground.gcOnly Go.Departure.lateStores }], guard := none }) (v := ?_) rfl (by kernel_rfl) (by kernel_rfl) (by kernel_rfl) (fun _ _ _ h => h) (Or.inl ⟨by rfl, ?_⟩) hHeld ?_
            rotate_left 1
            · (intro w hSw; (try dsimp only at hSw); go_simp <;> with_reducible rfl)
            simp only [Act.put, List.setIfInBounds_toArray, List.set_cons_zero, List.set_cons_succ]
            refine wpAnyH_take (i := 9) (oi := { dst := some 164, op := Go.Op.load 40 (Go.Operand.tmp 163), type := 40, pos := "ref.go:103", after := #[{ on := 8, ground := Go.Ground.data }, { on := 12, ground := Go.Ground.gcOnly Go.Departure.lateStores }], guard := none }) (v := _) rfl (by kernel_rfl) (by kernel_rfl) (by kernel_rfl) (fun _ _ _ h => h) (yieldsIf_load_mid rfl 40 _ rfl TB2 (tp2 + j * 12) rfl q.toList _ (fun w h => h.2.2.2) Try.underlying40 rfl hiq) hHeld ?_
            simp only [Act.put, List.setIfInBounds_toArray, List.set_cons_zero, List.set_cons_succ]
            refine wpAnyH_ready (rs := [10, 11]) (by kernel_rfl) (by simp) ?_
            refine AllReadyH.cons (o := { dst := some 7, op := Go.Op.alloc 40, type := 0, pos := "ref.go:103", after := #[], guard := none }) rfl (fun K hK => ?_) (AllReadyH.cons (o := { dst := some 8, op := Go.Op.alloc 40, type := 0, pos := "ref.go:103", after := #[], guard := none }) rfl (fun K hK => ?_) AllReadyH.nil)
            · go_simp
              refine hK.out _ _ (hk13 (bel1 wr _).drew) (fun hHeld => ?_)
              clear hK K
              refine wpAnyH_ready (rs := [11]) (by kernel_rfl) (by simp) ?_
              refine AllReadyH.cons (o := { dst := some 8, op := Go.Op.alloc 40, type := 0, pos := "ref.go:103", after := #[], guard := none }) rfl (fun K hK => ?_) AllReadyH.nil
              go_simp
              refine hK.out _ _ (hk13 (bel2 (bel1 wr _) (bel1 _ _)).drew) (fun hHeld => ?_)
              clear hK K
              change wpAnyH _ _ _ _ _ _ _ _ (World.drew ((wr.alloc (.cells zU 40)).alloc (.cells zU 40)))
              have n1 : ((World.drew ((wr.alloc (.cells zU 40)).alloc (.cells zU 40)))).heap[wr.heap.size]? = some (.cells zU 40 (0, 0)) := heap_alloc2_old wr _ _
              have n2 : ((World.drew ((wr.alloc (.cells zU 40)).alloc (.cells zU 40)))).heap[wr.heap.size + 1]? = some (.cells zU 40 (0, 0)) := heap_alloc2_new wr _ _
              have nb : Hid (Below wr.heap.size wr ((World.drew ((wr.alloc (.cells zU 40)).alloc (.cells zU 40))))) := (bel2 (bel1 wr _) (bel1 _ _)).drew
              generalize (World.drew ((wr.alloc (.cells zU 40)).alloc (.cells zU 40))) = Wx at n1 n2 nb hHeld ⊢
              refine wpAnyH_ready (rs := [12]) (by kernel_rfl) (by simp) ?_
              refine AllReadyH.cons (o := { dst := none, op := Go.Op.store 40 (Go.Operand.tmp 7) (Go.Operand.tmp 159), type := 0, pos := "ref.go:103", after := #[{ on := 10, ground := Go.Ground.data }, { on := 4, ground := Go.Ground.data }, { on := 0, ground := Go.Ground.phase }, { on := 1, ground := Go.Ground.phase }, { on := 2, ground := Go.Ground.phase }, { on := 3, ground := Go.Ground.phase }, { on := 4, ground := Go.Ground.phase }, { on := 5, ground := Go.Ground.textOnly Go.Departure.lateStores }, { on := 6, ground := Go.Ground.textOnly Go.Departure.lateStores }, { on := 7, ground := Go.Ground.textOnly Go.Departure.lateStores }, { on := 8, ground := Go.Ground.textOnly Go.Departure.lateStores }, { on := 9, ground := Go.Ground.textOnly Go.Departure.lateStores }, { on := 10, ground := Go.Ground.phase }, { on := 11, ground := Go.Ground.phase }], guard := none }) rfl (fun K hK => ?_) AllReadyH.nil
              rw [if_pos (by rfl)]
              refine wp_store_row 40 _ _ rfl (wr.heap.size) r rfl rfl 40 zU n1 hir' hz1 har ?_
              refine hK.out _ _ (hk13 (show Below wr.heap.size wr (Wx.setRow (wr.heap.size) r) from below_setRow nb.out (by omega) _)) (fun hHeld => ?_)
              clear hK K
              simp only [Act.put]
              refine wpAnyH_ready (rs := [13]) (by kernel_rfl) (by simp) ?_
              refine AllReadyH.cons (o := { dst := none, op := Go.Op.store 40 (Go.Operand.tmp 8) (Go.Operand.tmp 164), type := 0, pos := "ref.go:103", after := #[{ on := 11, ground := Go.Ground.data }, { on := 9, ground := Go.Ground.data }, { on := 12, ground := Go.Ground.chain }, { on := 0, ground := Go.Ground.phase }, { on := 1, ground := Go.Ground.phase }, { on := 2, ground := Go.Ground.phase }, { on := 3, ground := Go.Ground.phase }, { on := 4, ground := Go.Ground.phase }, { on := 5, ground := Go.Ground.phase }, { on := 6, ground := Go.Ground.phase }, { on := 7, ground := Go.Ground.phase }, { on := 8, ground := Go.Ground.phase }, { on := 9, ground := Go.Ground.phase }, { on := 10, ground := Go.Ground.phase }, { on := 11, ground := Go.Ground.phase }, { on := 12, ground := Go.Ground.phase }], guard := none }) rfl (fun K hK => ?_) AllReadyH.nil
              rw [if_pos (by rfl)]
              refine wp_store_row 40 _ _ rfl (wr.heap.size + 1) q rfl rfl 40 zU (show (Wx.setRow (wr.heap.size) r).heap[wr.heap.size + 1]? = _ from (setRow_other _ _ _ _ (by omega)).trans n2) hiq' hz2 haq ?_
              refine hK.out _ _ (hk13 (show Below wr.heap.size wr ((Wx.setRow (wr.heap.size) r).setRow (wr.heap.size + 1) q) from below_setRow (below_setRow nb.out (by omega) _) (by omega) _)) (fun hHeld => ?_)
              clear hK K
              simp only [Act.put]
              refine wpAnyH_done (by kernel_rfl) ?_ _
              go_wp2_with fail
              go_meet
              case rel => exact ⟨wr.heap.size, wr.heap.size + 1, rfl, rfl, ⟨(setRow_other (Wx.setRow (wr.heap.size) r) (wr.heap.size + 1) (wr.heap.size) q (by omega)).trans (setRow_heap Wx (wr.heap.size) zU r 40 (0, 0) n1), setRow_heap (Wx.setRow (wr.heap.size) r) (wr.heap.size + 1) zU q 40 (0, 0) ((setRow_other Wx (wr.heap.size) (wr.heap.size + 1) r (by omega)).trans n2), below_setRow (below_setRow nb.out (by omega) _) (by omega) _⟩⟩
            · go_simp
              refine hK.out _ _ (hk13 (bel1 wr _).drew) (fun hHeld => ?_)
              clear hK K
              refine wpAnyH_ready (rs := [10]) (by kernel_rfl) (by simp) ?_
              refine AllReadyH.cons (o := { dst := some 7, op := Go.Op.alloc 40, type := 0, pos := "ref.go:103", after := #[], guard := none }) rfl (fun K hK => ?_) AllReadyH.nil
              go_simp
              refine hK.out _ _ (hk13 (bel2 (bel1 wr _) (bel1 _ _)).drew) (fun hHeld => ?_)
              clear hK K
              change wpAnyH _ _ _ _ _ _ _ _ (World.drew ((wr.alloc (.cells zU 40)).alloc (.cells zU 40)))
              have n1 : ((World.drew ((wr.alloc (.cells zU 40)).alloc (.cells zU 40)))).heap[wr.heap.size]? = some (.cells zU 40 (0, 0)) := heap_alloc2_old wr _ _
              have n2 : ((World.drew ((wr.alloc (.cells zU 40)).alloc (.cells zU 40)))).heap[wr.heap.size + 1]? = some (.cells zU 40 (0, 0)) := heap_alloc2_new wr _ _
              have nb : Hid (Below wr.heap.size wr ((World.drew ((wr.alloc (.cells zU 40)).alloc (.cells zU 40))))) := (bel2 (bel1 wr _) (bel1 _ _)).drew
              generalize (World.drew ((wr.alloc (.cells zU 40)).alloc (.cells zU 40))) = Wx at n1 n2 nb hHeld ⊢
              refine wpAnyH_ready (rs := [12]) (by kernel_rfl) (by simp) ?_
              refine AllReadyH.cons (o := { dst := none, op := Go.Op.store 40 (Go.Operand.tmp 7) (Go.Operand.tmp 159), type := 0, pos := "ref.go:103", after := #[{ on := 10, ground := Go.Ground.data }, { on := 4, ground := Go.Ground.data }, { on := 0, ground := Go.Ground.phase }, { on := 1, ground := Go.Ground.phase }, { on := 2, ground := Go.Ground.phase }, { on := 3, ground := Go.Ground.phase }, { on := 4, ground := Go.Ground.phase }, { on := 5, ground := Go.Ground.textOnly Go.Departure.lateStores }, { on := 6, ground := Go.Ground.textOnly Go.Departure.lateStores }, { on := 7, ground := Go.Ground.textOnly Go.Departure.lateStores }, { on := 8, ground := Go.Ground.textOnly Go.Departure.lateStores }, { on := 9, ground := Go.Ground.textOnly Go.Departure.lateStores }, { on := 10, ground := Go.Ground.phase }, { on := 11, ground := Go.Ground.phase }], guard := none }) rfl (fun K hK => ?_) AllReadyH.nil
              rw [if_pos (by rfl)]
              refine wp_store_row 40 _ _ rfl (wr.heap.size + 1) r rfl rfl 40 zU n2 hir' hz1 har ?_
              refine hK.out _ _ (hk13 (show Below wr.heap.size wr (Wx.setRow (wr.heap.size + 1) r) from below_setRow nb.out (by omega) _)) (fun hHeld => ?_)
              clear hK K
              simp only [Act.put]
              refine wpAnyH_ready (rs := [13]) (by kernel_rfl) (by simp) ?_
              refine AllReadyH.cons (o := { dst := none, op := Go.Op.store 40 (Go.Operand.tmp 8) (Go.Operand.tmp 164), type := 0, pos := "ref.go:103", after := #[{ on := 11, ground := Go.Ground.data }, { on := 9, ground := Go.Ground.data }, { on := 12, ground := Go.Ground.chain }, { on := 0, ground := Go.Ground.phase }, { on := 1, ground := Go.Ground.phase }, { on := 2, ground := Go.Ground.phase }, { on := 3, ground := Go.Ground.phase }, { on := 4, ground := Go.Ground.phase }, { on := 5, ground := Go.Ground.phase }, { on := 6, ground := Go.Ground.phase }, { on := 7, ground := Go.Ground.phase }, { on := 8, ground := Go.Ground.phase }, { on := 9, ground := Go.Ground.phase }, { on := 10, ground := Go.Ground.phase }, { on := 11, ground := Go.Ground.phase }, { on := 12, ground := Go.Ground.phase }], guard := none }) rfl (fun K hK => ?_) AllReadyH.nil
              rw [if_pos (by rfl)]
              refine wp_store_row 40 _ _ rfl (wr.heap.size) q rfl rfl 40 zU (show (Wx.setRow (wr.heap.size + 1) r).heap[wr.heap.size]? = _ from (setRow_other _ _ _ _ (by omega)).trans n1) hiq' hz2 haq ?_
              refine hK.out _ _ (hk13 (show Below wr.heap.size wr ((Wx.setRow (wr.heap.size + 1) r).setRow (wr.heap.size) q) from below_setRow (below_setRow nb.out (by omega) _) (by omega) _)) (fun hHeld => ?_)
              clear hK K
              simp only [Act.put]
              refine wpAnyH_done (by kernel_rfl) ?_ _
              go_wp2_with fail
              go_meet
              case rel => exact ⟨wr.heap.size + 1, wr.heap.size, rfl, rfl, ⟨(setRow_other (Wx.setRow (wr.heap.size + 1) r) (wr.heap.size) (wr.heap.size + 1) q (by omega)).trans (setRow_heap Wx (wr.heap.size + 1) zU r 40 (0, 0) n2), setRow_heap (Wx.setRow (wr.heap.size + 1) r) (wr.heap.size) zU q 40 (0, 0) ((setRow_other Wx (wr.heap.size + 1) (wr.heap.size) r (by omega)).trans n1), below_setRow (below_setRow nb.out (by omega) _) (by omega) _⟩⟩
          case rest =>
            obtain ⟨g7, g8, rfl, rfl, HC⟩ := hcut
            have z3 : ∀ j, wc.cell? ⟨g7, j, none⟩ = r[j]? := fun j => cell_of_row wc _ j r 40 (0, 0) HC.out.1
            have y3 : ∀ j, wc.cell? ⟨g8, j, none⟩ = q[j]? := fun j => cell_of_row wc _ j q 40 (0, 0) HC.out.2.1
            clear g3 d3 z24 y24 l1 l2 hir hiq hir' hiq' har haq sr sq hz1 hz2
            go_wp2_with fail
            refine (KV.out _ (bel2 HBw.out HC.out.2.2)).mono ?_
            rintro e w5 ⟨⟨r5, rfl, hr5⟩, hb5⟩
            obtain rfl := hr5.2 trivial
            have z5 : ∀ j, w5.cell? ⟨g7, j, none⟩ = r[j]? := fun j => cell_of_row w5 _ j r 40 (0, 0) (row_below hb5 HC.out.1)
            have y5 : ∀ j, w5.cell? ⟨g8, j, none⟩ = q[j]? := fun j => cell_of_row w5 _ j q 40 (0, 0) (row_below hb5 HC.out.2.1)
            have B5 : Hid (Below wr.heap.size wr w5) := bel2 HC.out.2.2 hb5
            clear hr5 hb5 z3 y3 i1 i2 i3 i4 i5 p1 p2 p3 p4 p5 KV
            go_wp2_with fail
            refine (KO.out _ (bel2 HBw.out B5.out)).mono ?_
            rintro e w6 ⟨⟨r6, rfl, hr6⟩, hb6⟩
            obtain rfl := hr6.2 trivial
            have B6 : Hid (Below wr.heap.size wr w6) := bel2 B5.out hb6
            clear hr6 hb6 z5 y5 j1 j2 j3 j4 j5 q1 q2 q3 q4 q5 KO
            go_wp2_with fail
            exact ⟨⟨j + 1, hlt, by rw [HW1.out], bel2 HB.out B6.out⟩, meas hlt HW1.out⟩
        · obtain rfl : j = s.up.length := by omega
          go_wp2_with fail
          go_ret
          exact ⟨rfl, bel2 B3.out HB.out⟩
end Go.Proofs.Ythhnfeeakdnncaa
