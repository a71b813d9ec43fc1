/- The contract of the reference's Encode. -/
import Derived.Test.YtkaaddahegkmgaaGreatSE
import Derived.Test.YtkaaddahegkmgaaGreatPP
import Derived.Deep.DeepCutAuto
namespace Go.Proofs.YtkaaddahegkmgaaGreat
open Go.ChangeShapes Go.WideShapes Go.ChangeAt Go.RowKit
theorem rtextO (v : Value) (l : List UInt8) (s : ByteArray) (w : World) (hv : Lib.HoldsBytes w v l) (hl : l.length ≤ 60000000000000) (hs : s.data.toList.length ≤ 35184372088832) :
    Calls Tryz.prog 30 #[v, .string s] w (RB w (l ++ encT s.data.toList)) := by
  have h := refText_calls v l s w hv (by omega) (by rw [size_data]; exact hs)
  rw [size_data, List.append_assoc] at h
  exact h
theorem rnumO (v : Value) (l : List UInt8) (n : Int) (hn : n < 9223372036854775808) (w : World) (hv : Lib.HoldsBytes w v l) (hl : l.length ≤ 60000000000000) : Calls Tryz.prog 29 #[v, .int .i64 n] w (RB w (l ++ enc n.toNat)) := refNum_calls v l n hn w hv (by omega)
set_option maxHeartbeats 16000000 in
set_option maxRecDepth 100000 in
theorem rencode_calls (v : Value) (r : Db) (w : World) (hv : IsR (fun _ => True) w v r) (hl : BgD r) : Calls Tryz.prog 10 #[v] w fun e w' => ∃ u, e = .returned u ∧ Lib.HoldsBytes w' u (encD r) ∧ Below w.heap.size w w' := by
  obtain ⟨pu, cu, pb, cb, rfl, hu, hb⟩ := hv.shape
  obtain ⟨_, _, e1, _, _, hls1⟩ := hu
  cases e1
  obtain ⟨_, _, e2, _, _, hls2⟩ := hb
  cases e2
  have HU : Hid (Ls rowE (fun _ => True) w pu r.rows) := hls1
  have HV : Hid (Ls brE (fun _ => True) w pb r.brs) := hls2
  have HM : Hid (BgD r) := hl
  obtain ⟨R, hR⟩ : ∃ R, R = r.rows.length := ⟨_, rfl⟩
  obtain ⟨K, hK⟩ : ∃ K, K = r.brs.length := ⟨_, rfl⟩
  have HRK : Hid (R = r.rows.length ∧ K = r.brs.length ∧ R ≤ 10000 ∧ K ≤ 10000) := ⟨hR, hK, by rw [hR]; exact hl.r0, by rw [hK]; exact hl.b0⟩
  rw [← hR, ← hK]
  have HA : Hid (Below w.heap.size w (w.alloc (.cells #[.slice pu R cu, .slice pb K cb] 25))) := bel1 _ _
  have O1 : (w.alloc (.cells #[.slice pu R cu, .slice pb K cb] 25)).heap[w.heap.size]? = some (.cells #[.slice pu R cu, .slice pb K cb] 25 (0, 0)) := heap_alloc_last _ _
  obtain ⟨L0, hL0⟩ : ∃ L, L = enc R := ⟨_, rfl⟩
  have HL0 : Hid (L0 = enc R ∧ L0.length ≤ 9) := ⟨hL0, by rw [hL0]; exact enc_length R (by have := HRK.out; omega)⟩
  have N0 : Hid (∀ W, Calls Tryz.prog 29 #[.slice none 0 0, .int .i64 (R : Int)] W (RB W L0)) := fun W => by
    have h := rnumO (.slice none 0 0) [] (R : Int) (by have := HRK.out; omega) W (holds_nil _) (by simp)
    rw [List.nil_append, Int.toNat_natCast, ← hL0] at h
    exact h
  clear hls1 hls2 hv hl hR hK hL0
  go_enter Tryz.func10, Tryz.ntmps10
  go_upto_region 1 with fail
  generalize w.alloc (.cells #[.slice pu R cu, .slice pb K cb] 25) = w1 at HA O1 ⊢
  have HO : Hid (w1.heap[w.heap.size]? = _) := O1
  have a0 := row_cell O1 (j := 0) rfl
  clear O1
  go_wp2_with fail
  refine (N0.out w1).mono ?_
  rintro e w2 ⟨v2, rfl, hv2, hb2⟩
  obtain ⟨a2, k2, rfl⟩ := hv2.shp
  have HU2 : Hid (Lib.HoldsBytes w2 (.slice a2 L0.length k2) L0) := own_holds hv2
  have HB2 : Hid (Below w1.heap.size w1 w2) := hb2
  clear hv2 hb2 a0 N0
  go_wp2_with fail
  go_loopw [3, 4, 5] (fun u i _ wr => ∃ (j : Nat) (A : List UInt8) (au : Option Addr) (ku : Nat), j ≤ R ∧ i = .int .i64 (j : Int) ∧ u = .slice au A.length ku ∧ Hid (A = L0 ++ (r.rows.take j).flatMap encRw) ∧ Hid (Lib.HoldsBytes wr (.slice au A.length ku) A) ∧ Hid (Below w1.heap.size w1 wr)) (fun _ i _ _ => R - (intOf i).toNat)
  case atStart => exact ⟨0, L0, a2, k2, Nat.zero_le _, rfl, rfl, by show _ = _; rw [List.take_zero, List.flatMap_nil, List.append_nil], HU2, HB2⟩
  case round =>
    obtain ⟨j, A, au, ku, hj, rfl, rfl, HAE, HUj, HB⟩ := hrel
    have a0 := row_cell (row_below HB.out HO.out) (j := 0) rfl
    by_cases hlt : j < R
    · have hjl : (j : Int) < (R : Int) := by omega
      obtain ⟨x, hx⟩ : ∃ y, r.rows[j]? = some y := ⟨_, List.getElem?_eq_getElem (by have := HRK.out; omega)⟩
      have hxm := HM.out.r1 x (List.mem_of_getElem? hx)
      have HBw : Hid (Below w.heap.size w wr) := bel2 HA.out HB.out
      obtain ⟨B, o, vb, rfl, _, k0, k1, k2', hvb⟩ := (HU.out.below HBw.out).row j x hx
      obtain ⟨p, c, rfl, _⟩ := hvb.shape
      have HW : Hid (wrap64 ((j : Int) + 1) = ((j + 1 : Nat) : Int)) := wr1 hlt (by have := HRK.out; omega)
      have HS : Hid (L0 ++ (r.rows.take (j + 1)).flatMap encRw = L0 ++ (r.rows.take j).flatMap encRw ++ encRw x) := by
        show _ = _
        rw [List.take_add_one, hx, List.flatMap_append, ← List.append_assoc]
        simp
      have hLL : (L0 ++ (r.rows.take j).flatMap encRw).length ≤ 9 + 10000 * 2000000000 := by
        have h1 := flat_lenR encRw 2000000000 (r.rows.take j) (fun z hz => encRw_len (HM.out.r1 z (List.mem_of_mem_take hz)))
        have h4 := HL0.out.2
        have h5 := HRK.out
        rw [List.length_take] at h1
        rw [List.length_append]
        have h6 : min j r.rows.length ≤ 10000 := by omega
        have h7 := Nat.mul_le_mul_right 2000000000 h6
        omega
      rw [← HAE.out] at HS hLL
      obtain ⟨key, ver, row⟩ := x
      have hkk := hxm.key
      have hvv := hxm.hi
      have hrr := hxm.row
      dsimp only at k0 k1 k2' hvb hkk hvv hrr
      obtain ⟨L1, hL1⟩ : ∃ L, L = A ++ encT key.data.toList := ⟨_, rfl⟩
      obtain ⟨L2, hL2⟩ : ∃ L, L = L1 ++ enc ver.toNat := ⟨_, rfl⟩
      obtain ⟨L3, hL3⟩ : ∃ L, L = L2 ++ encT row := ⟨_, rfl⟩
      have l1 : L1.length ≤ 9 + 10000 * 2000000000 + 2097161 := by rw [hL1, List.length_append]; have := encT_length key.data.toList (by omega); omega
      have l2 : L2.length ≤ 9 + 10000 * 2000000000 + 2097170 := by rw [hL2, List.length_append]; have := enc_length ver.toNat (by omega); omega
      have HL3 : Hid (L3 = L0 ++ (r.rows.take (j + 1)).flatMap encRw) := by
        show _ = _
        rw [HS.out, hL3, hL2, hL1, encRw]
        simp only [List.append_assoc]
      have T1 : Hid (∀ W v, Lib.HoldsBytes W v A → Calls Tryz.prog 30 #[v, .string key] W (RB W L1)) := fun W v h => by rw [hL1]; exact rtextO v A key W h (by omega) (by omega)
      have T2 : Hid (∀ W v, Lib.HoldsBytes W v L1 → Calls Tryz.prog 29 #[v, .int .i64 ver] W (RB W L2)) := fun W v h => by rw [hL2]; exact rnumO v L1 ver hvv W h (by omega)
      have T3 : Hid (∀ W v, Lib.HoldsBytes W v L2 → Calls Tryz.prog 30 #[v, .string (str row)] W (RB W L3)) := fun W v h => by
        have h3 := rtextO v L2 (str row) W h (by omega) (by rw [data_str]; omega)
        rw [data_str] at h3
        rw [hL3]
        exact h3
      have hbn := bel1 wr (.cells #[.string key, .int .i64 ver, .slice p row.length c] 47)
      have HBn : Hid (Below w1.heap.size w1 (wr.alloc (.cells #[.string key, .int .i64 ver, .slice p row.length c] 47))) := bel2 HB.out hbn
      have hu := holds_below HUj.out hbn
      have hh := holds_below hvb.bytes hbn
      have n0 := cell_new wr #[.string key, .int .i64 ver, .slice p row.length c] 47 0
      have n1 := cell_new wr #[.string key, .int .i64 ver, .slice p row.length c] 47 1
      have n2 := cell_new wr #[.string key, .int .i64 ver, .slice p row.length c] 47 2
      clear hx hxm hvb hj hLL hbn l1 l2 hL1 hL2 hL3 hkk hvv hrr
      go_upto_region 6 with fail
      clear k0 k1 k2' a0
      generalize hG : wr.heap.size = G at n0 n1 n2 HBn hu hh ⊢
      generalize wr.alloc (.cells #[.string key, .int .i64 ver, .slice p row.length c] 47) = wr1 at n0 n1 n2 HBn hu hh ⊢
      clear hG
      refine wp_region_held_drew (S := (fun W => W.cell? ⟨G, 0, none⟩ = some (.string key) ∧ W.cell? ⟨G, 1, none⟩ = some (.int .i64 ver) ∧ W.cell? ⟨G, 2, none⟩ = some (.slice p row.length c) ∧ Lib.HoldsBytes W (.slice p row.length c) row)) (by kernel_rfl) ⟨n0, n1, n2, hh⟩ (fun hHeld => ?_)
      change wpAnyH _ _ _ _ _ _ _ _ (World.drew _)
      refine wpAnyH_take (i := 0) (oi := { dst := some 25, op := Go.Op.move (Go.Operand.tmp 3), type := 26, pos := "ref.go:146", after := #[], guard := none }) (v := ?_) rfl (by kernel_rfl) (by kernel_rfl) (by kernel_rfl) (fun _ _ _ h => h) (Or.inl ⟨by rfl, ?_⟩) hHeld ?_
      rotate_left 1
      · (intro w hSw; (try dsimp only at hSw); go_simp <;> with_reducible rfl)
      simp only [Act.put, List.setIfInBounds_toArray, List.set_cons_zero, List.set_cons_succ]
      refine wpAnyH_take (i := 1) (oi := { dst := some 26, op := Go.Op.fieldAddr 47 (Go.Operand.tmp 5) 0, type := 0, pos := "ref.go:146", after := #[], guard := none }) (v := ?_) rfl (by kernel_rfl) (by kernel_rfl) (by kernel_rfl) (fun _ _ _ h => h) (Or.inl ⟨by rfl, ?_⟩) hHeld ?_
      rotate_left 1
      · (intro w hSw; (try dsimp only at hSw); go_simp <;> with_reducible rfl)
      simp only [Act.put, List.setIfInBounds_toArray, List.set_cons_zero, List.set_cons_succ]
      refine wpAnyH_take (i := 2) (oi := { dst := some 27, op := Go.Op.load 9 (Go.Operand.tmp 26), type := 9, pos := "ref.go:146", after := #[{ on := 1, ground := Go.Ground.data }], guard := none }) (v := ?_) rfl (by kernel_rfl) (by kernel_rfl) (by kernel_rfl) (fun _ _ _ h => h) (Or.inl ⟨by rfl, ?_⟩) hHeld ?_
      rotate_left 1
      · (intro w hSw; (try dsimp only at hSw); go_simp <;> with_reducible rfl)
      simp only [Act.put, List.setIfInBounds_toArray, List.set_cons_zero, List.set_cons_succ]
      refine wpAnyH_take (i := 4) (oi := { dst := some 29, op := Go.Op.fieldAddr 47 (Go.Operand.tmp 5) 1, type := 0, pos := "ref.go:146", after := #[], guard := none }) (v := ?_) rfl (by kernel_rfl) (by kernel_rfl) (by kernel_rfl) (fun _ _ _ h => h) (Or.inl ⟨by rfl, ?_⟩) hHeld ?_
      rotate_left 1
      · (intro w hSw; (try dsimp only at hSw); go_simp <;> with_reducible rfl)
      simp only [Act.put, List.setIfInBounds_toArray, List.set_cons_zero, List.set_cons_succ]
      refine wpAnyH_take (i := 5) (oi := { dst := some 30, op := Go.Op.load 3 (Go.Operand.tmp 29), type := 3, pos := "ref.go:146", after := #[{ on := 4, ground := Go.Ground.data }], guard := none }) (v := ?_) rfl (by kernel_rfl) (by kernel_rfl) (by kernel_rfl) (fun _ _ _ h => h) (Or.inl ⟨by rfl, ?_⟩) hHeld ?_
      rotate_left 1
      · (intro w hSw; (try dsimp only at hSw); go_simp <;> with_reducible rfl)
      simp only [Act.put, List.setIfInBounds_toArray, List.set_cons_zero, List.set_cons_succ]
      refine wpAnyH_take (i := 7) (oi := { dst := some 32, op := Go.Op.fieldAddr 47 (Go.Operand.tmp 5) 2, type := 0, pos := "ref.go:146", after := #[], guard := none }) (v := ?_) rfl (by kernel_rfl) (by kernel_rfl) (by kernel_rfl) (fun _ _ _ h => h) (Or.inl ⟨by rfl, ?_⟩) hHeld ?_
      rotate_left 1
      · (intro w hSw; (try dsimp only at hSw); go_simp <;> with_reducible rfl)
      simp only [Act.put, List.setIfInBounds_toArray, List.set_cons_zero, List.set_cons_succ]
      refine wpAnyH_take (i := 8) (oi := { dst := some 33, op := Go.Op.load 26 (Go.Operand.tmp 32), type := 26, pos := "ref.go:146", after := #[{ on := 7, ground := Go.Ground.data }], guard := none }) (v := ?_) rfl (by kernel_rfl) (by kernel_rfl) (by kernel_rfl) (fun _ _ _ h => h) (Or.inl ⟨by rfl, ?_⟩) hHeld ?_
      rotate_left 1
      · (intro w hSw; (try dsimp only at hSw); go_simp <;> with_reducible rfl)
      simp only [Act.put, List.setIfInBounds_toArray, List.set_cons_zero, List.set_cons_succ]
      refine wpAnyH_take (i := 9) (oi := { dst := some 34, op := Go.Op.convert 26 9 (Go.Operand.tmp 33), type := 9, pos := "ref.go:146", after := #[{ on := 8, ground := Go.Ground.data }], guard := none }) (v := .string (str row)) rfl (by kernel_rfl) (by kernel_rfl) (by kernel_rfl) (fun _ _ _ h => h) (Or.inl ⟨by rfl, ?_⟩) hHeld ?_
      · (intro w hSw; (try dsimp only at hSw); have hcv := conv_string w p c row hSw.2.2.2; rw [str_nums] at hcv; go_simp <;> with_reducible rfl)
      simp only [Act.put, List.setIfInBounds_toArray, List.set_cons_zero, List.set_cons_succ]
      refine wpAnyH_ready (rs := [3]) (by kernel_rfl) (by simp) ?_
      refine AllReadyH.cons (o := { dst := some 28, op := Go.Op.call { callee := Go.Callee.value (Go.Operand.func 30), args := #[Go.Operand.tmp 25, Go.Operand.tmp 27], argTypes := #[26, 9] }, type := 26, pos := "ref.go:146", after := #[{ on := 0, ground := Go.Ground.data }, { on := 2, ground := Go.Ground.data }], guard := none }) rfl (fun K hK => ?_) AllReadyH.nil
      go_simp
      refine (T1.out wr1.drew _ (holds_below hu (belNe wr1))).mono ?_
      rintro e w2 ⟨vw2, rfl, hvw2, hbw2⟩
      have b2 : Below wr1.heap.size wr1 w2 := drewBd hbw2
      obtain ⟨aw2, kw2, rfl⟩ := hvw2.shp
      clear hHeld
      refine hK.out _ _ (⟨cell_below n0 b2, cell_below n1 b2, cell_below n2 b2, holds_below hh b2⟩) (fun hHeld => ?_)
      clear hK K
      refine wpAnyH_ready (rs := [6]) (by kernel_rfl) (by simp) ?_
      refine AllReadyH.cons (o := { dst := some 31, op := Go.Op.call { callee := Go.Callee.value (Go.Operand.func 29), args := #[Go.Operand.tmp 28, Go.Operand.tmp 30], argTypes := #[26, 3] }, type := 26, pos := "ref.go:146", after := #[{ on := 3, ground := Go.Ground.data }, { on := 5, ground := Go.Ground.data }, { on := 3, ground := Go.Ground.chain }], guard := none }) rfl (fun K hK => ?_) AllReadyH.nil
      go_simp
      refine (T2.out w2 _ (own_holds hvw2)).mono ?_
      rintro e w3 ⟨vw3, rfl, hvw3, hbw3⟩
      have b3 : Below wr1.heap.size wr1 w3 := bel2 b2 hbw3
      obtain ⟨aw3, kw3, rfl⟩ := hvw3.shp
      clear hHeld
      refine hK.out _ _ (⟨cell_below n0 b3, cell_below n1 b3, cell_below n2 b3, holds_below hh b3⟩) (fun hHeld => ?_)
      clear hK K
      refine wpAnyH_ready (rs := [10]) (by kernel_rfl) (by simp) ?_
      refine AllReadyH.cons (o := { dst := some 35, op := Go.Op.call { callee := Go.Callee.value (Go.Operand.func 30), args := #[Go.Operand.tmp 31, Go.Operand.tmp 34], argTypes := #[26, 9] }, type := 26, pos := "ref.go:146", after := #[{ on := 6, ground := Go.Ground.data }, { on := 9, ground := Go.Ground.data }, { on := 6, ground := Go.Ground.chain }], guard := none }) rfl (fun K hK => ?_) AllReadyH.nil
      go_simp
      refine (T3.out w3 _ (own_holds hvw3)).mono ?_
      rintro e w4 ⟨vw4, rfl, hvw4, hbw4⟩
      have b4 : Below wr1.heap.size wr1 w4 := bel2 b3 hbw4
      obtain ⟨aw4, kw4, rfl⟩ := hvw4.shp
      clear hHeld
      refine hK.out _ _ (⟨cell_below n0 b4, cell_below n1 b4, cell_below n2 b4, holds_below hh b4⟩) (fun hHeld => ?_)
      clear hK K
      refine wpAnyH_ready (rs := [11]) (by kernel_rfl) (by simp) ?_
      refine AllReadyH.cons (o := { dst := some 3, op := Go.Op.assign (Go.Operand.tmp 35), type := 26, pos := "ref.go:146", after := #[{ on := 10, ground := Go.Ground.data }, { on := 10, ground := Go.Ground.chain }, { on := 0, ground := Go.Ground.phase }, { on := 1, ground := Go.Ground.phase }, { on := 2, ground := Go.Ground.phase }, { on := 3, ground := Go.Ground.phase }, { on := 4, ground := Go.Ground.phase }, { on := 5, ground := Go.Ground.phase }, { on := 6, ground := Go.Ground.phase }, { on := 7, ground := Go.Ground.phase }, { on := 8, ground := Go.Ground.phase }, { on := 9, ground := Go.Ground.phase }, { on := 10, ground := Go.Ground.phase }], guard := none }) rfl (fun K hK => ?_) AllReadyH.nil
      go_simp
      clear hHeld
      refine hK.out _ _ (⟨cell_below n0 b4, cell_below n1 b4, cell_below n2 b4, holds_below hh b4⟩) (fun hHeld => ?_)
      clear hK K
      refine wpAnyH_done (by kernel_rfl) ?_ _
      have HU4 : Hid (Lib.HoldsBytes w4 (.slice aw4 L3.length kw4) L3) := own_holds hvw4
      have HB4 : Hid (Below w1.heap.size w1 w4) := bel2 HBn.out b4
      clear hvw2 hvw3 hvw4 hbw2 hbw3 hbw4 b2 b3 b4 n0 n1 n2 hh hu
      go_wp2_with fail
      exact ⟨⟨j + 1, L3, aw4, kw4, hlt, by first | rfl | rw [HW.out], rfl, HL3, HU4, HB4⟩, meas hlt (by first | rfl | exact HW.out)⟩
    · obtain rfl : j = R := by omega
      have HUR : Hid (A = encL encRw r.rows) := by
        show _ = _
        rw [HAE.out, HL0.out.1, HRK.out.1, List.take_length]
        rfl
      have HLR : Hid ((encL encRw r.rows).length ≤ 20000000000009) := encL_len encRw HM.out.r0 fun z hz => encRw_len (HM.out.r1 z hz)
      have a1 := row_cell (row_below HB.out HO.out) (j := 1) rfl
      obtain ⟨L4, hL4⟩ : ∃ L, L = A ++ enc K := ⟨_, rfl⟩
      have HL4 : Hid (L4 = encL encRw r.rows ++ enc K ∧ L4.length ≤ 20000000000018) := ⟨by rw [hL4, HUR.out], by
        have := enc_length K (by have := HRK.out; omega)
        have h2 := HLR.out
        rw [hL4, HUR.out, List.length_append]
        omega⟩
      have N2 : Hid (Calls Tryz.prog 29 #[.slice au A.length ku, .int .i64 (K : Int)] wr (RB wr L4)) := by
        have h := rnumO _ A (K : Int) (by have := HRK.out; omega) wr HUj.out (by have := HLR.out; rw [HUR.out]; omega)
        rw [Int.toNat_natCast, ← hL4] at h
        exact h
      clear hL4 hj HUj HAE
      go_wp2_with fail
      refine N2.out.mono ?_
      rintro e w5 ⟨v5, rfl, hv5, hb5⟩
      obtain ⟨a5, k5, rfl⟩ := hv5.shp
      have HU5 : Hid (Lib.HoldsBytes w5 (.slice a5 L4.length k5) L4) := own_holds hv5
      have HB5 : Hid (Below w1.heap.size w1 w5) := bel2 HB.out hb5
      clear hv5 hb5 a0 a1 N2 HUR HLR
      go_wp2_with fail
      go_loopw [3, 6, 7, 8] (fun u i _ _ wr => ∃ (q : Nat) (A : List UInt8) (au : Option Addr) (ku : Nat), q ≤ K ∧ i = .int .i64 (q : Int) ∧ u = .slice au A.length ku ∧ Hid (A = L4 ++ (r.brs.take q).flatMap encBn) ∧ Hid (Lib.HoldsBytes wr (.slice au A.length ku) A) ∧ Hid (Below w1.heap.size w1 wr)) (fun _ i _ _ _ => K - (intOf i).toNat)
      case atStart => exact ⟨0, L4, a5, k5, Nat.zero_le _, rfl, rfl, by show _ = _; rw [List.take_zero, List.flatMap_nil, List.append_nil], HU5, HB5⟩
      case round =>
        obtain ⟨q, A, au, ku, hq, rfl, rfl, HAE, HUq, HB2⟩ := hrel
        have a1 := row_cell (row_below HB2.out HO.out) (j := 1) rfl
        by_cases hlt2 : q < K
        · have hql : (q : Int) < (K : Int) := by omega
          obtain ⟨x, hx⟩ : ∃ y, r.brs[q]? = some y := ⟨_, List.getElem?_eq_getElem (by have := HRK.out; omega)⟩
          have HXM : Hid (BgB x) := HM.out.b1 x (List.mem_of_getElem? hx)
          have HBw : Hid (Below w.heap.size w wr) := bel2 HA.out HB2.out
          obtain ⟨B, o, vb, rfl, _, k0, k1, hvb⟩ := (HV.out.below HBw.out).br q x hx
          obtain ⟨p, c, rfl, hc1, hc2, hvl⟩ := hvb
          obtain ⟨N, hN⟩ : ∃ N, N = x.ev.length := ⟨_, rfl⟩
          have HN : Hid (N = x.ev.length ∧ N ≤ 400) := ⟨hN, by rw [hN]; exact HXM.out.len⟩
          rw [← hN] at k1
          have HW : Hid (wrap64 ((q : Int) + 1) = ((q + 1 : Nat) : Int)) := wr1 hlt2 (by have := HRK.out; omega)
          have HS : Hid (L4 ++ (r.brs.take (q + 1)).flatMap encBn = A ++ encBn x) := by
            show _ = _
            rw [HAE.out, List.take_add_one, hx, List.flatMap_append, ← List.append_assoc]
            simp
          have hLL : A.length ≤ 40000000000018 := by
            have h1 := flat_lenR encBn 2000000000 (r.brs.take q) (fun z hz => encBn_len (HM.out.b1 z (List.mem_of_mem_take hz)))
            have h4 := HL4.out.2
            have h5 := HRK.out
            rw [List.length_take] at h1
            rw [HAE.out, List.length_append]
            have h6 : min q r.brs.length ≤ 10000 := by omega
            have h7 := Nat.mul_le_mul_right 2000000000 h6
            omega
          have hkk := HXM.out.key
          obtain ⟨L1, hL1⟩ : ∃ L, L = A ++ encT x.key.data.toList := ⟨_, rfl⟩
          obtain ⟨L2, hL2⟩ : ∃ L, L = L1 ++ enc N := ⟨_, rfl⟩
          have l1 : L1.length ≤ 40000002097179 := by rw [hL1, List.length_append]; have := encT_length x.key.data.toList (by omega); omega
          have HL2 : Hid (A ++ encBn x = L2 ++ x.ev.flatMap encT ∧ L2.length ≤ 40000002097188) := ⟨by rw [encH_more, encH, hL2, hL1, ← hN]; simp only [List.append_assoc], by rw [hL2, List.length_append]; have := enc_length N (by have := HN.out; omega); omega⟩
          have T1 : Hid (∀ W v, Lib.HoldsBytes W v A → Calls Tryz.prog 30 #[v, .string x.key] W (RB W L1)) := fun W v h => by rw [hL1]; exact rtextO v A x.key W h (by omega) (by omega)
          have T2 : Hid (∀ W v, Lib.HoldsBytes W v L1 → Calls Tryz.prog 29 #[v, .int .i64 (N : Int)] W (RB W L2)) := fun W v h => by
            have h3 := rnumO v L1 (N : Int) (by have := HN.out; omega) W h (by omega)
            rw [Int.toNat_natCast] at h3
            rw [hL2]
            exact h3
          have hbn := bel1 wr (.cells #[.string x.key, .slice p N c] 39)
          have HBn : Hid (Below w1.heap.size w1 (wr.alloc (.cells #[.string x.key, .slice p N c] 39))) := bel2 HB2.out hbn
          have HEV : Hid (Ls evE (fun _ => True) (wr.alloc (.cells #[.string x.key, .slice p N c] 39)) p x.ev) := hvl.below hbn
          have hu := holds_below HUq.out hbn
          have n0 := cell_new wr #[.string x.key, .slice p N c] 39 0
          have n1 := cell_new wr #[.string x.key, .slice p N c] 39 1
          have N1 : Hid (_ = _) := n1
          generalize hkey : x.key = key at T1 n0 n1 N1 hbn HBn HEV hu k0
          clear hx hvl hq hLL hbn l1 hL1 hL2 hkk hc1 hc2 hN hkey HUq
          go_upto_region 12 with fail
          clear k0 k1 a1
          generalize hG : wr.heap.size = G at n0 n1 N1 HBn hu HEV ⊢
          generalize wr.alloc (.cells #[.string key, .slice p N c] 39) = wx1 at n0 n1 N1 HBn hu HEV ⊢
          clear hG
          go_cut [3] from 53 to 60 (fun u wx => Hid (∃ a k, u = .slice a L2.length k ∧ Lib.HoldsBytes wx u L2) ∧ Hid (Below wx1.heap.size wx1 wx))
          case first =>
            refine wp_region_held_drew (S := (fun W => W.cell? ⟨G, 0, none⟩ = some (.string key) ∧ W.cell? ⟨G, 1, none⟩ = some (.slice p N c))) (by kernel_rfl) ⟨n0, n1⟩ (fun hHeld => ?_)
            change wpAnyH _ _ _ _ _ _ _ _ (World.drew _)
            refine wpAnyH_take (i := 0) (oi := { dst := some 53, op := Go.Op.move (Go.Operand.tmp 3), type := 26, pos := "ref.go:151", after := #[], guard := none }) (v := ?_) rfl (by kernel_rfl) (by kernel_rfl) (by kernel_rfl) (fun _ _ _ h => h) (Or.inl ⟨by rfl, ?_⟩) hHeld ?_
            rotate_left 1
            · (intro w hSw; (try dsimp only at hSw); go_simp <;> with_reducible rfl)
            simp only [Act.put, List.setIfInBounds_toArray, List.set_cons_zero, List.set_cons_succ]
            refine wpAnyH_take (i := 1) (oi := { dst := some 54, op := Go.Op.fieldAddr 39 (Go.Operand.tmp 7) 0, type := 0, pos := "ref.go:151", after := #[], guard := none }) (v := ?_) rfl (by kernel_rfl) (by kernel_rfl) (by kernel_rfl) (fun _ _ _ h => h) (Or.inl ⟨by rfl, ?_⟩) hHeld ?_
            rotate_left 1
            · (intro w hSw; (try dsimp only at hSw); go_simp <;> with_reducible rfl)
            simp only [Act.put, List.setIfInBounds_toArray, List.set_cons_zero, List.set_cons_succ]
            refine wpAnyH_take (i := 2) (oi := { dst := some 55, op := Go.Op.load 9 (Go.Operand.tmp 54), type := 9, pos := "ref.go:151", after := #[{ on := 1, ground := Go.Ground.data }], guard := none }) (v := ?_) rfl (by kernel_rfl) (by kernel_rfl) (by kernel_rfl) (fun _ _ _ h => h) (Or.inl ⟨by rfl, ?_⟩) hHeld ?_
            rotate_left 1
            · (intro w hSw; (try dsimp only at hSw); go_simp <;> with_reducible rfl)
            simp only [Act.put, List.setIfInBounds_toArray, List.set_cons_zero, List.set_cons_succ]
            refine wpAnyH_take (i := 4) (oi := { dst := some 57, op := Go.Op.fieldAddr 39 (Go.Operand.tmp 7) 1, type := 0, pos := "ref.go:151", after := #[], guard := none }) (v := ?_) rfl (by kernel_rfl) (by kernel_rfl) (by kernel_rfl) (fun _ _ _ h => h) (Or.inl ⟨by rfl, ?_⟩) hHeld ?_
            rotate_left 1
            · (intro w hSw; (try dsimp only at hSw); go_simp <;> with_reducible rfl)
            simp only [Act.put, List.setIfInBounds_toArray, List.set_cons_zero, List.set_cons_succ]
            refine wpAnyH_take (i := 5) (oi := { dst := some 58, op := Go.Op.load 37 (Go.Operand.tmp 57), type := 37, pos := "ref.go:151", after := #[{ on := 4, ground := Go.Ground.data }], guard := none }) (v := ?_) rfl (by kernel_rfl) (by kernel_rfl) (by kernel_rfl) (fun _ _ _ h => h) (Or.inl ⟨by rfl, ?_⟩) hHeld ?_
            rotate_left 1
            · (intro w hSw; (try dsimp only at hSw); go_simp <;> with_reducible rfl)
            simp only [Act.put, List.setIfInBounds_toArray, List.set_cons_zero, List.set_cons_succ]
            refine wpAnyH_ready (rs := [3, 6]) (by kernel_rfl) (by simp) ?_
            refine AllReadyH.cons (o := { dst := some 56, op := Go.Op.call { callee := Go.Callee.value (Go.Operand.func 30), args := #[Go.Operand.tmp 53, Go.Operand.tmp 55], argTypes := #[26, 9] }, type := 26, pos := "ref.go:151", after := #[{ on := 0, ground := Go.Ground.data }, { on := 2, ground := Go.Ground.data }], guard := none }) rfl (fun K hK => ?_) (AllReadyH.cons (o := { dst := some 59, op := Go.Op.call { callee := Go.Callee.builtin Go.Builtin.len, args := #[Go.Operand.tmp 58], argTypes := #[37] }, type := 3, pos := "ref.go:151", after := #[{ on := 5, ground := Go.Ground.data }], guard := none }) rfl (fun K hK => ?_) AllReadyH.nil)
            · go_simp
              refine (T1.out wx1.drew _ (holds_below hu (belNe wx1))).mono ?_
              rintro e w2 ⟨vw2, rfl, hvw2, hbw2⟩
              have b2 : Below wx1.heap.size wx1 w2 := drewBd hbw2
              obtain ⟨aw2, kw2, rfl⟩ := hvw2.shp
              clear hHeld
              refine hK.out _ _ (⟨cell_below n0 b2, cell_below n1 b2⟩) (fun hHeld => ?_)
              clear hK K
              refine wpAnyH_ready (rs := [6]) (by kernel_rfl) (by simp) ?_
              refine AllReadyH.cons (o := { dst := some 59, op := Go.Op.call { callee := Go.Callee.builtin Go.Builtin.len, args := #[Go.Operand.tmp 58], argTypes := #[37] }, type := 3, pos := "ref.go:151", after := #[{ on := 5, ground := Go.Ground.data }], guard := none }) rfl (fun K hK => ?_) AllReadyH.nil
              go_simp
              clear hHeld
              refine hK.out _ _ (⟨cell_below n0 b2, cell_below n1 b2⟩) (fun hHeld => ?_)
              clear hK K
              refine wpAnyH_ready (rs := [7]) (by kernel_rfl) (by simp) ?_
              refine AllReadyH.cons (o := { dst := some 60, op := Go.Op.call { callee := Go.Callee.value (Go.Operand.func 29), args := #[Go.Operand.tmp 56, Go.Operand.tmp 59], argTypes := #[26, 3] }, type := 26, pos := "ref.go:151", after := #[{ on := 3, ground := Go.Ground.data }, { on := 6, ground := Go.Ground.data }, { on := 3, ground := Go.Ground.chain }], guard := none }) rfl (fun K hK => ?_) AllReadyH.nil
              go_simp
              refine (T2.out w2 _ (own_holds hvw2)).mono ?_
              rintro e w3 ⟨vw3, rfl, hvw3, hbw3⟩
              have b3 : Below wx1.heap.size wx1 w3 := bel2 b2 hbw3
              obtain ⟨aw3, kw3, rfl⟩ := hvw3.shp
              clear hHeld
              refine hK.out _ _ (⟨cell_below n0 b3, cell_below n1 b3⟩) (fun hHeld => ?_)
              clear hK K
              refine wpAnyH_ready (rs := [8]) (by kernel_rfl) (by simp) ?_
              refine AllReadyH.cons (o := { dst := some 3, op := Go.Op.assign (Go.Operand.tmp 60), type := 26, pos := "ref.go:151", after := #[{ on := 7, ground := Go.Ground.data }, { on := 7, ground := Go.Ground.chain }, { on := 0, ground := Go.Ground.phase }, { on := 1, ground := Go.Ground.phase }, { on := 2, ground := Go.Ground.phase }, { on := 3, ground := Go.Ground.phase }, { on := 4, ground := Go.Ground.phase }, { on := 5, ground := Go.Ground.phase }, { on := 6, ground := Go.Ground.phase }, { on := 7, ground := Go.Ground.phase }], guard := none }) rfl (fun K hK => ?_) AllReadyH.nil
              go_simp
              clear hHeld
              refine hK.out _ _ (⟨cell_below n0 b3, cell_below n1 b3⟩) (fun hHeld => ?_)
              clear hK K
              refine wpAnyH_done (by kernel_rfl) ?_ _
              go_wp2_with fail
              go_meet
              case rel => exact ⟨⟨_, _, rfl, own_holds hvw3⟩, b3⟩
            · go_simp
              clear hHeld
              refine hK.out _ _ (⟨n0, n1⟩) (fun hHeld => ?_)
              clear hK K
              refine wpAnyH_ready (rs := [3]) (by kernel_rfl) (by simp) ?_
              refine AllReadyH.cons (o := { dst := some 56, op := Go.Op.call { callee := Go.Callee.value (Go.Operand.func 30), args := #[Go.Operand.tmp 53, Go.Operand.tmp 55], argTypes := #[26, 9] }, type := 26, pos := "ref.go:151", after := #[{ on := 0, ground := Go.Ground.data }, { on := 2, ground := Go.Ground.data }], guard := none }) rfl (fun K hK => ?_) AllReadyH.nil
              go_simp
              refine (T1.out wx1.drew _ (holds_below hu (belNe wx1))).mono ?_
              rintro e w2 ⟨vw2, rfl, hvw2, hbw2⟩
              have b2 : Below wx1.heap.size wx1 w2 := drewBd hbw2
              obtain ⟨aw2, kw2, rfl⟩ := hvw2.shp
              clear hHeld
              refine hK.out _ _ (⟨cell_below n0 b2, cell_below n1 b2⟩) (fun hHeld => ?_)
              clear hK K
              refine wpAnyH_ready (rs := [7]) (by kernel_rfl) (by simp) ?_
              refine AllReadyH.cons (o := { dst := some 60, op := Go.Op.call { callee := Go.Callee.value (Go.Operand.func 29), args := #[Go.Operand.tmp 56, Go.Operand.tmp 59], argTypes := #[26, 3] }, type := 26, pos := "ref.go:151", after := #[{ on := 3, ground := Go.Ground.data }, { on := 6, ground := Go.Ground.data }, { on := 3, ground := Go.Ground.chain }], guard := none }) rfl (fun K hK => ?_) AllReadyH.nil
              go_simp
              refine (T2.out w2 _ (own_holds hvw2)).mono ?_
              rintro e w3 ⟨vw3, rfl, hvw3, hbw3⟩
              have b3 : Below wx1.heap.size wx1 w3 := bel2 b2 hbw3
              obtain ⟨aw3, kw3, rfl⟩ := hvw3.shp
              clear hHeld
              refine hK.out _ _ (⟨cell_below n0 b3, cell_below n1 b3⟩) (fun hHeld => ?_)
              clear hK K
              refine wpAnyH_ready (rs := [8]) (by kernel_rfl) (by simp) ?_
              refine AllReadyH.cons (o := { dst := some 3, op := Go.Op.assign (Go.Operand.tmp 60), type := 26, pos := "ref.go:151", after := #[{ on := 7, ground := Go.Ground.data }, { on := 7, ground := Go.Ground.chain }, { on := 0, ground := Go.Ground.phase }, { on := 1, ground := Go.Ground.phase }, { on := 2, ground := Go.Ground.phase }, { on := 3, ground := Go.Ground.phase }, { on := 4, ground := Go.Ground.phase }, { on := 5, ground := Go.Ground.phase }, { on := 6, ground := Go.Ground.phase }, { on := 7, ground := Go.Ground.phase }], guard := none }) rfl (fun K hK => ?_) AllReadyH.nil
              go_simp
              clear hHeld
              refine hK.out _ _ (⟨cell_below n0 b3, cell_below n1 b3⟩) (fun hHeld => ?_)
              clear hK K
              refine wpAnyH_done (by kernel_rfl) ?_ _
              go_wp2_with fail
              go_meet
              case rel => exact ⟨⟨_, _, rfl, own_holds hvw3⟩, b3⟩
          case rest =>
            obtain ⟨hg, hbc⟩ := hcut
            obtain ⟨a6, k6, rfl, hh6⟩ := hg.out
            have HU6 : Hid (Lib.HoldsBytes wc (.slice a6 L2.length k6) L2) := hh6
            have HB6 : Hid (Below wx1.heap.size wx1 wc) := hbc
            clear hg hbc hh6 n0 n1 hu
            go_wp2_with fail
            go_loopw [3, 8] (fun u i wr => ∃ (m : Nat) (A : List UInt8) (au : Option Addr) (ku : Nat), m ≤ N ∧ i = .int .i64 (m : Int) ∧ u = .slice au A.length ku ∧ Hid (A = L2 ++ (x.ev.take m).flatMap encT) ∧ Hid (Lib.HoldsBytes wr (.slice au A.length ku) A) ∧ Hid (Below wx1.heap.size wx1 wr)) (fun _ i _ => N - (intOf i).toNat)
            case atStart => exact ⟨0, L2, a6, k6, Nat.zero_le _, rfl, rfl, by show _ = _; rw [List.take_zero, List.flatMap_nil, List.append_nil], HU6, HB6⟩
            case round =>
              obtain ⟨m, A, au, ku, hm, rfl, rfl, HAE, HUm, HB3⟩ := hrel
              have n1 := cell_below N1.out HB3.out
              by_cases hlt3 : m < N
              · have hml : (m : Int) < (N : Int) := by omega
                obtain ⟨y, hy⟩ : ∃ y, x.ev[m]? = some y := ⟨_, List.getElem?_eq_getElem (by have := HN.out; omega)⟩
                have hym := HXM.out.ev y (List.mem_of_getElem? hy)
                obtain ⟨B', o', ve, rfl, _, e0, hve⟩ := (HEV.out.below HB3.out).ev m y hy
                obtain ⟨pe, ce, rfl, _⟩ := hve.shape
                have hcv := conv_string wr pe ce y hve.bytes
                rw [str_nums] at hcv
                have HW3 : Hid (wrap64 ((m : Int) + 1) = ((m + 1 : Nat) : Int)) := wr1 hlt3 (by have := HN.out; omega)
                obtain ⟨L7, hL7⟩ : ∃ L, L = A ++ encT y := ⟨_, rfl⟩
                have HL7 : Hid (L7 = L2 ++ (x.ev.take (m + 1)).flatMap encT) := by
                  show _ = _
                  rw [hL7, HAE.out, List.take_add_one, hy, List.flatMap_append, ← List.append_assoc]
                  simp
                have TT : Hid (Calls Tryz.prog 30 #[.slice au A.length ku, .string (str y)] wr (RB wr L7)) := by
                  have h1 := flat_lenR encT 2097161 (x.ev.take m) (fun z hz => by
                    have h2 := HXM.out.ev z (List.mem_of_mem_take hz)
                    have h3 := encT_length z (by omega)
                    omega)
                  rw [List.length_take] at h1
                  have h6 : min m x.ev.length ≤ 400 := by have := HN.out; omega
                  have h7 := Nat.mul_le_mul_right 2097161 h6
                  have h8 := HL2.out.2
                  have h3 := rtextO (.slice au A.length ku) A (str y) wr HUm.out (by rw [HAE.out, List.length_append]; omega) (by rw [data_str]; omega)
                  rw [data_str, ← hL7] at h3
                  exact h3
                clear hy hym hve hm hL7
                go_wp2_with fail
                refine TT.out.mono ?_
                rintro e w7 ⟨v7, rfl, hv7, hb7⟩
                obtain ⟨a7, k7, rfl⟩ := hv7.shp
                have HU7 : Hid (Lib.HoldsBytes w7 (.slice a7 L7.length k7) L7) := own_holds hv7
                have HB7 : Hid (Below wx1.heap.size wx1 w7) := bel2 HB3.out hb7
                clear hv7 hb7 TT hcv e0 n1
                go_wp2_with fail
                exact ⟨⟨m + 1, L7, a7, k7, hlt3, by first | rfl | rw [HW3.out], rfl, HL7, HU7, HB7⟩, meas hlt3 (by first | rfl | exact HW3.out)⟩
              · obtain rfl : m = N := by omega
                have HFIN : Hid (A = L4 ++ (r.brs.take (q + 1)).flatMap encBn) := by
                  show _ = _
                  rw [HS.out, HL2.out.1, HAE.out, HN.out.1, List.take_length]
                have HBf : Hid (Below w1.heap.size w1 wr) := bel2 HBn.out HB3.out
                go_wp2_with fail
                clear n1
                exact ⟨⟨q + 1, A, au, ku, hlt2, by first | rfl | rw [HW.out], rfl, HFIN, HUm, HBf⟩, meas hlt2 (by first | rfl | exact HW.out)⟩
        · obtain rfl : q = K := by omega
          have HFIN : Hid (A = encD r) := by
            show _ = _
            rw [HAE.out, HL4.out.1, HRK.out.2.1, List.take_length, encD, List.append_assoc]
            rfl
          go_wp2_with fail
          go_ret
          exact ⟨_, rfl, by have h := HUq.out; rw [HFIN.out] at h ⊢; exact h, bel2 HA.out HB2.out⟩
end Go.Proofs.YtkaaddahegkmgaaGreat
