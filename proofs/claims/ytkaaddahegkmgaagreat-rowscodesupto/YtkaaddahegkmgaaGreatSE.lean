/- The contracts of encodeAll and of Encode. -/
import Derived.Test.YtkaaddahegkmgaaGreatSD
import Derived.Test.YtkaaddahegkmgaaGreatRH
namespace Go.Proofs.YtkaaddahegkmgaaGreat
open Go.ChangeShapes Go.WideShapes Go.ChangeAt Go.RowKit
theorem belNe (w : World) : Below w.heap.size w w.drew := (Below.refl _ w).drew
theorem Ub.shp1 {lo : Nat} {w : World} {u : Value} {l : List UInt8} (h : Ub lo w u l) (h0 : 0 < l.length) : ∃ g c, u = .slice (some ⟨g, 0, none⟩) l.length c := by
  rcases h with ⟨_, ⟨rfl, h2⟩ | ⟨g, cap, cur, rfl, _⟩⟩ | ⟨g, h1, h2, h3⟩
  · omega
  · exact ⟨g, cap, rfl⟩
  · exact ⟨g, _, h2⟩
theorem encRw_pos (x : Rw) : 0 < (encRw x).length := by
  have := encT_pos x.key.data.toList
  unfold encRw
  rw [List.length_append]
  omega
theorem encBn_pos (x : Bn) : 0 < (encBn x).length := by
  have := encT_pos x.key.data.toList
  unfold encBn
  rw [List.length_append]
  omega
theorem encRw_len {x : Rw} (h : BgR x) : (encRw x).length ≤ 2000000000 := by
  have h1 := encT_length x.key.data.toList (by have := h.key; omega)
  have h2 := encT_length x.row (by have := h.row; omega)
  have h3 := enc_length x.ver.toNat (by have := h.hi; omega)
  have h4 := h.key
  have h5 := h.row
  unfold encRw
  rw [List.length_append, List.length_append]
  omega
theorem encBn_len {x : Bn} (h : BgB x) : (encBn x).length ≤ 2000000000 := by
  have h1 := encT_length x.key.data.toList (by have := h.key; omega)
  have h3 := enc_length x.ev.length (by have := h.len; omega)
  have h4 := h.key
  have h5 := flat_lenR encT 2097161 x.ev (fun e he => by
    have h6 := h.ev e he
    have h7 := encT_length e (by omega)
    omega)
  have h8 := Nat.mul_le_mul_right 2097161 h.len
  unfold encBn encL
  rw [List.length_append, List.length_append]
  omega
theorem encL_len {α : Type} (f : α → List UInt8) {xs : List α} (hn : xs.length ≤ 10000) (h : ∀ x ∈ xs, (f x).length ≤ 2000000000) : (encL f xs).length ≤ 20000000000009 := by
  have h1 := flat_lenR f 2000000000 xs h
  have h2 := Nat.mul_le_mul_right 2000000000 hn
  have h3 := enc_length xs.length (by omega)
  unfold encL
  rw [List.length_append]
  omega
set_option maxHeartbeats 4000000 in
set_option maxRecDepth 100000 in
theorem encAllRow_calls (a : Option Addr) (c : Nat) (xs : List Rw) (w : World) (h : Ls rowE (fun _ => True) w a xs) (hn : xs.length ≤ 10000) (hl : ∀ x ∈ xs, BgR x) :
    Calls Tryz.prog 27 #[.slice a xs.length c] w fun e w' => (∃ u, e = .returned u ∧ Ub w.heap.size w' u (encL encRw xs)) ∧ Below w.heap.size w w' := by
  obtain ⟨N, hN⟩ : ∃ N, N = xs.length := ⟨_, rfl⟩
  have HLS : Hid (Ls rowE (fun _ => True) w a xs) := h
  have HLM : Hid (∀ x ∈ xs, BgR x) := hl
  have HN : Hid (N = xs.length ∧ N ≤ 10000) := ⟨hN, by omega⟩
  obtain ⟨L2, hL2⟩ : ∃ L, L = enc N := ⟨_, rfl⟩
  have HL2 : Hid (L2 = enc N ∧ L2.length ≤ 9) := ⟨hL2, by rw [hL2]; exact enc_length N (by omega)⟩
  have T2 : Hid (Calls Tryz.prog 57 #[.slice none 0 0, .int .i64 (N : Int)] w (NB w L2)) := by
    have h := num_calls (.slice none 0 0) [] (N : Int) (by omega) w (holds_nil _) (by simp)
    rw [List.nil_append, Int.toNat_natCast, ← hL2] at h
    exact h
  rw [← hN]
  clear h hl hn hL2 hN
  go_enter Tryz.func27, Tryz.ntmps27
  go_wp2_with fail
  refine T2.out.mono ?_
  rintro e w2 ⟨g2, hg2, rfl, hh2, hb2⟩
  have HU : Hid (Ub w.heap.size w2 (.slice (some ⟨g2, 0, none⟩) L2.length L2.length) L2 ∧ Below w.heap.size w w2) := ⟨.inr ⟨g2, hg2, rfl, hh2⟩, hb2⟩
  clear hg2 hh2 hb2 T2
  go_wp2_with fail
  go_loopw [3, 4, 10] (fun u _ i wr => ∃ j : Nat, j ≤ N ∧ i = .int .i64 (j : Int) ∧ Hid (Ub w.heap.size wr u (L2 ++ (xs.take j).flatMap encRw)) ∧ Hid (Below w.heap.size w wr)) (fun _ _ i _ => N - (intOf i).toNat)
  case atStart => exact ⟨0, Nat.zero_le _, rfl, by show Ub _ _ _ _; rw [List.take_zero, List.flatMap_nil, List.append_nil]; exact HU.out.1, HU.out.2⟩
  case round =>
    obtain ⟨j, hj, rfl, HUj, HB⟩ := hrel
    by_cases hlt : j < N
    · have hjl : (j : Int) < (N : Int) := by omega
      obtain ⟨y, hy⟩ : ∃ y, xs[j]? = some y := ⟨_, List.getElem?_eq_getElem (by have := HN.out.1; omega)⟩
      have hym := HLM.out y (List.mem_of_getElem? hy)
      obtain ⟨B, o, vb, rfl, _, k0, k1, k2, hvb⟩ := (HLS.out.below HB.out).row j y hy
      have HT : Hid (Calls Tryz.prog 58 #[.pointer (some ⟨B, o + j * 3, none⟩)] wr (NB wr (encRw y))) := encRow_calls wr B (o + j * 3) y vb k0 k1 k2 hvb hym
      clear k0 k1 k2 hvb
      have HLT : Hid ((encRw y).length ≤ 2000000000 ∧ 0 < (encRw y).length) := ⟨encRw_len hym, encRw_pos y⟩
      have HS : Hid (L2 ++ (xs.take (j + 1)).flatMap encRw = L2 ++ (xs.take j).flatMap encRw ++ encRw y) := by
        show _ = _
        rw [List.take_add_one, hy, List.flatMap_append, ← List.append_assoc]
        simp
      have HLL : Hid ((L2 ++ (xs.take j).flatMap encRw).length ≤ 9 + 10000 * 2000000000) := by
        show _ ≤ _
        have h1 := flat_lenR encRw 2000000000 (xs.take j) (fun z hz => encRw_len (HLM.out z (List.mem_of_mem_take hz)))
        have h4 := HL2.out.2
        have h5 := HN.out
        rw [List.length_take] at h1
        rw [List.length_append]
        have h6 : min j xs.length ≤ 10000 := by omega
        have h7 := Nat.mul_le_mul_right 2000000000 h6
        omega
      have HW : Hid (wrap64 ((j : Int) + 1) = ((j + 1 : Nat) : Int)) := wr1 hlt (by have := HN.out; omega)
      generalize encRw y = T at HT HLT HS
      obtain ⟨pu, cu, hue⟩ := HUj.out.shp
      subst hue
      generalize (L2 ++ (xs.take j).flatMap encRw) = A at HUj HS HLL
      clear hy hj hym
      go_wp2_with fail
      refine HT.out.mono ?_
      rintro e w4 ⟨g4, _, rfl, gh4, gb4⟩
      have hb4 := HB.out.trans (gb4.mono HB.out.size)
      obtain ⟨u', w5, hr5, ho5, hb5⟩ := ub_app (HUj.out.blw gb4) gh4 HLT.out.2 (by have := HLL.out; have := HLT.out; omega) hb4.size
      have HU5 : Hid (Ub w.heap.size w5 u' (L2 ++ (xs.take (j + 1)).flatMap encRw)) := by rw [HS.out]; exact ho5
      have HB5 : Hid (Below w.heap.size w w5) := hb4.trans hb5
      have HR5 : Hid (∀ ty, _ = _) := hr5
      clear gh4 gb4 hr5 ho5 hb5 hb4
      go_wp2_with (at_builtin; refine Lib.wpList_append_run _ rfl _ _ 26 26 rfl _ _ rfl rfl _ _ (HR5.out _) ?_)
      exact ⟨⟨j + 1, hlt, by first | rfl | rw [HW.out], HU5, HB5⟩, meas hlt (by first | rfl | exact HW.out)⟩
    · obtain rfl : j = N := by omega
      go_wp2_with fail
      go_ret
      refine ⟨⟨_, rfl, ?_⟩, HB.out⟩
      have h := HUj.out
      rw [HL2.out.1, HN.out.1, List.take_length] at h
      exact h
set_option maxHeartbeats 4000000 in
set_option maxRecDepth 100000 in
theorem encAllBr_calls (a : Option Addr) (c : Nat) (xs : List Bn) (w : World) (h : Ls brE (fun _ => True) w a xs) (hn : xs.length ≤ 10000) (hl : ∀ x ∈ xs, BgB x) :
    Calls Tryz.prog 28 #[.slice a xs.length c] w fun e w' => (∃ u, e = .returned u ∧ Ub w.heap.size w' u (encL encBn xs)) ∧ Below w.heap.size w w' := by
  obtain ⟨N, hN⟩ : ∃ N, N = xs.length := ⟨_, rfl⟩
  have HLS : Hid (Ls brE (fun _ => True) w a xs) := h
  have HLM : Hid (∀ x ∈ xs, BgB x) := hl
  have HN : Hid (N = xs.length ∧ N ≤ 10000) := ⟨hN, by omega⟩
  obtain ⟨L2, hL2⟩ : ∃ L, L = enc N := ⟨_, rfl⟩
  have HL2 : Hid (L2 = enc N ∧ L2.length ≤ 9) := ⟨hL2, by rw [hL2]; exact enc_length N (by omega)⟩
  have T2 : Hid (Calls Tryz.prog 57 #[.slice none 0 0, .int .i64 (N : Int)] w (NB w L2)) := by
    have h := num_calls (.slice none 0 0) [] (N : Int) (by omega) w (holds_nil _) (by simp)
    rw [List.nil_append, Int.toNat_natCast, ← hL2] at h
    exact h
  rw [← hN]
  clear h hl hn hL2 hN
  go_enter Tryz.func28, Tryz.ntmps28
  go_wp2_with fail
  refine T2.out.mono ?_
  rintro e w2 ⟨g2, hg2, rfl, hh2, hb2⟩
  have HU : Hid (Ub w.heap.size w2 (.slice (some ⟨g2, 0, none⟩) L2.length L2.length) L2 ∧ Below w.heap.size w w2) := ⟨.inr ⟨g2, hg2, rfl, hh2⟩, hb2⟩
  clear hg2 hh2 hb2 T2
  go_wp2_with fail
  go_loopw [3, 4, 10] (fun u _ i wr => ∃ j : Nat, j ≤ N ∧ i = .int .i64 (j : Int) ∧ Hid (Ub w.heap.size wr u (L2 ++ (xs.take j).flatMap encBn)) ∧ Hid (Below w.heap.size w wr)) (fun _ _ i _ => N - (intOf i).toNat)
  case atStart => exact ⟨0, Nat.zero_le _, rfl, by show Ub _ _ _ _; rw [List.take_zero, List.flatMap_nil, List.append_nil]; exact HU.out.1, HU.out.2⟩
  case round =>
    obtain ⟨j, hj, rfl, HUj, HB⟩ := hrel
    by_cases hlt : j < N
    · have hjl : (j : Int) < (N : Int) := by omega
      obtain ⟨y, hy⟩ : ∃ y, xs[j]? = some y := ⟨_, List.getElem?_eq_getElem (by have := HN.out.1; omega)⟩
      have hym := HLM.out y (List.mem_of_getElem? hy)
      obtain ⟨B, o, vb, rfl, _, k0, k1, hvb⟩ := (HLS.out.below HB.out).br j y hy
      have HT : Hid (Calls Tryz.prog 59 #[.pointer (some ⟨B, o + j * 2, none⟩)] wr fun e w' => (∃ u, e = .returned u ∧ Ub wr.heap.size w' u (encBn y)) ∧ Below wr.heap.size wr w') := encBr_calls wr B (o + j * 2) y vb k0 k1 hvb hym
      clear k0 k1 hvb
      have HLT : Hid ((encBn y).length ≤ 2000000000 ∧ 0 < (encBn y).length) := ⟨encBn_len hym, encBn_pos y⟩
      have HS : Hid (L2 ++ (xs.take (j + 1)).flatMap encBn = L2 ++ (xs.take j).flatMap encBn ++ encBn y) := by
        show _ = _
        rw [List.take_add_one, hy, List.flatMap_append, ← List.append_assoc]
        simp
      have HLL : Hid ((L2 ++ (xs.take j).flatMap encBn).length ≤ 9 + 10000 * 2000000000) := by
        show _ ≤ _
        have h1 := flat_lenR encBn 2000000000 (xs.take j) (fun z hz => encBn_len (HLM.out z (List.mem_of_mem_take hz)))
        have h4 := HL2.out.2
        have h5 := HN.out
        rw [List.length_take] at h1
        rw [List.length_append]
        have h6 : min j xs.length ≤ 10000 := by omega
        have h7 := Nat.mul_le_mul_right 2000000000 h6
        omega
      have HW : Hid (wrap64 ((j : Int) + 1) = ((j + 1 : Nat) : Int)) := wr1 hlt (by have := HN.out; omega)
      generalize encBn y = T at HT HLT HS
      obtain ⟨pu, cu, hue⟩ := HUj.out.shp
      subst hue
      generalize (L2 ++ (xs.take j).flatMap encBn) = A at HUj HS HLL
      clear hy hj hym
      go_wp2_with fail
      refine HT.out.mono ?_
      rintro e w4 ⟨⟨u4, rfl, hu4⟩, gb4⟩
      obtain ⟨g4, c4, rfl⟩ := hu4.shp1 HLT.out.2
      have gh4 := hu4.holds
      have hb4 := HB.out.trans (gb4.mono HB.out.size)
      obtain ⟨u', w5, hr5, ho5, hb5⟩ := ub_app (HUj.out.blw gb4) gh4 HLT.out.2 (by have := HLL.out; have := HLT.out; omega) hb4.size
      have HU5 : Hid (Ub w.heap.size w5 u' (L2 ++ (xs.take (j + 1)).flatMap encBn)) := by rw [HS.out]; exact ho5
      have HB5 : Hid (Below w.heap.size w w5) := hb4.trans hb5
      have HR5 : Hid (∀ ty, _ = _) := hr5
      clear gh4 gb4 hr5 ho5 hb5 hb4
      go_wp2_with (at_builtin; refine Lib.wpList_append_run _ rfl _ _ 26 26 rfl _ _ rfl rfl _ _ (HR5.out _) ?_)
      exact ⟨⟨j + 1, hlt, by first | rfl | rw [HW.out], HU5, HB5⟩, meas hlt (by first | rfl | exact HW.out)⟩
    · obtain rfl : j = N := by omega
      go_wp2_with fail
      go_ret
      refine ⟨⟨_, rfl, ?_⟩, HB.out⟩
      have h := HUj.out
      rw [HL2.out.1, HN.out.1, List.take_length] at h
      exact h
set_option maxHeartbeats 4000000 in
set_option maxRecDepth 100000 in
theorem encode_calls (v : Value) (r : Db) (w : World) (hv : IsR (fun _ => True) w v r) (hl : BgD r) : Calls Tryz.prog 9 #[v] w fun e w' => ∃ u, e = .returned u ∧ Lib.HoldsBytes w' u (encD r) ∧ Below w.heap.size w w' := by
  obtain ⟨pu, cu, pb, cb, rfl, hu, hb⟩ := hv.shape
  obtain ⟨_, _, e1, _, _, hls1⟩ := hu
  cases e1
  obtain ⟨_, _, e2, _, _, hls2⟩ := hb
  cases e2
  have HU : Hid (Ls rowE (fun _ => True) w pu r.rows) := hls1
  have HB : Hid (Ls brE (fun _ => True) w pb r.brs) := hls2
  have HM : Hid (BgD r) := hl
  obtain ⟨L1, hL1⟩ : ∃ L, L = encL encRw r.rows := ⟨_, rfl⟩
  obtain ⟨L2, hL2⟩ : ∃ L, L = encL encBn r.brs := ⟨_, rfl⟩
  obtain ⟨R, hR⟩ : ∃ R, R = r.rows.length := ⟨_, rfl⟩
  obtain ⟨K, hK⟩ : ∃ K, K = r.brs.length := ⟨_, rfl⟩
  have ee : encD r = L1 ++ L2 := by rw [hL1, hL2]; rfl
  rw [ee, ← hR, ← hK]
  have HLL : Hid (L1.length ≤ 20000000000009 ∧ L2.length ≤ 20000000000009) := ⟨by rw [hL1]; exact encL_len _ hl.r0 fun x hx => encRw_len (hl.r1 x hx), by rw [hL2]; exact encL_len _ hl.b0 fun x hx => encBn_len (hl.b1 x hx)⟩
  have HA : Hid (Below w.heap.size w (w.alloc (.cells #[.slice pu R cu, .slice pb K cb] 25))) := bel1 _ _
  have e0 := cell_new w #[.slice pu R cu, .slice pb K cb] 25 0
  have e1 : (w.alloc (.cells #[.slice pu R cu, .slice pb K cb] 25)).cell? ⟨w.heap.size, 0 + 1, none⟩ = some (.slice pb K cb) := cell_new w #[.slice pu R cu, .slice pb K cb] 25 1
  have C1 : Hid (∀ W, Below (w.alloc (.cells #[.slice pu R cu, .slice pb K cb] 25)).heap.size (w.alloc (.cells #[.slice pu R cu, .slice pb K cb] 25)) W → Calls Tryz.prog 27 #[.slice pu R cu] W fun e w' => (∃ u, e = .returned u ∧ Ub W.heap.size w' u L1) ∧ Below W.heap.size W w') := fun W hW => by rw [hR, hL1]; exact encAllRow_calls pu cu r.rows W (HU.out.below (bel2 HA.out hW)) HM.out.r0 HM.out.r1
  have C2 : Hid (∀ W, Below (w.alloc (.cells #[.slice pu R cu, .slice pb K cb] 25)).heap.size (w.alloc (.cells #[.slice pu R cu, .slice pb K cb] 25)) W → Calls Tryz.prog 28 #[.slice pb K cb] W fun e w' => (∃ u, e = .returned u ∧ Ub W.heap.size w' u L2) ∧ Below W.heap.size W w') := fun W hW => by rw [hK, hL2]; exact encAllBr_calls pb cb r.brs W (HB.out.below (bel2 HA.out hW)) HM.out.b0 HM.out.b1
  clear hls1 hls2 hv hl hL1 hL2 hR hK ee
  go_enter Tryz.func9, Tryz.ntmps9
  go_upto_region 1 with fail
  generalize w.alloc (.cells #[.slice pu R cu, .slice pb K cb] 25) = w1 at HA e0 e1 C1 C2 ⊢
  refine wp_region_held_drew (S := (fun W => W.cell? ⟨w.heap.size, 0, none⟩ = some (.slice pu R cu) ∧ W.cell? ⟨w.heap.size, 0 + 1, none⟩ = some (.slice pb K cb))) (by kernel_rfl) ⟨e0, e1⟩ (fun hHeld => ?_)
  change wpAnyH _ _ _ _ _ _ _ _ (World.drew _)
  refine wpAnyH_take (i := 0) (oi := { dst := some 3, op := Go.Op.fieldAddr 25 (Go.Operand.tmp 1) 0, type := 0, pos := "rows.go:164", after := #[], guard := none }) (v := ?_) rfl (by kernel_rfl) (by kernel_rfl) (by kernel_rfl) (fun _ _ _ h => h) (Or.inl ⟨by rfl, ?_⟩) hHeld ?_
  rotate_left 1
  · (intro w hSw; (try dsimp only at hSw); go_simp <;> with_reducible rfl)
  simp only [Act.put, List.setIfInBounds_toArray, List.set_cons_zero, List.set_cons_succ]
  refine wpAnyH_take (i := 1) (oi := { dst := some 4, op := Go.Op.load 22 (Go.Operand.tmp 3), type := 22, pos := "rows.go:164", after := #[{ on := 0, ground := Go.Ground.data }], guard := none }) (v := ?_) rfl (by kernel_rfl) (by kernel_rfl) (by kernel_rfl) (fun _ _ _ h => h) (Or.inl ⟨by rfl, ?_⟩) hHeld ?_
  rotate_left 1
  · (intro w hSw; (try dsimp only at hSw); go_simp <;> with_reducible rfl)
  simp only [Act.put, List.setIfInBounds_toArray, List.set_cons_zero, List.set_cons_succ]
  refine wpAnyH_take (i := 3) (oi := { dst := some 6, op := Go.Op.fieldAddr 25 (Go.Operand.tmp 1) 1, type := 0, pos := "rows.go:164", after := #[], guard := none }) (v := ?_) rfl (by kernel_rfl) (by kernel_rfl) (by kernel_rfl) (fun _ _ _ h => h) (Or.inl ⟨by rfl, ?_⟩) hHeld ?_
  rotate_left 1
  · (intro w hSw; (try dsimp only at hSw); go_simp <;> with_reducible rfl)
  simp only [Act.put, List.setIfInBounds_toArray, List.set_cons_zero, List.set_cons_succ]
  refine wpAnyH_take (i := 4) (oi := { dst := some 7, op := Go.Op.load 23 (Go.Operand.tmp 6), type := 23, pos := "rows.go:164", after := #[{ on := 3, ground := Go.Ground.data }], guard := none }) (v := ?_) rfl (by kernel_rfl) (by kernel_rfl) (by kernel_rfl) (fun _ _ _ h => h) (Or.inl ⟨by rfl, ?_⟩) hHeld ?_
  rotate_left 1
  · (intro w hSw; (try dsimp only at hSw); go_simp <;> with_reducible rfl)
  simp only [Act.put, List.setIfInBounds_toArray, List.set_cons_zero, List.set_cons_succ]
  refine wpAnyH_ready (rs := [2]) (by kernel_rfl) (by simp) ?_
  refine AllReadyH.cons (o := { dst := some 5, op := Go.Op.call { callee := Go.Callee.value (Go.Operand.func 27), args := #[Go.Operand.tmp 4], argTypes := #[22] }, type := 26, pos := "rows.go:164", after := #[{ on := 1, ground := Go.Ground.data }], guard := none }) rfl (fun K hK => ?_) AllReadyH.nil
  go_simp
  refine (C1.out _ (belNe w1)).mono ?_
  rintro e w2 ⟨⟨u2, rfl, h2⟩, hb2⟩
  have b2 : Below w1.heap.size w1 w2 := drewBd hb2
  clear hHeld
  refine hK.out _ _ (⟨cell_below e0 b2, cell_below e1 b2⟩) (fun hHeld => ?_)
  clear hK K
  refine wpAnyH_ready (rs := [5]) (by kernel_rfl) (by simp) ?_
  refine AllReadyH.cons (o := { dst := some 8, op := Go.Op.call { callee := Go.Callee.value (Go.Operand.func 28), args := #[Go.Operand.tmp 7], argTypes := #[23] }, type := 26, pos := "rows.go:164", after := #[{ on := 4, ground := Go.Ground.data }, { on := 2, ground := Go.Ground.chain }], guard := none }) rfl (fun K hK => ?_) AllReadyH.nil
  go_simp
  refine (C2.out w2 b2).mono ?_
  rintro e w3 ⟨⟨u3, rfl, h3⟩, hb3⟩
  have b3 : Below w1.heap.size w1 w3 := bel2 b2 hb3
  have q2 : Lib.HoldsBytes w3 u2 L1 := holds_below h2.holds hb3
  have q3 : Lib.HoldsBytes w3 u3 L2 := h3.holds
  have b4 : Below w1.heap.size w1 (w3.alloc (.cells #[u2, u3] 26)) := bel2 b3 (bel1 _ _)
  obtain ⟨a2, k2, rfl⟩ := h2.shp
  obtain ⟨a3, k3, rfl⟩ := h3.shp
  have P4 := parts_two w3 _ _ L1 L2 q2 q3
  have CC : Hid (Calls Tryz.prog 26 _ (w3.alloc (.cells #[.slice a2 L1.length k2, .slice a3 L2.length k3] 26)) _) := concat_calls w3.heap.size 2 2 _ [L1, L2] _ rfl P4 (by decide) _ rfl (by have := HLL.out; simp only [Lib.lens, List.map_cons, List.map_nil, List.sum_cons, List.sum_nil]; omega)
  clear hHeld
  refine hK.out _ _ (⟨cell_below e0 b3, cell_below e1 b3⟩) (fun hHeld => ?_)
  clear hK K
  refine wpAnyH_ready (rs := [6]) (by kernel_rfl) (by simp) ?_
  refine AllReadyH.cons (o := { dst := some 9, op := Go.Op.buildSlice 37 2 #[(0, Go.Operand.tmp 5), (1, Go.Operand.tmp 8)], type := 37, pos := "rows.go:164", after := #[{ on := 2, ground := Go.Ground.data }, { on := 5, ground := Go.Ground.data }], guard := none }) rfl (fun K hK => ?_) AllReadyH.nil
  go_simp
  clear hHeld
  refine hK.out _ _ (⟨cell_below e0 b4, cell_below e1 b4⟩) (fun hHeld => ?_)
  clear hK K
  refine wpAnyH_ready (rs := [7]) (by kernel_rfl) (by simp) ?_
  refine AllReadyH.cons (o := { dst := some 10, op := Go.Op.call { callee := Go.Callee.value (Go.Operand.func 26), args := #[Go.Operand.tmp 9], argTypes := #[37] }, type := 26, pos := "rows.go:164", after := #[{ on := 6, ground := Go.Ground.data }, { on := 5, ground := Go.Ground.chain }], guard := none }) rfl (fun K hK => ?_) AllReadyH.nil
  go_simp
  refine CC.out.mono ?_
  rintro e w5 ⟨u5, rfl, h5, hb5⟩
  have b5 : Below w1.heap.size w1 w5 := bel2 b4 hb5
  have HF : Hid (Lib.HoldsBytes w5 u5 (L1 ++ L2) ∧ Below w.heap.size w w5) := ⟨by rw [show L1 ++ L2 = [L1, L2].flatten by simp]; exact h5, bel2 HA.out b5⟩
  clear hHeld
  refine hK.out _ _ (⟨cell_below e0 b5, cell_below e1 b5⟩) (fun hHeld => ?_)
  clear hK K
  refine wpAnyH_ready (rs := [8]) (by kernel_rfl) (by simp) ?_
  refine AllReadyH.cons (o := { dst := some 2, op := Go.Op.assign (Go.Operand.tmp 10), type := 26, pos := "rows.go:164", after := #[{ on := 7, ground := Go.Ground.data }, { on := 7, ground := Go.Ground.chain }, { on := 0, ground := Go.Ground.phase }, { on := 1, ground := Go.Ground.phase }, { on := 2, ground := Go.Ground.phase }, { on := 3, ground := Go.Ground.phase }, { on := 4, ground := Go.Ground.phase }, { on := 5, ground := Go.Ground.phase }, { on := 6, ground := Go.Ground.phase }, { on := 7, ground := Go.Ground.phase }], guard := none }) rfl (fun K hK => ?_) AllReadyH.nil
  go_simp
  clear hHeld
  refine hK.out _ _ (⟨cell_below e0 b5, cell_below e1 b5⟩) (fun hHeld => ?_)
  clear hK K
  refine wpAnyH_done (by kernel_rfl) ?_ _
  clear h5 hb5 b2 b3 b4 b5 h2 h3 hb2 hb3 q2 q3 P4 CC
  go_wp2_with fail
  go_ret
  exact ⟨_, rfl, HF.out.1, HF.out.2⟩
end Go.Proofs.YtkaaddahegkmgaaGreat
