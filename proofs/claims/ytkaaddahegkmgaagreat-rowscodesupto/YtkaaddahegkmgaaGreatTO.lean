/- The contract of Same, exactly. -/
import Derived.Test.YtkaaddahegkmgaaGreatMO
namespace Go.Proofs.YtkaaddahegkmgaaGreat
open Go.ChangeShapes Go.WideShapes Go.ChangeAt Go.RowKit
theorem bytesX (v1 v2 : Value) (l1 l2 : List UInt8) (w : World) (h1 : Lib.HoldsBytes w v1 l1) (h2 : Lib.HoldsBytes w v2 l2) : Calls Tryz.prog 8 #[v1, v2] w fun e w' => (∃ b, e = .returned (.bool b) ∧ (b = true ↔ l1 = l2)) ∧ Below w.heap.size w w' :=
  (equal_calls v1 v2 l1 l2 w h1 h2).mono (fun e w' h => by
    obtain ⟨rfl, rfl⟩ := h
    exact ⟨⟨_, rfl, beq_iff_eq⟩, Below.refl _ _⟩)
theorem key_eq {k k' : ByteArray} : (k.toList == k'.toList) = true ↔ k = k' := ⟨fun h => tl_inj (beq_iff_eq.1 h), fun h => by rw [h]; exact beq_self_eq_true _⟩
set_option maxHeartbeats 8000000 in
set_option maxRecDepth 100000 in
theorem eqEvX (v1 v2 : Value) (xs ys : List (List UInt8)) (w : World) (h1 : Sl evE (fun _ => True) w v1 xs) (h2 : Sl evE (fun _ => True) w v2 ys) :
    Calls Tryz.prog 61 #[v1, v2, .func (.func 8) #[] #[]] w fun e w' => (∃ b, e = .returned (.bool b) ∧ (b = true ↔ xs = ys)) ∧ Below w.heap.size w w' := by
  obtain ⟨a1, c1, rfl, n1, n2, l1⟩ := h1
  obtain ⟨a2, c2, rfl, _, _, l2⟩ := h2
  have H1 : Hid (Ls evE (fun _ => True) w a1 xs) := l1
  have H2 : Hid (Ls evE (fun _ => True) w a2 ys) := l2
  obtain ⟨N, hN⟩ : ∃ N, N = xs.length := ⟨_, rfl⟩
  obtain ⟨M, hM⟩ : ∃ M, M = ys.length := ⟨_, rfl⟩
  have HN : Hid (N = xs.length ∧ M = ys.length ∧ N ≤ 9223372036854775807) := ⟨hN, hM, by omega⟩
  rw [← hN, ← hM]
  clear l1 l2 n1 n2 hN hM
  by_cases hl : N = M
  · subst hl
    go_enter Tryz.func61, Tryz.ntmps61
    go_wp2_with fail
    go_loopw [7, 8, 9, 17] (fun _ _ _ i wr => ∃ j : Nat, j ≤ N ∧ i = .int .i64 (j : Int) ∧ Hid (∀ i, i < j → xs[i]? = ys[i]?) ∧ Hid (Below w.heap.size w wr)) (fun _ _ _ i _ => N - (intOf i).toNat)
    case atStart => exact ⟨0, Nat.zero_le _, rfl, fun _ h => absurd h (Nat.not_lt_zero _), Below.refl _ _⟩
    case round =>
      obtain ⟨j, hj, rfl, HE, HB⟩ := hrel
      by_cases hlt : j < N
      · obtain ⟨x, hx⟩ : ∃ x, xs[j]? = some x := ⟨_, List.getElem?_eq_getElem (by have := HN.out; omega)⟩
        obtain ⟨y, hy⟩ : ∃ y, ys[j]? = some y := ⟨_, List.getElem?_eq_getElem (by have := HN.out; omega)⟩
        have HXY : Hid (xs[j]? = some x ∧ ys[j]? = some y) := ⟨hx, hy⟩
        obtain ⟨B, o, vb, rfl, _, k0, hv⟩ := (H1.out.below HB.out).ev j x hx
        obtain ⟨B2, o2, vb2, rfl, _, m0, hv2⟩ := (H2.out.below HB.out).ev j y hy
        obtain ⟨pv, cv, rfl, _⟩ := hv.shape
        obtain ⟨pv2, cv2, rfl, _⟩ := hv2.shape
        have hjl : (j : Int) < (N : Int) := by omega
        have HW : Hid (wrap64 ((j : Int) + 1) = ((j + 1 : Nat) : Int)) := wr1 hlt HN.out.2.2
        have V1 : Hid (∀ W, Below wr.heap.size wr W → Calls Tryz.prog 8 #[.slice pv x.length cv, .slice pv2 y.length cv2] W fun e w' => (∃ b, e = .returned (.bool b) ∧ (b = true ↔ x = y)) ∧ Below W.heap.size W w') := fun W hW => bytesX _ _ x y W (hv.below hW).bytes (hv2.below hW).bytes
        clear hx hy hv hv2

        go_wp2_with fail
        refine (V1.out _ (Below.refl _ _)).mono ?_
        rintro e w3 ⟨⟨b, rfl, hb⟩, hb3⟩
        have HB3 : Hid (Below w.heap.size w w3) := bel2 HB.out (bel2 (Below.refl _ wr) hb3)
        have HQ : Hid (b = true ↔ x = y) := hb
        clear hb3 hb V1
        cases b with
        | true =>
          have HE2 : Hid (∀ i, i < j + 1 → xs[i]? = ys[i]?) := fun i hi => by
            by_cases he : i = j
            · subst he
              rw [HXY.out.1, HXY.out.2, HQ.out.1 rfl]
            · exact HE.out i (by omega)
          go_wp2_with fail
          exact ⟨⟨j + 1, hlt, by first | rfl | rw [HW.out], HE2, HB3⟩, meas hlt (by first | rfl | exact HW.out)⟩
        | false =>
          have HNE : Hid (¬ xs = ys) := fun he => by
            have h1 := HXY.out.1
            rw [he, HXY.out.2] at h1
            injection h1 with h2
            exact absurd (HQ.out.2 h2.symm) (by decide)
          go_wp2_with fail
          go_ret
          exact ⟨⟨false, rfl, ⟨fun h => (by cases h), fun h => absurd h HNE.out⟩⟩, HB3.out⟩
      · obtain rfl : j = N := by omega
        go_wp2_with fail
        go_ret
        refine ⟨⟨true, rfl, ⟨fun _ => ?_, fun _ => rfl⟩⟩, HB.out⟩
        refine List.ext_getElem? fun i => ?_
        by_cases hi : i < j
        · exact HE.out i hi
        · rw [List.getElem?_eq_none (by have := HN.out; omega), List.getElem?_eq_none (by have := HN.out; omega)]
  · have hne : ((N : Int) == (M : Int)) = false := by simp; omega
    have hne2 : ¬ (N : Int) = (M : Int) := by omega
    have HNE : Hid (¬ xs = ys) := fun h => by
      have := HN.out
      rw [h] at this
      omega
    clear hl
    go_enter Tryz.func61, Tryz.ntmps61
    go_wp2_with fail
    go_ret
    exact ⟨⟨false, rfl, ⟨fun h => (by cases h), fun h => absurd h HNE.out⟩⟩, Below.refl _ _⟩
set_option maxHeartbeats 4000000 in
set_option maxRecDepth 100000 in
theorem sameRowX (x y : Rw) (p p2 : Option Addr) (c c2 : Nat) (w : World) (h1 : HB (fun _ => True) w (.slice p x.row.length c) x.row) (h2 : HB (fun _ => True) w (.slice p2 y.row.length c2) y.row) :
    Calls Tryz.prog 33 #[.agg #[.string x.key, .int .i64 x.ver, .slice p x.row.length c], .agg #[.string y.key, .int .i64 y.ver, .slice p2 y.row.length c2]] w fun e w' => (∃ b, e = .returned (.bool b) ∧ (b = true ↔ x = y)) ∧ Below w.heap.size w w' := by
  obtain ⟨key, ver, row⟩ := x
  obtain ⟨key2, ver2, row2⟩ := y
  dsimp only at h1 h2 ⊢
  have hb := box2 w (.cells #[.string key, .int .i64 ver, .slice p row.length c] 47) (.cells #[.string key2, .int .i64 ver2, .slice p2 row2.length c2] 47)
  have SC : Hid (Calls Tryz.prog 8 _ _ _) := bytesX _ _ row row2 _ (h1.below hb).bytes (h2.below hb).bytes
  have HB1 : Hid (Below w.heap.size w _) := hb
  clear h1 h2 hb
  by_cases hk : key = key2
  · subst hk
    have hk : (key.toList == key.toList) = true := beq_self_eq_true _
    by_cases hv : ver = ver2
    · subst hv
      go_enter Tryz.func33, Tryz.ntmps33
      go_wp2_with fail
      refine SC.out.mono ?_
      rintro e w3 ⟨⟨b, rfl, hb⟩, hb3⟩
      have HQ : Hid (b = true ↔ row = row2) := hb
      clear hb
      go_wp2_with fail
      go_ret
      refine ⟨⟨b, rfl, ⟨fun h => by rw [HQ.out.1 h], fun h => ?_⟩⟩, bel2 HB1.out hb3⟩
      injection h with _ _ h3
      exact HQ.out.2 h3
    · have hvb : (ver == ver2) = false := by simpa using hv
      have HV : Hid (¬ ver = ver2) := hv
      go_enter Tryz.func33, Tryz.ntmps33
      go_wp2_with fail
      go_ret
      refine ⟨⟨false, rfl, ⟨fun h => (by cases h), fun h => ?_⟩⟩, HB1.out⟩
      injection h with _ h2 _
      exact absurd h2 HV.out
  · have hkb : (key.toList == key2.toList) = false := beq_eq_false_iff_ne.2 (fun h => hk (tl_inj h))
    have HK : Hid (¬ key = key2) := hk
    clear hk
    go_enter Tryz.func33, Tryz.ntmps33
    go_wp2_with fail
    go_ret
    refine ⟨⟨false, rfl, ⟨fun h => (by cases h), fun h => ?_⟩⟩, HB1.out⟩
    injection h with h1 _ _
    exact absurd h1 HK.out
set_option maxHeartbeats 4000000 in
set_option maxRecDepth 100000 in
theorem sameBrX (x y : Bn) (p p2 : Option Addr) (c c2 : Nat) (w : World) (h1 : Sl evE (fun _ => True) w (.slice p x.ev.length c) x.ev) (h2 : Sl evE (fun _ => True) w (.slice p2 y.ev.length c2) y.ev) :
    Calls Tryz.prog 35 #[.agg #[.string x.key, .slice p x.ev.length c], .agg #[.string y.key, .slice p2 y.ev.length c2]] w fun e w' => (∃ b, e = .returned (.bool b) ∧ (b = true ↔ x = y)) ∧ Below w.heap.size w w' := by
  obtain ⟨key, ev⟩ := x
  obtain ⟨key2, ev2⟩ := y
  dsimp only at h1 h2 ⊢
  have hb := box2 w (.cells #[.string key, .slice p ev.length c] 39) (.cells #[.string key2, .slice p2 ev2.length c2] 39)
  have SC : Hid (Calls Tryz.prog 61 _ _ _) := eqEvX _ _ ev ev2 _ (h1.below hb) (h2.below hb)
  have HB1 : Hid (Below w.heap.size w _) := hb
  clear h1 h2 hb
  by_cases hk : key = key2
  · subst hk
    have hk : (key.toList == key.toList) = true := beq_self_eq_true _
    go_enter Tryz.func35, Tryz.ntmps35
    go_wp2_with fail
    refine SC.out.mono ?_
    rintro e w3 ⟨⟨b, rfl, hb⟩, hb3⟩
    have HQ : Hid (b = true ↔ ev = ev2) := hb
    clear hb
    go_wp2_with fail
    go_ret
    refine ⟨⟨b, rfl, ⟨fun h => by rw [HQ.out.1 h], fun h => ?_⟩⟩, bel2 HB1.out hb3⟩
    injection h with _ h3
    exact HQ.out.2 h3
  · have hkb : (key.toList == key2.toList) = false := beq_eq_false_iff_ne.2 (fun h => hk (tl_inj h))
    have HK : Hid (¬ key = key2) := hk
    clear hk
    go_enter Tryz.func35, Tryz.ntmps35
    go_wp2_with fail
    go_ret
    refine ⟨⟨false, rfl, ⟨fun h => (by cases h), fun h => ?_⟩⟩, HB1.out⟩
    injection h with h1 _
    exact absurd h1 HK.out
set_option maxHeartbeats 8000000 in
set_option maxRecDepth 100000 in
theorem eqRowX (v1 v2 : Value) (xs ys : List Rw) (w : World) (h1 : Sl rowE (fun _ => True) w v1 xs) (h2 : Sl rowE (fun _ => True) w v2 ys) :
    Calls Tryz.prog 32 #[v1, v2, .func (.func 33) #[] #[]] w fun e w' => (∃ b, e = .returned (.bool b) ∧ (b = true ↔ xs = ys)) ∧ Below w.heap.size w w' := by
  obtain ⟨a1, c1, rfl, n1, n2, l1⟩ := h1
  obtain ⟨a2, c2, rfl, _, _, l2⟩ := h2
  have H1 : Hid (Ls rowE (fun _ => True) w a1 xs) := l1
  have H2 : Hid (Ls rowE (fun _ => True) w a2 ys) := l2
  obtain ⟨N, hN⟩ : ∃ N, N = xs.length := ⟨_, rfl⟩
  obtain ⟨M, hM⟩ : ∃ M, M = ys.length := ⟨_, rfl⟩
  have HN : Hid (N = xs.length ∧ M = ys.length ∧ N ≤ 9223372036854775807) := ⟨hN, hM, by omega⟩
  rw [← hN, ← hM]
  clear l1 l2 n1 n2 hN hM
  by_cases hl : N = M
  · subst hl
    go_enter Tryz.func32, Tryz.ntmps32
    go_wp2_with fail
    go_loopw [7, 8, 9, 17] (fun _ _ _ i wr => ∃ j : Nat, j ≤ N ∧ i = .int .i64 (j : Int) ∧ Hid (∀ i, i < j → xs[i]? = ys[i]?) ∧ Hid (Below w.heap.size w wr)) (fun _ _ _ i _ => N - (intOf i).toNat)
    case atStart => exact ⟨0, Nat.zero_le _, rfl, fun _ h => absurd h (Nat.not_lt_zero _), Below.refl _ _⟩
    case round =>
      obtain ⟨j, hj, rfl, HE, HB⟩ := hrel
      by_cases hlt : j < N
      · obtain ⟨x, hx⟩ : ∃ x, xs[j]? = some x := ⟨_, List.getElem?_eq_getElem (by have := HN.out; omega)⟩
        obtain ⟨y, hy⟩ : ∃ y, ys[j]? = some y := ⟨_, List.getElem?_eq_getElem (by have := HN.out; omega)⟩
        have HXY : Hid (xs[j]? = some x ∧ ys[j]? = some y) := ⟨hx, hy⟩
        obtain ⟨B, o, vb, rfl, _, k0, k1, k2, hv⟩ := (H1.out.below HB.out).row j x hx
        obtain ⟨B2, o2, vb2, rfl, _, m0, m1, m2, hv2⟩ := (H2.out.below HB.out).row j y hy
        obtain ⟨pv, cv, rfl, _⟩ := hv.shape
        obtain ⟨pv2, cv2, rfl, _⟩ := hv2.shape
        have hjl : (j : Int) < (N : Int) := by omega
        have HW : Hid (wrap64 ((j : Int) + 1) = ((j + 1 : Nat) : Int)) := wr1 hlt HN.out.2.2
        have V1 : Hid (∀ W, Below wr.heap.size wr W → Calls Tryz.prog 33 #[.agg #[.string x.key, .int .i64 x.ver, .slice pv x.row.length cv], .agg #[.string y.key, .int .i64 y.ver, .slice pv2 y.row.length cv2]] W fun e w' => (∃ b, e = .returned (.bool b) ∧ (b = true ↔ x = y)) ∧ Below W.heap.size W w') := fun W hW => sameRowX x y _ _ _ _ W (hv.below hW) (hv2.below hW)
        clear hx hy hv hv2
        have g0 := cell_below m0 (bel1 wr (.cells #[.string x.key, .int .i64 x.ver, .slice pv x.row.length cv] 47))
        have g1 := cell_below m1 (bel1 wr (.cells #[.string x.key, .int .i64 x.ver, .slice pv x.row.length cv] 47))
        have g2 := cell_below m2 (bel1 wr (.cells #[.string x.key, .int .i64 x.ver, .slice pv x.row.length cv] 47))
        go_wp2_with fail
        refine (V1.out _ (box2 wr _ _)).mono ?_
        rintro e w3 ⟨⟨b, rfl, hb⟩, hb3⟩
        have HB3 : Hid (Below w.heap.size w w3) := bel2 HB.out (bel2 (box2 wr _ _) hb3)
        have HQ : Hid (b = true ↔ x = y) := hb
        clear hb3 hb V1
        cases b with
        | true =>
          have HE2 : Hid (∀ i, i < j + 1 → xs[i]? = ys[i]?) := fun i hi => by
            by_cases he : i = j
            · subst he
              rw [HXY.out.1, HXY.out.2, HQ.out.1 rfl]
            · exact HE.out i (by omega)
          go_wp2_with fail
          exact ⟨⟨j + 1, hlt, by first | rfl | rw [HW.out], HE2, HB3⟩, meas hlt (by first | rfl | exact HW.out)⟩
        | false =>
          have HNE : Hid (¬ xs = ys) := fun he => by
            have h1 := HXY.out.1
            rw [he, HXY.out.2] at h1
            injection h1 with h2
            exact absurd (HQ.out.2 h2.symm) (by decide)
          go_wp2_with fail
          go_ret
          exact ⟨⟨false, rfl, ⟨fun h => (by cases h), fun h => absurd h HNE.out⟩⟩, HB3.out⟩
      · obtain rfl : j = N := by omega
        go_wp2_with fail
        go_ret
        refine ⟨⟨true, rfl, ⟨fun _ => ?_, fun _ => rfl⟩⟩, HB.out⟩
        refine List.ext_getElem? fun i => ?_
        by_cases hi : i < j
        · exact HE.out i hi
        · rw [List.getElem?_eq_none (by have := HN.out; omega), List.getElem?_eq_none (by have := HN.out; omega)]
  · have hne : ((N : Int) == (M : Int)) = false := by simp; omega
    have hne2 : ¬ (N : Int) = (M : Int) := by omega
    have HNE : Hid (¬ xs = ys) := fun h => by
      have := HN.out
      rw [h] at this
      omega
    clear hl
    go_enter Tryz.func32, Tryz.ntmps32
    go_wp2_with fail
    go_ret
    exact ⟨⟨false, rfl, ⟨fun h => (by cases h), fun h => absurd h HNE.out⟩⟩, Below.refl _ _⟩
set_option maxHeartbeats 8000000 in
set_option maxRecDepth 100000 in
theorem eqBrX (v1 v2 : Value) (xs ys : List Bn) (w : World) (h1 : Sl brE (fun _ => True) w v1 xs) (h2 : Sl brE (fun _ => True) w v2 ys) :
    Calls Tryz.prog 34 #[v1, v2, .func (.func 35) #[] #[]] w fun e w' => (∃ b, e = .returned (.bool b) ∧ (b = true ↔ xs = ys)) ∧ Below w.heap.size w w' := by
  obtain ⟨a1, c1, rfl, n1, n2, l1⟩ := h1
  obtain ⟨a2, c2, rfl, _, _, l2⟩ := h2
  have H1 : Hid (Ls brE (fun _ => True) w a1 xs) := l1
  have H2 : Hid (Ls brE (fun _ => True) w a2 ys) := l2
  obtain ⟨N, hN⟩ : ∃ N, N = xs.length := ⟨_, rfl⟩
  obtain ⟨M, hM⟩ : ∃ M, M = ys.length := ⟨_, rfl⟩
  have HN : Hid (N = xs.length ∧ M = ys.length ∧ N ≤ 9223372036854775807) := ⟨hN, hM, by omega⟩
  rw [← hN, ← hM]
  clear l1 l2 n1 n2 hN hM
  by_cases hl : N = M
  · subst hl
    go_enter Tryz.func34, Tryz.ntmps34
    go_wp2_with fail
    go_loopw [7, 8, 9, 17] (fun _ _ _ i wr => ∃ j : Nat, j ≤ N ∧ i = .int .i64 (j : Int) ∧ Hid (∀ i, i < j → xs[i]? = ys[i]?) ∧ Hid (Below w.heap.size w wr)) (fun _ _ _ i _ => N - (intOf i).toNat)
    case atStart => exact ⟨0, Nat.zero_le _, rfl, fun _ h => absurd h (Nat.not_lt_zero _), Below.refl _ _⟩
    case round =>
      obtain ⟨j, hj, rfl, HE, HB⟩ := hrel
      by_cases hlt : j < N
      · obtain ⟨x, hx⟩ : ∃ x, xs[j]? = some x := ⟨_, List.getElem?_eq_getElem (by have := HN.out; omega)⟩
        obtain ⟨y, hy⟩ : ∃ y, ys[j]? = some y := ⟨_, List.getElem?_eq_getElem (by have := HN.out; omega)⟩
        have HXY : Hid (xs[j]? = some x ∧ ys[j]? = some y) := ⟨hx, hy⟩
        obtain ⟨B, o, vb, rfl, _, k0, k1, hv⟩ := (H1.out.below HB.out).br j x hx
        obtain ⟨B2, o2, vb2, rfl, _, m0, m1, hv2⟩ := (H2.out.below HB.out).br j y hy
        obtain ⟨pv, cv, rfl, _⟩ := hv.shape
        obtain ⟨pv2, cv2, rfl, _⟩ := hv2.shape
        have hjl : (j : Int) < (N : Int) := by omega
        have HW : Hid (wrap64 ((j : Int) + 1) = ((j + 1 : Nat) : Int)) := wr1 hlt HN.out.2.2
        have V1 : Hid (∀ W, Below wr.heap.size wr W → Calls Tryz.prog 35 #[.agg #[.string x.key, .slice pv x.ev.length cv], .agg #[.string y.key, .slice pv2 y.ev.length cv2]] W fun e w' => (∃ b, e = .returned (.bool b) ∧ (b = true ↔ x = y)) ∧ Below W.heap.size W w') := fun W hW => sameBrX x y _ _ _ _ W (hv.below hW) (hv2.below hW)
        clear hx hy hv hv2
        have g0 := cell_below m0 (bel1 wr (.cells #[.string x.key, .slice pv x.ev.length cv] 39))
        have g1 := cell_below m1 (bel1 wr (.cells #[.string x.key, .slice pv x.ev.length cv] 39))
        go_wp2_with fail
        refine (V1.out _ (box2 wr _ _)).mono ?_
        rintro e w3 ⟨⟨b, rfl, hb⟩, hb3⟩
        have HB3 : Hid (Below w.heap.size w w3) := bel2 HB.out (bel2 (box2 wr _ _) hb3)
        have HQ : Hid (b = true ↔ x = y) := hb
        clear hb3 hb V1
        cases b with
        | true =>
          have HE2 : Hid (∀ i, i < j + 1 → xs[i]? = ys[i]?) := fun i hi => by
            by_cases he : i = j
            · subst he
              rw [HXY.out.1, HXY.out.2, HQ.out.1 rfl]
            · exact HE.out i (by omega)
          go_wp2_with fail
          exact ⟨⟨j + 1, hlt, by first | rfl | rw [HW.out], HE2, HB3⟩, meas hlt (by first | rfl | exact HW.out)⟩
        | false =>
          have HNE : Hid (¬ xs = ys) := fun he => by
            have h1 := HXY.out.1
            rw [he, HXY.out.2] at h1
            injection h1 with h2
            exact absurd (HQ.out.2 h2.symm) (by decide)
          go_wp2_with fail
          go_ret
          exact ⟨⟨false, rfl, ⟨fun h => (by cases h), fun h => absurd h HNE.out⟩⟩, HB3.out⟩
      · obtain rfl : j = N := by omega
        go_wp2_with fail
        go_ret
        refine ⟨⟨true, rfl, ⟨fun _ => ?_, fun _ => rfl⟩⟩, HB.out⟩
        refine List.ext_getElem? fun i => ?_
        by_cases hi : i < j
        · exact HE.out i hi
        · rw [List.getElem?_eq_none (by have := HN.out; omega), List.getElem?_eq_none (by have := HN.out; omega)]
  · have hne : ((N : Int) == (M : Int)) = false := by simp; omega
    have hne2 : ¬ (N : Int) = (M : Int) := by omega
    have HNE : Hid (¬ xs = ys) := fun h => by
      have := HN.out
      rw [h] at this
      omega
    clear hl
    go_enter Tryz.func34, Tryz.ntmps34
    go_wp2_with fail
    go_ret
    exact ⟨⟨false, rfl, ⟨fun h => (by cases h), fun h => absurd h HNE.out⟩⟩, Below.refl _ _⟩
set_option maxHeartbeats 4000000 in
set_option maxRecDepth 100000 in
theorem sameX (v1 v2 : Value) (r s : Db) (w : World) (h1 : IsR (fun _ => True) w v1 r) (h2 : IsR (fun _ => True) w v2 s) : Calls Tryz.prog 12 #[v1, v2] w fun e w' => (∃ b, e = .returned (.bool b) ∧ (b = true ↔ r = s)) ∧ Below w.heap.size w w' := by
  obtain ⟨pu, cu, pb, cb, rfl, hu, hb⟩ := h1.shape
  obtain ⟨pu2, cu2, pb2, cb2, rfl, hu2, hb2⟩ := h2.shape
  obtain ⟨rr, rb⟩ := r
  obtain ⟨sr, sb⟩ := s
  dsimp only at hu hb hu2 hb2 ⊢
  have hx := box2 w (.cells #[.slice pu rr.length cu, .slice pb rb.length cb] 25) (.cells #[.slice pu2 sr.length cu2, .slice pb2 sb.length cb2] 25)
  have HO := old2 w (.cells #[.slice pu rr.length cu, .slice pb rb.length cb] 25) (.cells #[.slice pu2 sr.length cu2, .slice pb2 sb.length cb2] 25)
  have HO2 := new2 w (.cells #[.slice pu rr.length cu, .slice pb rb.length cb] 25) (.cells #[.slice pu2 sr.length cu2, .slice pb2 sb.length cb2] 25)
  have EB : Hid (∀ W, Below w.heap.size w W → Calls Tryz.prog 34 _ W _) := fun W hW => eqBrX _ _ rb sb W (hb.below hW) (hb2.below hW)
  have ER : Hid (∀ W, Below w.heap.size w W → Calls Tryz.prog 32 _ W _) := fun W hW => eqRowX _ _ rr sr W (hu.below hW) (hu2.below hW)
  clear hu hb hu2 hb2 h1 h2
  go_enter Tryz.func12, Tryz.ntmps12
  go_wp2_with fail
  generalize (w.alloc (.cells #[.slice pu rr.length cu, .slice pb rb.length cb] 25)).alloc (.cells #[.slice pu2 sr.length cu2, .slice pb2 sb.length cb2] 25) = w1 at hx HO HO2 ⊢
  refine (ER.out _ hx).mono ?_
  rintro e w2 ⟨⟨b, rfl, hq⟩, hb2⟩
  have HB2 : Hid (Below w.heap.size w w2) := bel2 hx hb2
  have HQ : Hid (b = true ↔ rr = sr) := hq
  have r1 := row_below hb2 HO
  have r2 := row_below hb2 HO2
  have a0 := row_cell r1 (j := 0) rfl
  have a1 := row_cell r1 (j := 1) rfl
  have c0 := row_cell r2 (j := 0) rfl
  have c1 := row_cell r2 (j := 1) rfl
  clear hx hb2 HO HO2 r1 r2 hq
  cases b with
  | false =>
    go_wp2_with fail
    go_ret
    refine ⟨⟨false, rfl, ⟨fun h => (by cases h), fun h => ?_⟩⟩, HB2.out⟩
    injection h with h1 _
    exact absurd (HQ.out.2 h1) (by decide)
  | true =>
    go_wp2_with fail
    refine (EB.out _ HB2.out).mono ?_
    rintro e w3 ⟨⟨b, rfl, hq⟩, hb3⟩
    have HQ2 : Hid (b = true ↔ rb = sb) := hq
    clear hq
    go_wp2_with fail
    go_ret
    refine ⟨⟨b, rfl, ⟨fun h => by rw [HQ.out.1 (by first | rfl | trivial), HQ2.out.1 h], fun h => ?_⟩⟩, bel2 HB2.out hb3⟩
    injection h with _ h2
    exact HQ2.out.2 h2
end Go.Proofs.YtkaaddahegkmgaaGreat
