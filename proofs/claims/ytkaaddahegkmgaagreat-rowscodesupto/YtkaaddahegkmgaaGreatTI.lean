/- The contract of mayBe, exactly. -/
import Derived.Test.YtkaaddahegkmgaaGreatSI
import Derived.Test.YtkaaddahegkmgaaGreatMS
namespace Go.Proofs.YtkaaddahegkmgaaGreat
open Go.ChangeShapes Go.WideShapes Go.ChangeAt Go.RowKit
theorem above_pos {y k : ByteArray} (h : above y k = true) : 1 ≤ y.size := by
  rcases Nat.eq_zero_or_pos y.size with h0 | h0
  · obtain rfl : y = ⟨#[]⟩ := by
      cases y with
      | mk d => simp only [ByteArray.size] at h0; rw [Array.eq_empty_of_size_eq_zero h0]
    have e : (⟨#[]⟩ : ByteArray).toList = [] := by decide +kernel
    unfold above at h
    rw [e] at h
    cases hk : k.toList with
    | nil => rw [hk] at h; cases h
    | cons a l => rw [hk] at h; cases h
  · exact h0
theorem UpTo.moreA {ks : List ByteArray} {j : Nat} {k y : ByteArray} (h : UpTo ks j k) (hy : ks[j]? = some y) (hk : above y k = true) : UpTo ks (j + 1) y := by
  refine ⟨fun i x hi hx => ?_, fun i x z hi hx hz => ?_, fun i e => ?_⟩
  · by_cases he : i = j
    · subst he
      rw [hy] at hx
      cases hx
      exact above_pos hk
    · exact h.pos i x (by omega) hx
  · by_cases he : i + 1 = j
    · subst he
      rw [hy] at hz
      cases hz
      have hl := h.last i rfl
      rw [hl] at hx
      cases hx
      exact hk
    · exact h.up i x z (by omega) hx hz
  · obtain rfl : i = j := by omega
    exact hy
set_option maxHeartbeats 4000000 in
set_option maxRecDepth 100000 in
theorem riseRowX (a : Option Addr) (c : Nat) (xs : List Rw) (w : World) (h : Ls rowE (fun _ => True) w a xs) (hn : xs.length ≤ 9223372036854775807) :
    Calls Tryz.prog 45 #[.slice a xs.length c] w fun e w' => (∃ b, e = .returned (.bool b) ∧ (b = true ↔ RiseK (xs.map fun x => x.key))) ∧ Below w.heap.size w w' := by
  have HLS : Hid (Ls rowE (fun _ => True) w a xs) := h
  have HN : Hid (xs.length ≤ 9223372036854775807) := hn
  clear h hn
  go_enter Tryz.func45, Tryz.ntmps45
  go_wp2_with fail
  go_loopw [3, 4, 5, 8] (fun last _ _ i wr => ∃ (j : Nat) (k : ByteArray), j ≤ xs.length ∧ i = .int .i64 (j : Int) ∧ last = .string k ∧ Hid (LastK (xs.map fun x => x.key) j k ∧ UpTo (xs.map fun x => x.key) j k) ∧ wr = w) (fun _ _ _ i _ => xs.length - (intOf i).toNat)
  case atStart => exact ⟨0, _, Nat.zero_le _, rfl, rfl, ⟨.inl ⟨rfl, rfl⟩, UpTo.zero _ _⟩, rfl⟩
  case round =>
    obtain ⟨j, k, hj, rfl, rfl, HK, rfl⟩ := hrel
    by_cases hlt : j < xs.length
    · have hjl : (j : Int) < (xs.length : Int) := by omega
      obtain ⟨y, hy⟩ : ∃ y, xs[j]? = some y := ⟨_, List.getElem?_eq_getElem hlt⟩
      have HY : Hid ((xs.map fun x => x.key)[j]? = some y.key) := by show _ = _; rw [List.getElem?_map, hy]; rfl
      obtain ⟨B, o, vb, rfl, _, k0, _⟩ := HLS.out.row j y hy
      have HW : Hid (wrap64 ((j : Int) + 1) = ((j + 1 : Nat) : Int)) := wr1 hlt HN.out
      have KC : Hid (Calls Tryz.prog 74 #[.pointer (some ⟨B, o + j * 3, none⟩)] wr fun e w' => e = .returned (.string y.key) ∧ w' = wr) := keyRow_calls wr B (o + j * 3) y.key k0
      clear hy k0
      go_wp2_with fail
      refine KC.out.mono ?_
      rintro e w2 ⟨rfl, rfl⟩
      by_cases hab : above y.key k = true
      · have hle := leq_of hab
        have HL2 : Hid (LastK (xs.map fun x => x.key) (j + 1) y.key ∧ UpTo (xs.map fun x => x.key) (j + 1) y.key) := ⟨.inr ⟨j, rfl, HY.out⟩, HK.out.2.moreA HY.out hab⟩
        clear hab KC
        go_wp2_with (simp only)
        exact ⟨⟨j + 1, _, hlt, by first | rfl | rw [HW.out], rfl, HL2, by first | trivial | rfl⟩, meas hlt (by first | rfl | exact HW.out)⟩
      · have hle := leq_not hab
        have HNO : Hid (¬ RiseK (xs.map fun x => x.key)) := fun hr => hab (hr.above HK.out.1 HY.out)
        clear hab KC
        go_wp2_with (simp only)
        go_ret
        exact ⟨⟨false, rfl, ⟨fun hr => (by cases hr), fun hr => absurd hr HNO.out⟩⟩, Below.refl _ _⟩
    · obtain rfl : j = xs.length := by omega
      go_wp2_with fail
      go_ret
      refine ⟨⟨true, rfl, ⟨fun _ => ?_, fun _ => rfl⟩⟩, Below.refl _ _⟩
      have h := HK.out.2
      rw [show xs.length = (xs.map fun x => x.key).length by rw [List.length_map]] at h
      exact h.rise
set_option maxHeartbeats 4000000 in
set_option maxRecDepth 100000 in
theorem riseBrX (a : Option Addr) (c : Nat) (xs : List Bn) (w : World) (h : Ls brE (fun _ => True) w a xs) (hn : xs.length ≤ 9223372036854775807) :
    Calls Tryz.prog 46 #[.slice a xs.length c] w fun e w' => (∃ b, e = .returned (.bool b) ∧ (b = true ↔ RiseK (xs.map fun x => x.key))) ∧ Below w.heap.size w w' := by
  have HLS : Hid (Ls brE (fun _ => True) w a xs) := h
  have HN : Hid (xs.length ≤ 9223372036854775807) := hn
  clear h hn
  go_enter Tryz.func46, Tryz.ntmps46
  go_wp2_with fail
  go_loopw [3, 4, 5, 8] (fun last _ _ i wr => ∃ (j : Nat) (k : ByteArray), j ≤ xs.length ∧ i = .int .i64 (j : Int) ∧ last = .string k ∧ Hid (LastK (xs.map fun x => x.key) j k ∧ UpTo (xs.map fun x => x.key) j k) ∧ wr = w) (fun _ _ _ i _ => xs.length - (intOf i).toNat)
  case atStart => exact ⟨0, _, Nat.zero_le _, rfl, rfl, ⟨.inl ⟨rfl, rfl⟩, UpTo.zero _ _⟩, rfl⟩
  case round =>
    obtain ⟨j, k, hj, rfl, rfl, HK, rfl⟩ := hrel
    by_cases hlt : j < xs.length
    · have hjl : (j : Int) < (xs.length : Int) := by omega
      obtain ⟨y, hy⟩ : ∃ y, xs[j]? = some y := ⟨_, List.getElem?_eq_getElem hlt⟩
      have HY : Hid ((xs.map fun x => x.key)[j]? = some y.key) := by show _ = _; rw [List.getElem?_map, hy]; rfl
      obtain ⟨B, o, vb, rfl, _, k0, _⟩ := HLS.out.br j y hy
      have HW : Hid (wrap64 ((j : Int) + 1) = ((j + 1 : Nat) : Int)) := wr1 hlt HN.out
      have KC : Hid (Calls Tryz.prog 75 #[.pointer (some ⟨B, o + j * 2, none⟩)] wr fun e w' => e = .returned (.string y.key) ∧ w' = wr) := keyBr_calls wr B (o + j * 2) y.key k0
      clear hy k0
      go_wp2_with fail
      refine KC.out.mono ?_
      rintro e w2 ⟨rfl, rfl⟩
      by_cases hab : above y.key k = true
      · have hle := leq_of hab
        have HL2 : Hid (LastK (xs.map fun x => x.key) (j + 1) y.key ∧ UpTo (xs.map fun x => x.key) (j + 1) y.key) := ⟨.inr ⟨j, rfl, HY.out⟩, HK.out.2.moreA HY.out hab⟩
        clear hab KC
        go_wp2_with (simp only)
        exact ⟨⟨j + 1, _, hlt, by first | rfl | rw [HW.out], rfl, HL2, by first | trivial | rfl⟩, meas hlt (by first | rfl | exact HW.out)⟩
      · have hle := leq_not hab
        have HNO : Hid (¬ RiseK (xs.map fun x => x.key)) := fun hr => hab (hr.above HK.out.1 HY.out)
        clear hab KC
        go_wp2_with (simp only)
        go_ret
        exact ⟨⟨false, rfl, ⟨fun hr => (by cases hr), fun hr => absurd hr HNO.out⟩⟩, Below.refl _ _⟩
    · obtain rfl : j = xs.length := by omega
      go_wp2_with fail
      go_ret
      refine ⟨⟨true, rfl, ⟨fun _ => ?_, fun _ => rfl⟩⟩, Below.refl _ _⟩
      have h := HK.out.2
      rw [show xs.length = (xs.map fun x => x.key).length by rw [List.length_map]] at h
      exact h.rise
set_option maxRecDepth 100000 in
theorem unwX (key : ByteArray) (ver : Int) (p : Option Addr) (n c : Nat) (w : World) : Calls Tryz.prog 48 #[.agg #[.string key, .int .i64 ver, .slice p n c]] w fun e w' => (∃ q, e = .returned (.bool q) ∧ (q = false ↔ 1 ≤ ver)) ∧ Below w.heap.size w w' := by
  go_enter Tryz.func48, Tryz.ntmps48
  go_wp2_with fail
  go_ret
  refine ⟨⟨_, rfl, ⟨fun h => ?_, fun h => decide_eq_false (by omega)⟩⟩, bel1 _ _⟩
  have := of_decide_eq_false h
  omega
set_option maxRecDepth 100000 in
theorem empX (p : Option Addr) (n c : Nat) (w : World) : Calls Tryz.prog 79 #[.slice p n c] w fun e w' => (∃ q, e = .returned (.bool q) ∧ (q = false ↔ 1 ≤ n)) ∧ Below w.heap.size w w' := by
  by_cases h : n = 0
  · subst h
    go_enter Tryz.func79, Tryz.ntmps79
    go_wp2_with fail
    go_ret
    exact ⟨⟨true, rfl, ⟨fun h => (by cases h), fun h => absurd h (by decide)⟩⟩, Below.refl _ _⟩
  · have h1 : ((n : Int) == 0) = false := by simpa using h
    have HP : Hid (1 ≤ n) := by show _ ≤ _; omega
    go_enter Tryz.func79, Tryz.ntmps79
    go_wp2_with fail
    go_ret
    exact ⟨⟨false, rfl, ⟨fun _ => HP.out, fun _ => rfl⟩⟩, Below.refl _ _⟩
set_option maxHeartbeats 4000000 in
set_option maxRecDepth 100000 in
theorem idxRowX (a : Option Addr) (c : Nat) (xs : List Rw) (w : World) (h : Ls rowE (fun _ => True) w a xs) (hn : xs.length ≤ 9223372036854775807) :
    Calls Tryz.prog 76 #[.slice a xs.length c, .func (.func 48) #[] #[]] w fun e w' => (∃ i : Int, e = .returned (.int .i64 i) ∧ ((i = -1 ∧ ∀ x ∈ xs, 1 ≤ x.ver) ∨ (0 ≤ i ∧ ¬ ∀ x ∈ xs, 1 ≤ x.ver))) ∧ Below w.heap.size w w' := by
  have HLS : Hid (Ls rowE (fun _ => True) w a xs) := h
  have HN : Hid (xs.length ≤ 9223372036854775807) := hn
  clear h hn
  go_enter Tryz.func76, Tryz.ntmps76
  go_wp2_with fail
  go_loopw [5, 8] (fun _ i wr => ∃ j : Nat, j ≤ xs.length ∧ i = .int .i64 (j : Int) ∧ Hid (∀ (i : Nat) x, i < j → xs[i]? = some x → 1 ≤ x.ver) ∧ Hid (Below w.heap.size w wr)) (fun _ i _ => xs.length - (intOf i).toNat)
  case atStart => exact ⟨0, Nat.zero_le _, rfl, fun _ _ h => absurd h (Nat.not_lt_zero _), Below.refl _ _⟩
  case round =>
    obtain ⟨j, hj, rfl, HG, HB⟩ := hrel
    by_cases hlt : j < xs.length
    · have hjl : (j : Int) < (xs.length : Int) := by omega
      obtain ⟨x, hx⟩ : ∃ y, xs[j]? = some y := ⟨_, List.getElem?_eq_getElem hlt⟩
      obtain ⟨B, o, vb, rfl, _, k0, k1, k2, hvb⟩ := (HLS.out.below HB.out).row j x hx
      obtain ⟨pv, cv, rfl, _⟩ := hvb.shape
      have KC : Hid (Calls Tryz.prog 48 _ wr _) := unwX x.key x.ver pv x.row.length cv wr
      clear hvb
      have HW : Hid (wrap64 ((j : Int) + 1) = ((j + 1 : Nat) : Int)) := wr1 hlt HN.out
      have HX : Hid (xs[j]? = some x) := hx
      clear hx
      go_wp2_with fail
      refine KC.out.mono ?_
      rintro e w2 ⟨⟨q, rfl, hq⟩, hb2⟩
      have HB2 : Hid (Below w.heap.size w w2) := bel2 HB.out hb2
      have HQ : Hid (q = false ↔ (1 ≤ x.ver)) := hq
      clear hb2 hq KC
      cases q with
      | true =>
        go_wp2_with fail
        go_ret
        exact ⟨⟨_, rfl, .inr ⟨by omega, fun hall => absurd (HQ.out.2 (hall x (List.mem_of_getElem? HX.out))) (by decide)⟩⟩, HB2.out⟩
      | false =>
        have HG2 : Hid (∀ (i : Nat) x, i < j + 1 → xs[i]? = some x → 1 ≤ x.ver) := fun i y hi hy => by
          by_cases he : i = j
          · subst he
            rw [HX.out] at hy
            cases hy
            exact HQ.out.1 rfl
          · exact HG.out i y (by omega) hy
        go_wp2_with fail
        exact ⟨⟨j + 1, hlt, by first | rfl | rw [HW.out], HG2, HB2⟩, meas hlt (by first | rfl | exact HW.out)⟩
    · obtain rfl : j = xs.length := by omega
      go_wp2_with fail
      go_ret
      refine ⟨⟨-1, rfl, .inl ⟨rfl, fun x hx => ?_⟩⟩, HB.out⟩
      obtain ⟨i, hi⟩ := List.getElem?_of_mem hx
      exact HG.out i x (List.getElem?_eq_some_iff.1 hi).1 hi
set_option maxRecDepth 100000 in
theorem conRowX (a : Option Addr) (c : Nat) (xs : List Rw) (w : World) (h : Ls rowE (fun _ => True) w a xs) (hn : xs.length ≤ 9223372036854775807) :
    Calls Tryz.prog 47 #[.slice a xs.length c, .func (.func 48) #[] #[]] w fun e w' => (∃ b, e = .returned (.bool b) ∧ (b = false ↔ ∀ x ∈ xs, 1 ≤ x.ver)) ∧ Below w.heap.size w w' := by
  have IC : Hid (Calls Tryz.prog 76 _ w _) := idxRowX a c xs w h hn
  clear h hn
  go_enter Tryz.func47, Tryz.ntmps47
  go_wp2_with fail
  refine IC.out.mono ?_
  rintro e w2 ⟨⟨i, rfl, hi⟩, hb⟩
  have HI : Hid ((i = -1 ∧ ∀ x ∈ xs, 1 ≤ x.ver) ∨ (0 ≤ i ∧ ¬ ∀ x ∈ xs, 1 ≤ x.ver)) := hi
  have HB : Hid (Below w.heap.size w w2) := hb
  clear hi hb IC
  go_wp2_with fail
  go_ret
  refine ⟨⟨_, rfl, ?_⟩, HB.out⟩
  rcases HI.out with ⟨h1, h2⟩ | ⟨h1, h2⟩
  · exact ⟨fun _ => h2, fun _ => decide_eq_false (by omega)⟩
  · exact ⟨fun h => absurd h1 (of_decide_eq_false h), fun h => absurd h h2⟩
set_option maxHeartbeats 4000000 in
set_option maxRecDepth 100000 in
theorem idxEvX (a : Option Addr) (c : Nat) (xs : List (List UInt8)) (w : World) (h : Ls evE (fun _ => True) w a xs) (hn : xs.length ≤ 9223372036854775807) :
    Calls Tryz.prog 101 #[.slice a xs.length c, .func (.func 79) #[] #[]] w fun e w' => (∃ i : Int, e = .returned (.int .i64 i) ∧ ((i = -1 ∧ ∀ x ∈ xs, 1 ≤ x.length) ∨ (0 ≤ i ∧ ¬ ∀ x ∈ xs, 1 ≤ x.length))) ∧ Below w.heap.size w w' := by
  have HLS : Hid (Ls evE (fun _ => True) w a xs) := h
  have HN : Hid (xs.length ≤ 9223372036854775807) := hn
  clear h hn
  go_enter Tryz.func101, Tryz.ntmps101
  go_wp2_with fail
  go_loopw [5, 8] (fun _ i wr => ∃ j : Nat, j ≤ xs.length ∧ i = .int .i64 (j : Int) ∧ Hid (∀ (i : Nat) x, i < j → xs[i]? = some x → 1 ≤ x.length) ∧ Hid (Below w.heap.size w wr)) (fun _ i _ => xs.length - (intOf i).toNat)
  case atStart => exact ⟨0, Nat.zero_le _, rfl, fun _ _ h => absurd h (Nat.not_lt_zero _), Below.refl _ _⟩
  case round =>
    obtain ⟨j, hj, rfl, HG, HB⟩ := hrel
    by_cases hlt : j < xs.length
    · have hjl : (j : Int) < (xs.length : Int) := by omega
      obtain ⟨x, hx⟩ : ∃ y, xs[j]? = some y := ⟨_, List.getElem?_eq_getElem hlt⟩
      obtain ⟨B, o, vb, rfl, _, k0, hvb⟩ := (HLS.out.below HB.out).ev j x hx
      obtain ⟨pv, cv, rfl, _⟩ := hvb.shape
      have KC : Hid (Calls Tryz.prog 79 _ wr _) := empX pv x.length cv wr
      clear hvb
      have HW : Hid (wrap64 ((j : Int) + 1) = ((j + 1 : Nat) : Int)) := wr1 hlt HN.out
      have HX : Hid (xs[j]? = some x) := hx
      clear hx
      go_wp2_with fail
      refine KC.out.mono ?_
      rintro e w2 ⟨⟨q, rfl, hq⟩, hb2⟩
      have HB2 : Hid (Below w.heap.size w w2) := bel2 HB.out hb2
      have HQ : Hid (q = false ↔ (1 ≤ x.length)) := hq
      clear hb2 hq KC
      cases q with
      | true =>
        go_wp2_with fail
        go_ret
        exact ⟨⟨_, rfl, .inr ⟨by omega, fun hall => absurd (HQ.out.2 (hall x (List.mem_of_getElem? HX.out))) (by decide)⟩⟩, HB2.out⟩
      | false =>
        have HG2 : Hid (∀ (i : Nat) x, i < j + 1 → xs[i]? = some x → 1 ≤ x.length) := fun i y hi hy => by
          by_cases he : i = j
          · subst he
            rw [HX.out] at hy
            cases hy
            exact HQ.out.1 rfl
          · exact HG.out i y (by omega) hy
        go_wp2_with fail
        exact ⟨⟨j + 1, hlt, by first | rfl | rw [HW.out], HG2, HB2⟩, meas hlt (by first | rfl | exact HW.out)⟩
    · obtain rfl : j = xs.length := by omega
      go_wp2_with fail
      go_ret
      refine ⟨⟨-1, rfl, .inl ⟨rfl, fun x hx => ?_⟩⟩, HB.out⟩
      obtain ⟨i, hi⟩ := List.getElem?_of_mem hx
      exact HG.out i x (List.getElem?_eq_some_iff.1 hi).1 hi
set_option maxRecDepth 100000 in
theorem conEvX (a : Option Addr) (c : Nat) (xs : List (List UInt8)) (w : World) (h : Ls evE (fun _ => True) w a xs) (hn : xs.length ≤ 9223372036854775807) :
    Calls Tryz.prog 78 #[.slice a xs.length c, .func (.func 79) #[] #[]] w fun e w' => (∃ b, e = .returned (.bool b) ∧ (b = false ↔ ∀ x ∈ xs, 1 ≤ x.length)) ∧ Below w.heap.size w w' := by
  have IC : Hid (Calls Tryz.prog 101 _ w _) := idxEvX a c xs w h hn
  clear h hn
  go_enter Tryz.func78, Tryz.ntmps78
  go_wp2_with fail
  refine IC.out.mono ?_
  rintro e w2 ⟨⟨i, rfl, hi⟩, hb⟩
  have HI : Hid ((i = -1 ∧ ∀ x ∈ xs, 1 ≤ x.length) ∨ (0 ≤ i ∧ ¬ ∀ x ∈ xs, 1 ≤ x.length)) := hi
  have HB : Hid (Below w.heap.size w w2) := hb
  clear hi hb IC
  go_wp2_with fail
  go_ret
  refine ⟨⟨_, rfl, ?_⟩, HB.out⟩
  rcases HI.out with ⟨h1, h2⟩ | ⟨h1, h2⟩
  · exact ⟨fun _ => h2, fun _ => decide_eq_false (by omega)⟩
  · exact ⟨fun h => absurd h1 (of_decide_eq_false h), fun h => absurd h h2⟩
set_option maxRecDepth 100000 in
theorem hasEX (key : ByteArray) (p : Option Addr) (c : Nat) (xs : List (List UInt8)) (w : World) (h : Ls evE (fun _ => True) w p xs) (hn : xs.length ≤ 9223372036854775807) :
    Calls Tryz.prog 50 #[.agg #[.string key, .slice p xs.length c]] w fun e w' => (∃ q, e = .returned (.bool q) ∧ (q = false ↔ ∀ e ∈ xs, 1 ≤ e.length)) ∧ Below w.heap.size w w' := by
  have CC : Hid (Calls Tryz.prog 78 _ (w.alloc (.cells #[.string key, .slice p xs.length c] 39)) _) := conEvX p c xs _ (h.below (bel1 _ _)) hn
  have HA : Hid (Below w.heap.size w (w.alloc (.cells #[.string key, .slice p xs.length c] 39))) := bel1 _ _
  have n1 := cell_new w #[.string key, .slice p xs.length c] 39 1
  clear h hn
  go_enter Tryz.func50, Tryz.ntmps50
  go_wp2_with fail
  refine CC.out.mono ?_
  rintro e w2 ⟨⟨b, rfl, hb⟩, hb2⟩
  have HB : Hid ((b = false ↔ ∀ e ∈ xs, 1 ≤ e.length) ∧ Below w.heap.size w w2) := ⟨hb, bel2 HA.out hb2⟩
  clear hb hb2 CC n1
  go_wp2_with fail
  go_ret
  exact ⟨⟨b, rfl, HB.out.1⟩, HB.out.2⟩
set_option maxHeartbeats 4000000 in
set_option maxRecDepth 100000 in
theorem idxBrX (a : Option Addr) (c : Nat) (xs : List Bn) (w : World) (h : Ls brE (fun _ => True) w a xs) (hn : xs.length ≤ 9223372036854775807) :
    Calls Tryz.prog 77 #[.slice a xs.length c, .func (.func 50) #[] #[]] w fun e w' => (∃ i : Int, e = .returned (.int .i64 i) ∧ ((i = -1 ∧ ∀ x ∈ xs, (∀ e ∈ x.ev, 1 ≤ e.length)) ∨ (0 ≤ i ∧ ¬ ∀ x ∈ xs, (∀ e ∈ x.ev, 1 ≤ e.length)))) ∧ Below w.heap.size w w' := by
  have HLS : Hid (Ls brE (fun _ => True) w a xs) := h
  have HN : Hid (xs.length ≤ 9223372036854775807) := hn
  clear h hn
  go_enter Tryz.func77, Tryz.ntmps77
  go_wp2_with fail
  go_loopw [5, 8] (fun _ i wr => ∃ j : Nat, j ≤ xs.length ∧ i = .int .i64 (j : Int) ∧ Hid (∀ (i : Nat) x, i < j → xs[i]? = some x → (∀ e ∈ x.ev, 1 ≤ e.length)) ∧ Hid (Below w.heap.size w wr)) (fun _ i _ => xs.length - (intOf i).toNat)
  case atStart => exact ⟨0, Nat.zero_le _, rfl, fun _ _ h => absurd h (Nat.not_lt_zero _), Below.refl _ _⟩
  case round =>
    obtain ⟨j, hj, rfl, HG, HB⟩ := hrel
    by_cases hlt : j < xs.length
    · have hjl : (j : Int) < (xs.length : Int) := by omega
      obtain ⟨x, hx⟩ : ∃ y, xs[j]? = some y := ⟨_, List.getElem?_eq_getElem hlt⟩
      obtain ⟨B, o, vb, rfl, _, k0, k1, hvb⟩ := (HLS.out.below HB.out).br j x hx
      obtain ⟨pv, cv, rfl, hc1, hc2, hvl⟩ := hvb
      have KC : Hid (Calls Tryz.prog 50 _ wr _) := hasEX x.key pv cv x.ev wr hvl (Nat.le_trans hc1 hc2)
      clear hvl hc1 hc2
      have HW : Hid (wrap64 ((j : Int) + 1) = ((j + 1 : Nat) : Int)) := wr1 hlt HN.out
      have HX : Hid (xs[j]? = some x) := hx
      clear hx
      go_wp2_with fail
      refine KC.out.mono ?_
      rintro e w2 ⟨⟨q, rfl, hq⟩, hb2⟩
      have HB2 : Hid (Below w.heap.size w w2) := bel2 HB.out hb2
      have HQ : Hid (q = false ↔ ((∀ e ∈ x.ev, 1 ≤ e.length))) := hq
      clear hb2 hq KC
      cases q with
      | true =>
        go_wp2_with fail
        go_ret
        exact ⟨⟨_, rfl, .inr ⟨by omega, fun hall => absurd (HQ.out.2 (hall x (List.mem_of_getElem? HX.out))) (by decide)⟩⟩, HB2.out⟩
      | false =>
        have HG2 : Hid (∀ (i : Nat) x, i < j + 1 → xs[i]? = some x → (∀ e ∈ x.ev, 1 ≤ e.length)) := fun i y hi hy => by
          by_cases he : i = j
          · subst he
            rw [HX.out] at hy
            cases hy
            exact HQ.out.1 rfl
          · exact HG.out i y (by omega) hy
        go_wp2_with fail
        exact ⟨⟨j + 1, hlt, by first | rfl | rw [HW.out], HG2, HB2⟩, meas hlt (by first | rfl | exact HW.out)⟩
    · obtain rfl : j = xs.length := by omega
      go_wp2_with fail
      go_ret
      refine ⟨⟨-1, rfl, .inl ⟨rfl, fun x hx => ?_⟩⟩, HB.out⟩
      obtain ⟨i, hi⟩ := List.getElem?_of_mem hx
      exact HG.out i x (List.getElem?_eq_some_iff.1 hi).1 hi
set_option maxRecDepth 100000 in
theorem conBrX (a : Option Addr) (c : Nat) (xs : List Bn) (w : World) (h : Ls brE (fun _ => True) w a xs) (hn : xs.length ≤ 9223372036854775807) :
    Calls Tryz.prog 49 #[.slice a xs.length c, .func (.func 50) #[] #[]] w fun e w' => (∃ b, e = .returned (.bool b) ∧ (b = false ↔ ∀ x ∈ xs, (∀ e ∈ x.ev, 1 ≤ e.length))) ∧ Below w.heap.size w w' := by
  have IC : Hid (Calls Tryz.prog 77 _ w _) := idxBrX a c xs w h hn
  clear h hn
  go_enter Tryz.func49, Tryz.ntmps49
  go_wp2_with fail
  refine IC.out.mono ?_
  rintro e w2 ⟨⟨i, rfl, hi⟩, hb⟩
  have HI : Hid ((i = -1 ∧ ∀ x ∈ xs, (∀ e ∈ x.ev, 1 ≤ e.length)) ∨ (0 ≤ i ∧ ¬ ∀ x ∈ xs, (∀ e ∈ x.ev, 1 ≤ e.length))) := hi
  have HB : Hid (Below w.heap.size w w2) := hb
  clear hi hb IC
  go_wp2_with fail
  go_ret
  refine ⟨⟨_, rfl, ?_⟩, HB.out⟩
  rcases HI.out with ⟨h1, h2⟩ | ⟨h1, h2⟩
  · exact ⟨fun _ => h2, fun _ => decide_eq_false (by omega)⟩
  · exact ⟨fun h => absurd h1 (of_decide_eq_false h), fun h => absurd h h2⟩
/-- What mayBe asks. -/
def MayD (r : Db) : Prop := RiseK (r.rows.map fun x => x.key) ∧ RiseK (r.brs.map fun x => x.key) ∧ (∀ x ∈ r.rows, 1 ≤ x.ver) ∧ ∀ x ∈ r.brs, ∀ e ∈ x.ev, 1 ≤ e.length
theorem canD_iff {r : Db} (h : LimD r) : CanD r ↔ MayD r := ⟨fun c => ⟨c.kr, c.kb, c.ver, c.ne⟩, fun m => ⟨h, m.1, m.2.1, m.2.2.1, m.2.2.2⟩⟩
set_option maxHeartbeats 4000000 in
set_option maxRecDepth 100000 in
theorem mayBeX (v : Value) (r : Db) (w : World) (hv : IsR (fun _ => True) w v r) : Calls Tryz.prog 19 #[v] w fun e w' => (∃ b, e = .returned (.bool b) ∧ (b = true ↔ MayD r)) ∧ Below w.heap.size w w' := by
  obtain ⟨pu, cu, pb, cb, rfl, hu, hb⟩ := hv.shape
  obtain ⟨_, _, e1, x1, x2, hls1⟩ := hu
  cases e1
  obtain ⟨_, _, e2, y1, y2, hls2⟩ := hb
  cases e2
  have HU : Hid (Ls rowE (fun _ => True) w pu r.rows) := hls1
  have HV : Hid (Ls brE (fun _ => True) w pb r.brs) := hls2
  have HN : Hid (r.rows.length ≤ 9223372036854775807 ∧ r.brs.length ≤ 9223372036854775807) := ⟨Nat.le_trans x1 x2, Nat.le_trans y1 y2⟩
  have HA : Hid (Below w.heap.size w (w.alloc (.cells #[.slice pu r.rows.length cu, .slice pb r.brs.length cb] 25))) := bel1 _ _
  have O1 : (w.alloc (.cells #[.slice pu r.rows.length cu, .slice pb r.brs.length cb] 25)).heap[w.heap.size]? = some (.cells #[.slice pu r.rows.length cu, .slice pb r.brs.length cb] 25 (0, 0)) := heap_alloc_last _ _
  clear hls1 hls2 x1 x2 y1 y2 hv
  go_enter Tryz.func19, Tryz.ntmps19
  go_upto_region 1 with fail
  generalize w.alloc (.cells #[.slice pu r.rows.length cu, .slice pb r.brs.length cb] 25) = w1 at HA O1 ⊢
  have HO : Hid (w1.heap[w.heap.size]? = _) := O1
  have a0 := row_cell O1 (j := 0) rfl
  have a1 := row_cell O1 (j := 1) rfl
  have R1 : Hid (Calls Tryz.prog 45 _ w1 _) := riseRowX pu cu r.rows w1 (HU.out.below HA.out) HN.out.1
  clear O1
  go_wp2_with fail
  refine R1.out.mono ?_
  rintro e w2 ⟨⟨b1, rfl, h1⟩, hb2⟩
  have H1 : Hid (b1 = true ↔ RiseK (r.rows.map fun x => x.key)) := h1
  have HB2 : Hid (Below w.heap.size w w2) := bel2 HA.out hb2
  have a0 := row_cell (row_below hb2 HO.out) (j := 0) rfl
  have a1 := row_cell (row_below hb2 HO.out) (j := 1) rfl
  have R2 : Hid (Calls Tryz.prog 46 _ w2 _) := riseBrX pb cb r.brs w2 (HV.out.below HB2.out) HN.out.2
  have HK2 : Hid (Below w1.heap.size w1 w2) := hb2
  clear h1 hb2 R1
  cases b1 with
  | false =>
    clear R2
    go_wp2_with fail
    go_ret
    exact ⟨⟨false, rfl, ⟨fun h => (by cases h), fun h => absurd (H1.out.2 h.1) (by decide)⟩⟩, HB2.out⟩
  | true =>
    go_wp2_with fail
    refine R2.out.mono ?_
    rintro e w3 ⟨⟨b2, rfl, h2⟩, hb3⟩
    have H2 : Hid (b2 = true ↔ RiseK (r.brs.map fun x => x.key)) := h2
    have HB3 : Hid (Below w.heap.size w w3) := bel2 HB2.out hb3
    have HK3 : Hid (Below w1.heap.size w1 w3) := bel2 HK2.out hb3
    have a0 := row_cell (row_below HK3.out HO.out) (j := 0) rfl
    have a1 := row_cell (row_below HK3.out HO.out) (j := 1) rfl
    have R3 : Hid (Calls Tryz.prog 47 _ w3 _) := conRowX pu cu r.rows w3 (HU.out.below HB3.out) HN.out.1
    clear h2 hb3 R2
    cases b2 with
    | false =>
      clear R3
      go_wp2_with fail
      go_ret
      exact ⟨⟨false, rfl, ⟨fun h => (by cases h), fun h => absurd (H2.out.2 h.2.1) (by decide)⟩⟩, HB3.out⟩
    | true =>
      go_wp2_with fail
      refine R3.out.mono ?_
      rintro e w4 ⟨⟨b3, rfl, h3⟩, hb4⟩
      have H3 : Hid (b3 = false ↔ ∀ x ∈ r.rows, 1 ≤ x.ver) := h3
      have HB4 : Hid (Below w.heap.size w w4) := bel2 HB3.out hb4
      have HK4 : Hid (Below w1.heap.size w1 w4) := bel2 HK3.out hb4
      have a0 := row_cell (row_below HK4.out HO.out) (j := 0) rfl
      have a1 := row_cell (row_below HK4.out HO.out) (j := 1) rfl
      have R4 : Hid (Calls Tryz.prog 49 _ w4 _) := conBrX pb cb r.brs w4 (HV.out.below HB4.out) HN.out.2
      clear h3 hb4 R3
      cases b3 with
      | true =>
        clear R4
        go_wp2_with fail
        go_ret
        exact ⟨⟨false, rfl, ⟨fun h => (by cases h), fun h => absurd (H3.out.2 h.2.2.1) (by decide)⟩⟩, HB4.out⟩
      | false =>
        go_wp2_with fail
        refine R4.out.mono ?_
        rintro e w5 ⟨⟨b4, rfl, h4⟩, hb5⟩
        have H4 : Hid (b4 = false ↔ ∀ x ∈ r.brs, ∀ e ∈ x.ev, 1 ≤ e.length) := h4
        have HB5 : Hid (Below w.heap.size w w5) := bel2 HB4.out hb5
        clear h4 hb5 R4
        go_wp2_with fail
        go_ret
        refine ⟨⟨_, rfl, ?_⟩, HB5.out⟩
        cases b4 with
        | true => exact ⟨fun h => (by cases h), fun h => absurd (H4.out.2 h.2.2.2) (by decide)⟩
        | false => exact ⟨fun _ => ⟨H1.out.1 (by first | rfl | trivial), H2.out.1 (by first | rfl | trivial), H3.out.1 (by first | rfl | trivial), H4.out.1 (by first | rfl | trivial)⟩, fun _ => rfl⟩
end Go.Proofs.YtkaaddahegkmgaaGreat
