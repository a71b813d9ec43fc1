/- The contract of mayBe. -/
import Derived.Test.YtkaaddahegkmgaaGreatSB
import Derived.Test.YtkaaddahegkmgaaGreatRK
namespace Go.Proofs.YtkaaddahegkmgaaGreat
open Go.ChangeShapes Go.WideShapes Go.ChangeAt Go.RowKit
/-- A key that is above another. -/
def above (k last : ByteArray) : Bool := !Op.bytesLess k.toList last.toList && !(k.toList == last.toList)
theorem leq_of {k last : ByteArray} (h : above k last = true) : (Op.bytesLess k.toList last.toList || (k.toList == last.toList)) = false := by
  unfold above at h
  simp only [Bool.and_eq_true, Bool.not_eq_true'] at h
  rw [h.1, h.2]
  rfl
theorem leq_not {k last : ByteArray} (h : ¬ above k last = true) : (Op.bytesLess k.toList last.toList || (k.toList == last.toList)) = true := by
  unfold above at h
  cases h1 : Op.bytesLess k.toList last.toList
  · cases h2 : (k.toList == last.toList)
    · rw [h1, h2] at h
      exact absurd rfl h
    · rfl
  · rfl
/-- The key ahead of the one at j: the last one, or none. -/
def LastK (ks : List ByteArray) (j : Nat) (k : ByteArray) : Prop := (j = 0 ∧ k = ⟨#[]⟩) ∨ ∃ i, j = i + 1 ∧ ks[i]? = some k
/-- Keys that rise, each of one byte or more. -/
structure RiseK (ks : List ByteArray) : Prop where
  pos : ∀ k ∈ ks, 1 ≤ k.size
  up : ∀ i k k', ks[i]? = some k → ks[i + 1]? = some k' → above k' k = true
theorem less_nil (l : List UInt8) : Op.bytesLess l [] = false := by cases l <;> rfl
theorem above_nil {k : ByteArray} (h : 1 ≤ k.size) : above k ⟨#[]⟩ = true := by
  have e : (⟨#[]⟩ : ByteArray).toList = [] := by decide +kernel
  unfold above
  rw [e, less_nil]
  cases hk : k.toList with
  | nil => rw [tl_nil hk] at h; exact absurd h (by decide)
  | cons _ _ => rfl
theorem RiseK.above {ks : List ByteArray} {j : Nat} {k y : ByteArray} (h : RiseK ks) (hl : LastK ks j k) (hy : ks[j]? = some y) : above y k = true := by
  rcases hl with ⟨rfl, rfl⟩ | ⟨i, rfl, hk⟩
  · exact above_nil (h.pos y (List.mem_of_getElem? hy))
  · exact h.up i k y hk hy
set_option maxHeartbeats 4000000 in
set_option maxRecDepth 100000 in
theorem riseRow_calls (a : Option Addr) (c : Nat) (xs : List Rw) (w : World) (h : Ls rowE (fun _ => True) w a xs) (hn : xs.length ≤ 9223372036854775807) :
    Calls Tryz.prog 45 #[.slice a xs.length c] w fun e w' => (∃ b, e = .returned (.bool b) ∧ (RiseK (xs.map fun x => x.key) → b = true)) ∧ Below w.heap.size w w' := by
  have HLS : Hid (Ls rowE (fun _ => True) w a xs) := h
  have HN : Hid (xs.length ≤ 9223372036854775807) := hn
  clear h hn
  go_enter Tryz.func45, Tryz.ntmps45
  go_wp2_with fail
  go_loopw [3, 4, 5, 8] (fun last _ _ i wr => ∃ (j : Nat) (k : ByteArray), j ≤ xs.length ∧ i = .int .i64 (j : Int) ∧ last = .string k ∧ Hid (LastK (xs.map fun x => x.key) j k) ∧ wr = w) (fun _ _ _ i _ => xs.length - (intOf i).toNat)
  case atStart => exact ⟨0, _, Nat.zero_le _, rfl, rfl, .inl ⟨rfl, rfl⟩, rfl⟩
  case round =>
    obtain ⟨j, k, hj, rfl, rfl, HK, rfl⟩ := hrel
    by_cases hlt : j < xs.length
    · have hjl : (j : Int) < (xs.length : Int) := by omega
      obtain ⟨y, hy⟩ : ∃ y, xs[j]? = some y := ⟨_, List.getElem?_eq_getElem hlt⟩
      have HY : Hid ((xs.map fun x => x.key)[j]? = some y.key) := by show _ = _; rw [List.getElem?_map, hy]; rfl
      obtain ⟨B, o, vb, rfl, _, k0, _⟩ := HLS.out.row j y hy
      have HW : Hid (wrap64 ((j : Int) + 1) = ((j + 1 : Nat) : Int)) := wr1 hlt HN.out
      have KC : Hid (Calls Tryz.prog 74 #[.pointer (some ⟨B, o + j * 3, none⟩)] wr fun e w' => e = .returned (.string y.key) ∧ w' = wr) := keyRow_calls wr B (o + j * 3) y.key k0
      clear hy k0
      go_wp2_with fail
      refine KC.out.mono ?_
      rintro e w2 ⟨rfl, rfl⟩
      by_cases hab : above y.key k = true
      · have hle := leq_of hab
        have HL2 : Hid (LastK (xs.map fun x => x.key) (j + 1) y.key) := .inr ⟨j, rfl, HY.out⟩
        clear hab KC
        go_wp2_with (simp only)
        exact ⟨⟨j + 1, _, hlt, by first | rfl | rw [HW.out], rfl, HL2, by first | trivial | rfl⟩, meas hlt (by first | rfl | exact HW.out)⟩
      · have hle := leq_not hab
        have HNO : Hid (¬ RiseK (xs.map fun x => x.key)) := fun hr => hab (hr.above HK.out HY.out)
        clear hab KC
        go_wp2_with (simp only)
        go_ret
        exact ⟨⟨false, rfl, fun hr => absurd hr HNO.out⟩, Below.refl _ _⟩
    · obtain rfl : j = xs.length := by omega
      go_wp2_with fail
      go_ret
      exact ⟨⟨true, rfl, fun _ => rfl⟩, Below.refl _ _⟩
set_option maxHeartbeats 4000000 in
set_option maxRecDepth 100000 in
theorem riseBr_calls (a : Option Addr) (c : Nat) (xs : List Bn) (w : World) (h : Ls brE (fun _ => True) w a xs) (hn : xs.length ≤ 9223372036854775807) :
    Calls Tryz.prog 46 #[.slice a xs.length c] w fun e w' => (∃ b, e = .returned (.bool b) ∧ (RiseK (xs.map fun x => x.key) → b = true)) ∧ Below w.heap.size w w' := by
  have HLS : Hid (Ls brE (fun _ => True) w a xs) := h
  have HN : Hid (xs.length ≤ 9223372036854775807) := hn
  clear h hn
  go_enter Tryz.func46, Tryz.ntmps46
  go_wp2_with fail
  go_loopw [3, 4, 5, 8] (fun last _ _ i wr => ∃ (j : Nat) (k : ByteArray), j ≤ xs.length ∧ i = .int .i64 (j : Int) ∧ last = .string k ∧ Hid (LastK (xs.map fun x => x.key) j k) ∧ wr = w) (fun _ _ _ i _ => xs.length - (intOf i).toNat)
  case atStart => exact ⟨0, _, Nat.zero_le _, rfl, rfl, .inl ⟨rfl, rfl⟩, rfl⟩
  case round =>
    obtain ⟨j, k, hj, rfl, rfl, HK, rfl⟩ := hrel
    by_cases hlt : j < xs.length
    · have hjl : (j : Int) < (xs.length : Int) := by omega
      obtain ⟨y, hy⟩ : ∃ y, xs[j]? = some y := ⟨_, List.getElem?_eq_getElem hlt⟩
      have HY : Hid ((xs.map fun x => x.key)[j]? = some y.key) := by show _ = _; rw [List.getElem?_map, hy]; rfl
      obtain ⟨B, o, vb, rfl, _, k0, _⟩ := HLS.out.br j y hy
      have HW : Hid (wrap64 ((j : Int) + 1) = ((j + 1 : Nat) : Int)) := wr1 hlt HN.out
      have KC : Hid (Calls Tryz.prog 75 #[.pointer (some ⟨B, o + j * 2, none⟩)] wr fun e w' => e = .returned (.string y.key) ∧ w' = wr) := keyBr_calls wr B (o + j * 2) y.key k0
      clear hy k0
      go_wp2_with fail
      refine KC.out.mono ?_
      rintro e w2 ⟨rfl, rfl⟩
      by_cases hab : above y.key k = true
      · have hle := leq_of hab
        have HL2 : Hid (LastK (xs.map fun x => x.key) (j + 1) y.key) := .inr ⟨j, rfl, HY.out⟩
        clear hab KC
        go_wp2_with (simp only)
        exact ⟨⟨j + 1, _, hlt, by first | rfl | rw [HW.out], rfl, HL2, by first | trivial | rfl⟩, meas hlt (by first | rfl | exact HW.out)⟩
      · have hle := leq_not hab
        have HNO : Hid (¬ RiseK (xs.map fun x => x.key)) := fun hr => hab (hr.above HK.out HY.out)
        clear hab KC
        go_wp2_with (simp only)
        go_ret
        exact ⟨⟨false, rfl, fun hr => absurd hr HNO.out⟩, Below.refl _ _⟩
    · obtain rfl : j = xs.length := by omega
      go_wp2_with fail
      go_ret
      exact ⟨⟨true, rfl, fun _ => rfl⟩, Below.refl _ _⟩
set_option maxRecDepth 100000 in
theorem unw_calls (key : ByteArray) (ver : Int) (p : Option Addr) (n c : Nat) (w : World) : Calls Tryz.prog 48 #[.agg #[.string key, .int .i64 ver, .slice p n c]] w fun e w' => (∃ q, e = .returned (.bool q) ∧ (1 ≤ ver → q = false)) ∧ Below w.heap.size w w' := by
  go_enter Tryz.func48, Tryz.ntmps48
  go_wp2_with fail
  go_ret
  refine ⟨⟨_, rfl, fun h => ?_⟩, bel1 _ _⟩
  exact decide_eq_false (by omega)
set_option maxRecDepth 100000 in
theorem emp_calls (p : Option Addr) (n c : Nat) (w : World) : Calls Tryz.prog 79 #[.slice p n c] w fun e w' => (∃ q, e = .returned (.bool q) ∧ (1 ≤ n → q = false)) ∧ Below w.heap.size w w' := by
  by_cases h : n = 0
  · subst h
    go_enter Tryz.func79, Tryz.ntmps79
    go_wp2_with fail
    go_ret
    exact ⟨⟨_, rfl, fun h => absurd h (by decide)⟩, Below.refl _ _⟩
  · have h1 : ((n : Int) == 0) = false := by simpa using h
    go_enter Tryz.func79, Tryz.ntmps79
    go_wp2_with fail
    go_ret
    exact ⟨⟨false, rfl, fun _ => rfl⟩, Below.refl _ _⟩
set_option maxHeartbeats 4000000 in
set_option maxRecDepth 100000 in
theorem idxRow_calls (a : Option Addr) (c : Nat) (xs : List Rw) (w : World) (h : Ls rowE (fun _ => True) w a xs) (hn : xs.length ≤ 9223372036854775807) :
    Calls Tryz.prog 76 #[.slice a xs.length c, .func (.func 48) #[] #[]] w fun e w' => (∃ i : Int, e = .returned (.int .i64 i) ∧ ((∀ x ∈ xs, 1 ≤ x.ver) → i = -1)) ∧ Below w.heap.size w w' := by
  have HLS : Hid (Ls rowE (fun _ => True) w a xs) := h
  have HN : Hid (xs.length ≤ 9223372036854775807) := hn
  clear h hn
  go_enter Tryz.func76, Tryz.ntmps76
  go_wp2_with fail
  go_loopw [5, 8] (fun _ i wr => ∃ j : Nat, j ≤ xs.length ∧ i = .int .i64 (j : Int) ∧ Hid (Below w.heap.size w wr)) (fun _ i _ => xs.length - (intOf i).toNat)
  case atStart => exact ⟨0, Nat.zero_le _, rfl, Below.refl _ _⟩
  case round =>
    obtain ⟨j, hj, rfl, HB⟩ := hrel
    by_cases hlt : j < xs.length
    · have hjl : (j : Int) < (xs.length : Int) := by omega
      obtain ⟨x, hx⟩ : ∃ y, xs[j]? = some y := ⟨_, List.getElem?_eq_getElem hlt⟩
      obtain ⟨B, o, vb, rfl, _, k0, k1, k2, hvb⟩ := (HLS.out.below HB.out).row j x hx
      obtain ⟨pv, cv, rfl, _⟩ := hvb.shape
      have KC : Hid (Calls Tryz.prog 48 _ wr _) := unw_calls x.key x.ver pv x.row.length cv wr
      clear hvb
      have HW : Hid (wrap64 ((j : Int) + 1) = ((j + 1 : Nat) : Int)) := wr1 hlt HN.out
      have HMEM : Hid (x ∈ xs) := List.mem_of_getElem? hx
      clear hx
      go_wp2_with fail
      refine KC.out.mono ?_
      rintro e w2 ⟨⟨q, rfl, hq⟩, hb2⟩
      have HB2 : Hid (Below w.heap.size w w2) := bel2 HB.out hb2
      have HQ : Hid ((1 ≤ x.ver) → q = false) := hq
      clear hb2 hq KC
      cases q with
      | true =>
        go_wp2_with fail
        go_ret
        exact ⟨⟨_, rfl, fun hall => absurd (HQ.out (hall x HMEM.out)) (by decide)⟩, HB2.out⟩
      | false =>
        go_wp2_with fail
        exact ⟨⟨j + 1, hlt, by first | rfl | rw [HW.out], HB2⟩, meas hlt (by first | rfl | exact HW.out)⟩
    · obtain rfl : j = xs.length := by omega
      go_wp2_with fail
      go_ret
      exact ⟨⟨-1, rfl, fun _ => rfl⟩, HB.out⟩
set_option maxRecDepth 100000 in
theorem conRow_calls (a : Option Addr) (c : Nat) (xs : List Rw) (w : World) (h : Ls rowE (fun _ => True) w a xs) (hn : xs.length ≤ 9223372036854775807) :
    Calls Tryz.prog 47 #[.slice a xs.length c, .func (.func 48) #[] #[]] w fun e w' => (∃ b, e = .returned (.bool b) ∧ ((∀ x ∈ xs, 1 ≤ x.ver) → b = false)) ∧ Below w.heap.size w w' := by
  have IC : Hid (Calls Tryz.prog 76 _ w _) := idxRow_calls a c xs w h hn
  clear h hn
  go_enter Tryz.func47, Tryz.ntmps47
  go_wp2_with fail
  refine IC.out.mono ?_
  rintro e w2 ⟨⟨i, rfl, hi⟩, hb⟩
  have HI : Hid ((∀ x ∈ xs, 1 ≤ x.ver) → i = -1) := hi
  have HB : Hid (Below w.heap.size w w2) := hb
  clear hi hb IC
  go_wp2_with fail
  go_ret
  exact ⟨⟨_, rfl, fun hall => by rw [HI.out hall]; rfl⟩, HB.out⟩
set_option maxHeartbeats 4000000 in
set_option maxRecDepth 100000 in
theorem idxEv_calls (a : Option Addr) (c : Nat) (xs : List (List UInt8)) (w : World) (h : Ls evE (fun _ => True) w a xs) (hn : xs.length ≤ 9223372036854775807) :
    Calls Tryz.prog 101 #[.slice a xs.length c, .func (.func 79) #[] #[]] w fun e w' => (∃ i : Int, e = .returned (.int .i64 i) ∧ ((∀ x ∈ xs, 1 ≤ x.length) → i = -1)) ∧ Below w.heap.size w w' := by
  have HLS : Hid (Ls evE (fun _ => True) w a xs) := h
  have HN : Hid (xs.length ≤ 9223372036854775807) := hn
  clear h hn
  go_enter Tryz.func101, Tryz.ntmps101
  go_wp2_with fail
  go_loopw [5, 8] (fun _ i wr => ∃ j : Nat, j ≤ xs.length ∧ i = .int .i64 (j : Int) ∧ Hid (Below w.heap.size w wr)) (fun _ i _ => xs.length - (intOf i).toNat)
  case atStart => exact ⟨0, Nat.zero_le _, rfl, Below.refl _ _⟩
  case round =>
    obtain ⟨j, hj, rfl, HB⟩ := hrel
    by_cases hlt : j < xs.length
    · have hjl : (j : Int) < (xs.length : Int) := by omega
      obtain ⟨x, hx⟩ : ∃ y, xs[j]? = some y := ⟨_, List.getElem?_eq_getElem hlt⟩
      obtain ⟨B, o, vb, rfl, _, k0, hvb⟩ := (HLS.out.below HB.out).ev j x hx
      obtain ⟨pv, cv, rfl, _⟩ := hvb.shape
      have KC : Hid (Calls Tryz.prog 79 _ wr _) := emp_calls pv x.length cv wr
      clear hvb
      have HW : Hid (wrap64 ((j : Int) + 1) = ((j + 1 : Nat) : Int)) := wr1 hlt HN.out
      have HMEM : Hid (x ∈ xs) := List.mem_of_getElem? hx
      clear hx
      go_wp2_with fail
      refine KC.out.mono ?_
      rintro e w2 ⟨⟨q, rfl, hq⟩, hb2⟩
      have HB2 : Hid (Below w.heap.size w w2) := bel2 HB.out hb2
      have HQ : Hid ((1 ≤ x.length) → q = false) := hq
      clear hb2 hq KC
      cases q with
      | true =>
        go_wp2_with fail
        go_ret
        exact ⟨⟨_, rfl, fun hall => absurd (HQ.out (hall x HMEM.out)) (by decide)⟩, HB2.out⟩
      | false =>
        go_wp2_with fail
        exact ⟨⟨j + 1, hlt, by first | rfl | rw [HW.out], HB2⟩, meas hlt (by first | rfl | exact HW.out)⟩
    · obtain rfl : j = xs.length := by omega
      go_wp2_with fail
      go_ret
      exact ⟨⟨-1, rfl, fun _ => rfl⟩, HB.out⟩
set_option maxRecDepth 100000 in
theorem conEv_calls (a : Option Addr) (c : Nat) (xs : List (List UInt8)) (w : World) (h : Ls evE (fun _ => True) w a xs) (hn : xs.length ≤ 9223372036854775807) :
    Calls Tryz.prog 78 #[.slice a xs.length c, .func (.func 79) #[] #[]] w fun e w' => (∃ b, e = .returned (.bool b) ∧ ((∀ x ∈ xs, 1 ≤ x.length) → b = false)) ∧ Below w.heap.size w w' := by
  have IC : Hid (Calls Tryz.prog 101 _ w _) := idxEv_calls a c xs w h hn
  clear h hn
  go_enter Tryz.func78, Tryz.ntmps78
  go_wp2_with fail
  refine IC.out.mono ?_
  rintro e w2 ⟨⟨i, rfl, hi⟩, hb⟩
  have HI : Hid ((∀ x ∈ xs, 1 ≤ x.length) → i = -1) := hi
  have HB : Hid (Below w.heap.size w w2) := hb
  clear hi hb IC
  go_wp2_with fail
  go_ret
  exact ⟨⟨_, rfl, fun hall => by rw [HI.out hall]; rfl⟩, HB.out⟩
set_option maxRecDepth 100000 in
theorem hasE_calls (key : ByteArray) (p : Option Addr) (c : Nat) (xs : List (List UInt8)) (w : World) (h : Ls evE (fun _ => True) w p xs) (hn : xs.length ≤ 9223372036854775807) :
    Calls Tryz.prog 50 #[.agg #[.string key, .slice p xs.length c]] w fun e w' => (∃ q, e = .returned (.bool q) ∧ ((∀ e ∈ xs, 1 ≤ e.length) → q = false)) ∧ Below w.heap.size w w' := by
  have CC : Hid (Calls Tryz.prog 78 _ (w.alloc (.cells #[.string key, .slice p xs.length c] 39)) _) := conEv_calls p c xs _ (h.below (bel1 _ _)) hn
  have HA : Hid (Below w.heap.size w (w.alloc (.cells #[.string key, .slice p xs.length c] 39))) := bel1 _ _
  have n1 := cell_new w #[.string key, .slice p xs.length c] 39 1
  clear h hn
  go_enter Tryz.func50, Tryz.ntmps50
  go_wp2_with fail
  refine CC.out.mono ?_
  rintro e w2 ⟨⟨b, rfl, hb⟩, hb2⟩
  have HB : Hid (((∀ e ∈ xs, 1 ≤ e.length) → b = false) ∧ Below w.heap.size w w2) := ⟨hb, bel2 HA.out hb2⟩
  clear hb hb2 CC n1
  go_wp2_with fail
  go_ret
  exact ⟨⟨b, rfl, HB.out.1⟩, HB.out.2⟩
set_option maxHeartbeats 4000000 in
set_option maxRecDepth 100000 in
theorem idxBr_calls (a : Option Addr) (c : Nat) (xs : List Bn) (w : World) (h : Ls brE (fun _ => True) w a xs) (hn : xs.length ≤ 9223372036854775807) :
    Calls Tryz.prog 77 #[.slice a xs.length c, .func (.func 50) #[] #[]] w fun e w' => (∃ i : Int, e = .returned (.int .i64 i) ∧ ((∀ x ∈ xs, (∀ e ∈ x.ev, 1 ≤ e.length)) → i = -1)) ∧ Below w.heap.size w w' := by
  have HLS : Hid (Ls brE (fun _ => True) w a xs) := h
  have HN : Hid (xs.length ≤ 9223372036854775807) := hn
  clear h hn
  go_enter Tryz.func77, Tryz.ntmps77
  go_wp2_with fail
  go_loopw [5, 8] (fun _ i wr => ∃ j : Nat, j ≤ xs.length ∧ i = .int .i64 (j : Int) ∧ Hid (Below w.heap.size w wr)) (fun _ i _ => xs.length - (intOf i).toNat)
  case atStart => exact ⟨0, Nat.zero_le _, rfl, Below.refl _ _⟩
  case round =>
    obtain ⟨j, hj, rfl, HB⟩ := hrel
    by_cases hlt : j < xs.length
    · have hjl : (j : Int) < (xs.length : Int) := by omega
      obtain ⟨x, hx⟩ : ∃ y, xs[j]? = some y := ⟨_, List.getElem?_eq_getElem hlt⟩
      obtain ⟨B, o, vb, rfl, _, k0, k1, hvb⟩ := (HLS.out.below HB.out).br j x hx
      obtain ⟨pv, cv, rfl, hc1, hc2, hvl⟩ := hvb
      have KC : Hid (Calls Tryz.prog 50 _ wr _) := hasE_calls x.key pv cv x.ev wr hvl (Nat.le_trans hc1 hc2)
      clear hvl hc1 hc2
      have HW : Hid (wrap64 ((j : Int) + 1) = ((j + 1 : Nat) : Int)) := wr1 hlt HN.out
      have HMEM : Hid (x ∈ xs) := List.mem_of_getElem? hx
      clear hx
      go_wp2_with fail
      refine KC.out.mono ?_
      rintro e w2 ⟨⟨q, rfl, hq⟩, hb2⟩
      have HB2 : Hid (Below w.heap.size w w2) := bel2 HB.out hb2
      have HQ : Hid (((∀ e ∈ x.ev, 1 ≤ e.length)) → q = false) := hq
      clear hb2 hq KC
      cases q with
      | true =>
        go_wp2_with fail
        go_ret
        exact ⟨⟨_, rfl, fun hall => absurd (HQ.out (hall x HMEM.out)) (by decide)⟩, HB2.out⟩
      | false =>
        go_wp2_with fail
        exact ⟨⟨j + 1, hlt, by first | rfl | rw [HW.out], HB2⟩, meas hlt (by first | rfl | exact HW.out)⟩
    · obtain rfl : j = xs.length := by omega
      go_wp2_with fail
      go_ret
      exact ⟨⟨-1, rfl, fun _ => rfl⟩, HB.out⟩
set_option maxRecDepth 100000 in
theorem conBr_calls (a : Option Addr) (c : Nat) (xs : List Bn) (w : World) (h : Ls brE (fun _ => True) w a xs) (hn : xs.length ≤ 9223372036854775807) :
    Calls Tryz.prog 49 #[.slice a xs.length c, .func (.func 50) #[] #[]] w fun e w' => (∃ b, e = .returned (.bool b) ∧ ((∀ x ∈ xs, (∀ e ∈ x.ev, 1 ≤ e.length)) → b = false)) ∧ Below w.heap.size w w' := by
  have IC : Hid (Calls Tryz.prog 77 _ w _) := idxBr_calls a c xs w h hn
  clear h hn
  go_enter Tryz.func49, Tryz.ntmps49
  go_wp2_with fail
  refine IC.out.mono ?_
  rintro e w2 ⟨⟨i, rfl, hi⟩, hb⟩
  have HI : Hid ((∀ x ∈ xs, (∀ e ∈ x.ev, 1 ≤ e.length)) → i = -1) := hi
  have HB : Hid (Below w.heap.size w w2) := hb
  clear hi hb IC
  go_wp2_with fail
  go_ret
  exact ⟨⟨_, rfl, fun hall => by rw [HI.out hall]; rfl⟩, HB.out⟩
/-- Rows that may be. -/
structure CanD (r : Db) : Prop extends LimD r where
  kr : RiseK (r.rows.map fun x => x.key)
  kb : RiseK (r.brs.map fun x => x.key)
  ver : ∀ x ∈ r.rows, 1 ≤ x.ver
  ne : ∀ x ∈ r.brs, ∀ e ∈ x.ev, 1 ≤ e.length
set_option maxHeartbeats 4000000 in
set_option maxRecDepth 100000 in
theorem mayBe_calls (v : Value) (r : Db) (w : World) (hv : IsR (fun _ => True) w v r) : Calls Tryz.prog 19 #[v] w fun e w' => (∃ b, e = .returned (.bool b) ∧ (CanD r → b = true)) ∧ Below w.heap.size w w' := by
  obtain ⟨pu, cu, pb, cb, rfl, hu, hb⟩ := hv.shape
  obtain ⟨_, _, e1, x1, x2, hls1⟩ := hu
  cases e1
  obtain ⟨_, _, e2, y1, y2, hls2⟩ := hb
  cases e2
  have HU : Hid (Ls rowE (fun _ => True) w pu r.rows) := hls1
  have HV : Hid (Ls brE (fun _ => True) w pb r.brs) := hls2
  have HN : Hid (r.rows.length ≤ 9223372036854775807 ∧ r.brs.length ≤ 9223372036854775807) := ⟨Nat.le_trans x1 x2, Nat.le_trans y1 y2⟩
  have HA : Hid (Below w.heap.size w (w.alloc (.cells #[.slice pu r.rows.length cu, .slice pb r.brs.length cb] 25))) := bel1 _ _
  have O1 : (w.alloc (.cells #[.slice pu r.rows.length cu, .slice pb r.brs.length cb] 25)).heap[w.heap.size]? = some (.cells #[.slice pu r.rows.length cu, .slice pb r.brs.length cb] 25 (0, 0)) := heap_alloc_last _ _
  clear hls1 hls2 x1 x2 y1 y2 hv
  go_enter Tryz.func19, Tryz.ntmps19
  go_upto_region 1 with fail
  generalize w.alloc (.cells #[.slice pu r.rows.length cu, .slice pb r.brs.length cb] 25) = w1 at HA O1 ⊢
  have HO : Hid (w1.heap[w.heap.size]? = _) := O1
  have a0 := row_cell O1 (j := 0) rfl
  have a1 := row_cell O1 (j := 1) rfl
  have R1 : Hid (Calls Tryz.prog 45 _ w1 _) := riseRow_calls pu cu r.rows w1 (HU.out.below HA.out) HN.out.1
  clear O1
  go_wp2_with fail
  refine R1.out.mono ?_
  rintro e w2 ⟨⟨b1, rfl, h1⟩, hb2⟩
  have H1 : Hid (CanD r → b1 = true) := fun h => h1 h.kr
  have HB2 : Hid (Below w.heap.size w w2) := bel2 HA.out hb2
  have a0 := row_cell (row_below hb2 HO.out) (j := 0) rfl
  have a1 := row_cell (row_below hb2 HO.out) (j := 1) rfl
  have R2 : Hid (Calls Tryz.prog 46 _ w2 _) := riseBr_calls pb cb r.brs w2 (HV.out.below HB2.out) HN.out.2
  have HK2 : Hid (Below w1.heap.size w1 w2) := hb2
  clear h1 hb2 R1
  cases b1 with
  | false =>
    clear R2
    go_wp2_with fail
    go_ret
    exact ⟨⟨_, rfl, fun h => absurd (H1.out h) (by decide)⟩, HB2.out⟩
  | true =>
    go_wp2_with fail
    refine R2.out.mono ?_
    rintro e w3 ⟨⟨b2, rfl, h2⟩, hb3⟩
    have H2 : Hid (CanD r → b2 = true) := fun h => h2 h.kb
    have HB3 : Hid (Below w.heap.size w w3) := bel2 HB2.out hb3
    have HK3 : Hid (Below w1.heap.size w1 w3) := bel2 HK2.out hb3
    have a0 := row_cell (row_below HK3.out HO.out) (j := 0) rfl
    have a1 := row_cell (row_below HK3.out HO.out) (j := 1) rfl
    have R3 : Hid (Calls Tryz.prog 47 _ w3 _) := conRow_calls pu cu r.rows w3 (HU.out.below HB3.out) HN.out.1
    clear h2 hb3 R2
    cases b2 with
    | false =>
      clear R3
      go_wp2_with fail
      go_ret
      exact ⟨⟨_, rfl, fun h => absurd (H2.out h) (by decide)⟩, HB3.out⟩
    | true =>
      go_wp2_with fail
      refine R3.out.mono ?_
      rintro e w4 ⟨⟨b3, rfl, h3⟩, hb4⟩
      have H3 : Hid (CanD r → b3 = false) := fun h => h3 h.ver
      have HB4 : Hid (Below w.heap.size w w4) := bel2 HB3.out hb4
      have HK4 : Hid (Below w1.heap.size w1 w4) := bel2 HK3.out hb4
      have a0 := row_cell (row_below HK4.out HO.out) (j := 0) rfl
      have a1 := row_cell (row_below HK4.out HO.out) (j := 1) rfl
      have R4 : Hid (Calls Tryz.prog 49 _ w4 _) := conBr_calls pb cb r.brs w4 (HV.out.below HB4.out) HN.out.2
      clear h3 hb4 R3
      cases b3 with
      | true =>
        clear R4
        go_wp2_with fail
        go_ret
        exact ⟨⟨_, rfl, fun h => absurd (H3.out h) (by decide)⟩, HB4.out⟩
      | false =>
        go_wp2_with fail
        refine R4.out.mono ?_
        rintro e w5 ⟨⟨b4, rfl, h4⟩, hb5⟩
        have H4 : Hid (CanD r → b4 = false) := fun h => h4 h.ne
        have HB5 : Hid (Below w.heap.size w w5) := bel2 HB4.out hb5
        clear h4 hb5 R4
        go_wp2_with fail
        go_ret
        exact ⟨⟨_, rfl, fun h => by rw [H4.out h]; rfl⟩, HB5.out⟩
end Go.Proofs.YtkaaddahegkmgaaGreat
