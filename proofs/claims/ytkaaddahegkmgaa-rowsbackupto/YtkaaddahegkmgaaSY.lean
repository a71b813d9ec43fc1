/- The contracts of mayBe and of the reference's Can. -/
import Derived.Test.YtkaaddahegkmgaaSW
import Derived.Test.YtkaaddahegkmgaaRK
namespace Go.Proofs.Ytkaaddahegkmgaa
open Go.ChangeShapes Go.WideShapes Go.ChangeAt Go.RowKit
/-- A key that is above another. -/
def above (k last : ByteArray) : Bool := !Op.bytesLess k.toList last.toList && !(k.toList == last.toList)
theorem leq_of {k last : ByteArray} (h : above k last = true) : (Op.bytesLess k.toList last.toList || (k.toList == last.toList)) = false := by
  unfold above at h
  simp only [Bool.and_eq_true, Bool.not_eq_true'] at h
  rw [h.1, h.2]
  rfl
theorem leq_not {k last : ByteArray} (h : ¬ above k last = true) : (Op.bytesLess k.toList last.toList || (k.toList == last.toList)) = true := by
  unfold above at h
  cases h1 : Op.bytesLess k.toList last.toList
  · cases h2 : (k.toList == last.toList)
    · rw [h1, h2] at h
      exact absurd rfl h
    · rfl
  · rfl
/-- The key ahead of the one at j: the last one, or none. -/
def LastK (ks : List ByteArray) (j : Nat) (k : ByteArray) : Prop := (j = 0 ∧ k = ⟨#[]⟩) ∨ ∃ i, j = i + 1 ∧ ks[i]? = some k
/-- Keys that rise, each of one byte or more. -/
structure RiseK (ks : List ByteArray) : Prop where
  pos : ∀ k ∈ ks, 1 ≤ k.size
  up : ∀ i k k', ks[i]? = some k → ks[i + 1]? = some k' → above k' k = true
theorem less_nil (l : List UInt8) : Op.bytesLess l [] = false := by cases l <;> rfl
theorem above_nil {k : ByteArray} (h : 1 ≤ k.size) : above k ⟨#[]⟩ = true := by
  have e : (⟨#[]⟩ : ByteArray).toList = [] := by decide +kernel
  unfold above
  rw [e, less_nil]
  cases hk : k.toList with
  | nil => rw [tl_nil hk] at h; exact absurd h (by decide)
  | cons _ _ => rfl
theorem RiseK.above {ks : List ByteArray} {j : Nat} {k y : ByteArray} (h : RiseK ks) (hl : LastK ks j k) (hy : ks[j]? = some y) : above y k = true := by
  rcases hl with ⟨rfl, rfl⟩ | ⟨i, rfl, hk⟩
  · exact above_nil (h.pos y (List.mem_of_getElem? hy))
  · exact h.up i k y hk hy
set_option maxHeartbeats 4000000 in
set_option maxRecDepth 100000 in
theorem riseRow_calls (a : Option Addr) (c : Nat) (xs : List Rw) (w : World) (h : Ls rowE (fun _ => True) w a xs) (hn : xs.length ≤ 9223372036854775807) :
    Calls Try.prog 65 #[.slice a xs.length c] w fun e w' => (∃ b, e = .returned (.bool b) ∧ (RiseK (xs.map fun x => x.key) → b = true)) ∧ Below w.heap.size w w' := by
  have HLS : Hid (Ls rowE (fun _ => True) w a xs) := h
  have HN : Hid (xs.length ≤ 9223372036854775807) := hn
  clear h hn
  go_enter Try.func65, Try.ntmps65
  go_wp2_with fail
  go_loopw [3, 4, 5, 8] (fun last _ _ i wr => ∃ (j : Nat) (k : ByteArray), j ≤ xs.length ∧ i = .int .i64 (j : Int) ∧ last = .string k ∧ Hid (LastK (xs.map fun x => x.key) j k) ∧ wr = w) (fun _ _ _ i _ => xs.length - (intOf i).toNat)
  case atStart => exact ⟨0, _, Nat.zero_le _, rfl, rfl, .inl ⟨rfl, rfl⟩, rfl⟩
  case round =>
    obtain ⟨j, k, hj, rfl, rfl, HK, rfl⟩ := hrel
    by_cases hlt : j < xs.length
    · have hjl : (j : Int) < (xs.length : Int) := by omega
      obtain ⟨y, hy⟩ : ∃ y, xs[j]? = some y := ⟨_, List.getElem?_eq_getElem hlt⟩
      have HY : Hid ((xs.map fun x => x.key)[j]? = some y.key) := by show _ = _; rw [List.getElem?_map, hy]; rfl
      obtain ⟨B, o, vb, rfl, _, k0, _⟩ := HLS.out.row j y hy
      have HW : Hid (wrap64 ((j : Int) + 1) = ((j + 1 : Nat) : Int)) := wr1 hlt HN.out
      have KC : Hid (Calls Try.prog 90 #[.pointer (some ⟨B, o + j * 3, none⟩)] wr fun e w' => e = .returned (.string y.key) ∧ w' = wr) := keyRow_calls wr B (o + j * 3) y.key k0
      clear hy k0
      go_wp2_with fail
      refine KC.out.mono ?_
      rintro e w2 ⟨rfl, rfl⟩
      by_cases hab : above y.key k = true
      · have hle := leq_of hab
        have HL2 : Hid (LastK (xs.map fun x => x.key) (j + 1) y.key) := .inr ⟨j, rfl, HY.out⟩
        clear hab KC
        go_wp2_with (simp only)
        exact ⟨⟨j + 1, _, hlt, by first | rfl | rw [HW.out], rfl, HL2, by first | trivial | rfl⟩, meas hlt (by first | rfl | exact HW.out)⟩
      · have hle := leq_not hab
        have HNO : Hid (¬ RiseK (xs.map fun x => x.key)) := fun hr => hab (hr.above HK.out HY.out)
        clear hab KC
        go_wp2_with (simp only)
        go_ret
        exact ⟨⟨false, rfl, fun hr => absurd hr HNO.out⟩, Below.refl _ _⟩
    · obtain rfl : j = xs.length := by omega
      go_wp2_with fail
      go_ret
      exact ⟨⟨true, rfl, fun _ => rfl⟩, Below.refl _ _⟩
set_option maxHeartbeats 4000000 in
set_option maxRecDepth 100000 in
theorem riseBr_calls (a : Option Addr) (c : Nat) (xs : List Bn) (w : World) (h : Ls brE (fun _ => True) w a xs) (hn : xs.length ≤ 9223372036854775807) :
    Calls Try.prog 66 #[.slice a xs.length c] w fun e w' => (∃ b, e = .returned (.bool b) ∧ (RiseK (xs.map fun x => x.key) → b = true)) ∧ Below w.heap.size w w' := by
  have HLS : Hid (Ls brE (fun _ => True) w a xs) := h
  have HN : Hid (xs.length ≤ 9223372036854775807) := hn
  clear h hn
  go_enter Try.func66, Try.ntmps66
  go_wp2_with fail
  go_loopw [3, 4, 5, 8] (fun last _ _ i wr => ∃ (j : Nat) (k : ByteArray), j ≤ xs.length ∧ i = .int .i64 (j : Int) ∧ last = .string k ∧ Hid (LastK (xs.map fun x => x.key) j k) ∧ wr = w) (fun _ _ _ i _ => xs.length - (intOf i).toNat)
  case atStart => exact ⟨0, _, Nat.zero_le _, rfl, rfl, .inl ⟨rfl, rfl⟩, rfl⟩
  case round =>
    obtain ⟨j, k, hj, rfl, rfl, HK, rfl⟩ := hrel
    by_cases hlt : j < xs.length
    · have hjl : (j : Int) < (xs.length : Int) := by omega
      obtain ⟨y, hy⟩ : ∃ y, xs[j]? = some y := ⟨_, List.getElem?_eq_getElem hlt⟩
      have HY : Hid ((xs.map fun x => x.key)[j]? = some y.key) := by show _ = _; rw [List.getElem?_map, hy]; rfl
      obtain ⟨B, o, vb, rfl, _, k0, _⟩ := HLS.out.br j y hy
      have HW : Hid (wrap64 ((j : Int) + 1) = ((j + 1 : Nat) : Int)) := wr1 hlt HN.out
      have KC : Hid (Calls Try.prog 86 #[.pointer (some ⟨B, o + j * 2, none⟩)] wr fun e w' => e = .returned (.string y.key) ∧ w' = wr) := keyBr_calls wr B (o + j * 2) y.key k0
      clear hy k0
      go_wp2_with fail
      refine KC.out.mono ?_
      rintro e w2 ⟨rfl, rfl⟩
      by_cases hab : above y.key k = true
      · have hle := leq_of hab
        have HL2 : Hid (LastK (xs.map fun x => x.key) (j + 1) y.key) := .inr ⟨j, rfl, HY.out⟩
        clear hab KC
        go_wp2_with (simp only)
        exact ⟨⟨j + 1, _, hlt, by first | rfl | rw [HW.out], rfl, HL2, by first | trivial | rfl⟩, meas hlt (by first | rfl | exact HW.out)⟩
      · have hle := leq_not hab
        have HNO : Hid (¬ RiseK (xs.map fun x => x.key)) := fun hr => hab (hr.above HK.out HY.out)
        clear hab KC
        go_wp2_with (simp only)
        go_ret
        exact ⟨⟨false, rfl, fun hr => absurd hr HNO.out⟩, Below.refl _ _⟩
    · obtain rfl : j = xs.length := by omega
      go_wp2_with fail
      go_ret
      exact ⟨⟨true, rfl, fun _ => rfl⟩, Below.refl _ _⟩
set_option maxRecDepth 100000 in
theorem unw_calls (key : ByteArray) (ver : Int) (p : Option Addr) (n c : Nat) (w : World) : Calls Try.prog 68 #[.agg #[.string key, .int .i64 ver, .slice p n c]] w fun e w' => (∃ q, e = .returned (.bool q) ∧ (1 ≤ ver → q = false)) ∧ Below w.heap.size w w' := by
  go_enter Try.func68, Try.ntmps68
  go_wp2_with fail
  go_ret
  refine ⟨⟨_, rfl, fun h => ?_⟩, bel1 _ _⟩
  exact decide_eq_false (by omega)
set_option maxRecDepth 100000 in
theorem emp_calls (p : Option Addr) (n c : Nat) (w : World) : Calls Try.prog 98 #[.slice p n c] w fun e w' => (∃ q, e = .returned (.bool q) ∧ (1 ≤ n → q = false)) ∧ Below w.heap.size w w' := by
  by_cases h : n = 0
  · subst h
    go_enter Try.func98, Try.ntmps98
    go_wp2_with fail
    go_ret
    exact ⟨⟨_, rfl, fun h => absurd h (by decide)⟩, Below.refl _ _⟩
  · have h1 : ((n : Int) == 0) = false := by simpa using h
    go_enter Try.func98, Try.ntmps98
    go_wp2_with fail
    go_ret
    exact ⟨⟨false, rfl, fun _ => rfl⟩, Below.refl _ _⟩
set_option maxHeartbeats 4000000 in
set_option maxRecDepth 100000 in
theorem idxRow_calls (a : Option Addr) (c : Nat) (xs : List Rw) (w : World) (h : Ls rowE (fun _ => True) w a xs) (hn : xs.length ≤ 9223372036854775807) :
    Calls Try.prog 91 #[.slice a xs.length c, .func (.func 68) #[] #[]] w fun e w' => (∃ i : Int, e = .returned (.int .i64 i) ∧ ((∀ x ∈ xs, 1 ≤ x.ver) → i = -1)) ∧ Below w.heap.size w w' := by
  have HLS : Hid (Ls rowE (fun _ => True) w a xs) := h
  have HN : Hid (xs.length ≤ 9223372036854775807) := hn
  clear h hn
  go_enter Try.func91, Try.ntmps91
  go_wp2_with fail
  go_loopw [5, 8] (fun _ i wr => ∃ j : Nat, j ≤ xs.length ∧ i = .int .i64 (j : Int) ∧ Hid (Below w.heap.size w wr)) (fun _ i _ => xs.length - (intOf i).toNat)
  case atStart => exact ⟨0, Nat.zero_le _, rfl, Below.refl _ _⟩
  case round =>
    obtain ⟨j, hj, rfl, HB⟩ := hrel
    by_cases hlt : j < xs.length
    · have hjl : (j : Int) < (xs.length : Int) := by omega
      obtain ⟨x, hx⟩ : ∃ y, xs[j]? = some y := ⟨_, List.getElem?_eq_getElem hlt⟩
      obtain ⟨B, o, vb, rfl, _, k0, k1, k2, hvb⟩ := (HLS.out.below HB.out).row j x hx
      obtain ⟨pv, cv, rfl, _⟩ := hvb.shape
      have KC : Hid (Calls Try.prog 68 _ wr _) := unw_calls x.key x.ver pv x.row.length cv wr
      clear hvb
      have HW : Hid (wrap64 ((j : Int) + 1) = ((j + 1 : Nat) : Int)) := wr1 hlt HN.out
      have HMEM : Hid (x ∈ xs) := List.mem_of_getElem? hx
      clear hx
      go_wp2_with fail
      refine KC.out.mono ?_
      rintro e w2 ⟨⟨q, rfl, hq⟩, hb2⟩
      have HB2 : Hid (Below w.heap.size w w2) := bel2 HB.out hb2
      have HQ : Hid ((1 ≤ x.ver) → q = false) := hq
      clear hb2 hq KC
      cases q with
      | true =>
        go_wp2_with fail
        go_ret
        exact ⟨⟨_, rfl, fun hall => absurd (HQ.out (hall x HMEM.out)) (by decide)⟩, HB2.out⟩
      | false =>
        go_wp2_with fail
        exact ⟨⟨j + 1, hlt, by first | rfl | rw [HW.out], HB2⟩, meas hlt (by first | rfl | exact HW.out)⟩
    · obtain rfl : j = xs.length := by omega
      go_wp2_with fail
      go_ret
      exact ⟨⟨-1, rfl, fun _ => rfl⟩, HB.out⟩
set_option maxRecDepth 100000 in
theorem conRow_calls (a : Option Addr) (c : Nat) (xs : List Rw) (w : World) (h : Ls rowE (fun _ => True) w a xs) (hn : xs.length ≤ 9223372036854775807) :
    Calls Try.prog 67 #[.slice a xs.length c, .func (.func 68) #[] #[]] w fun e w' => (∃ b, e = .returned (.bool b) ∧ ((∀ x ∈ xs, 1 ≤ x.ver) → b = false)) ∧ Below w.heap.size w w' := by
  have IC : Hid (Calls Try.prog 91 _ w _) := idxRow_calls a c xs w h hn
  clear h hn
  go_enter Try.func67, Try.ntmps67
  go_wp2_with fail
  refine IC.out.mono ?_
  rintro e w2 ⟨⟨i, rfl, hi⟩, hb⟩
  have HI : Hid ((∀ x ∈ xs, 1 ≤ x.ver) → i = -1) := hi
  have HB : Hid (Below w.heap.size w w2) := hb
  clear hi hb IC
  go_wp2_with fail
  go_ret
  exact ⟨⟨_, rfl, fun hall => by rw [HI.out hall]; rfl⟩, HB.out⟩
set_option maxHeartbeats 4000000 in
set_option maxRecDepth 100000 in
theorem idxEv_calls (a : Option Addr) (c : Nat) (xs : List (List UInt8)) (w : World) (h : Ls evE (fun _ => True) w a xs) (hn : xs.length ≤ 9223372036854775807) :
    Calls Try.prog 111 #[.slice a xs.length c, .func (.func 98) #[] #[]] w fun e w' => (∃ i : Int, e = .returned (.int .i64 i) ∧ ((∀ x ∈ xs, 1 ≤ x.length) → i = -1)) ∧ Below w.heap.size w w' := by
  have HLS : Hid (Ls evE (fun _ => True) w a xs) := h
  have HN : Hid (xs.length ≤ 9223372036854775807) := hn
  clear h hn
  go_enter Try.func111, Try.ntmps111
  go_wp2_with fail
  go_loopw [5, 8] (fun _ i wr => ∃ j : Nat, j ≤ xs.length ∧ i = .int .i64 (j : Int) ∧ Hid (Below w.heap.size w wr)) (fun _ i _ => xs.length - (intOf i).toNat)
  case atStart => exact ⟨0, Nat.zero_le _, rfl, Below.refl _ _⟩
  case round =>
    obtain ⟨j, hj, rfl, HB⟩ := hrel
    by_cases hlt : j < xs.length
    · have hjl : (j : Int) < (xs.length : Int) := by omega
      obtain ⟨x, hx⟩ : ∃ y, xs[j]? = some y := ⟨_, List.getElem?_eq_getElem hlt⟩
      obtain ⟨B, o, vb, rfl, _, k0, hvb⟩ := (HLS.out.below HB.out).ev j x hx
      obtain ⟨pv, cv, rfl, _⟩ := hvb.shape
      have KC : Hid (Calls Try.prog 98 _ wr _) := emp_calls pv x.length cv wr
      clear hvb
      have HW : Hid (wrap64 ((j : Int) + 1) = ((j + 1 : Nat) : Int)) := wr1 hlt HN.out
      have HMEM : Hid (x ∈ xs) := List.mem_of_getElem? hx
      clear hx
      go_wp2_with fail
      refine KC.out.mono ?_
      rintro e w2 ⟨⟨q, rfl, hq⟩, hb2⟩
      have HB2 : Hid (Below w.heap.size w w2) := bel2 HB.out hb2
      have HQ : Hid ((1 ≤ x.length) → q = false) := hq
      clear hb2 hq KC
      cases q with
      | true =>
        go_wp2_with fail
        go_ret
        exact ⟨⟨_, rfl, fun hall => absurd (HQ.out (hall x HMEM.out)) (by decide)⟩, HB2.out⟩
      | false =>
        go_wp2_with fail
        exact ⟨⟨j + 1, hlt, by first | rfl | rw [HW.out], HB2⟩, meas hlt (by first | rfl | exact HW.out)⟩
    · obtain rfl : j = xs.length := by omega
      go_wp2_with fail
      go_ret
      exact ⟨⟨-1, rfl, fun _ => rfl⟩, HB.out⟩
set_option maxRecDepth 100000 in
theorem conEv_calls (a : Option Addr) (c : Nat) (xs : List (List UInt8)) (w : World) (h : Ls evE (fun _ => True) w a xs) (hn : xs.length ≤ 9223372036854775807) :
    Calls Try.prog 97 #[.slice a xs.length c, .func (.func 98) #[] #[]] w fun e w' => (∃ b, e = .returned (.bool b) ∧ ((∀ x ∈ xs, 1 ≤ x.length) → b = false)) ∧ Below w.heap.size w w' := by
  have IC : Hid (Calls Try.prog 111 _ w _) := idxEv_calls a c xs w h hn
  clear h hn
  go_enter Try.func97, Try.ntmps97
  go_wp2_with fail
  refine IC.out.mono ?_
  rintro e w2 ⟨⟨i, rfl, hi⟩, hb⟩
  have HI : Hid ((∀ x ∈ xs, 1 ≤ x.length) → i = -1) := hi
  have HB : Hid (Below w.heap.size w w2) := hb
  clear hi hb IC
  go_wp2_with fail
  go_ret
  exact ⟨⟨_, rfl, fun hall => by rw [HI.out hall]; rfl⟩, HB.out⟩
set_option maxRecDepth 100000 in
theorem hasE_calls (key : ByteArray) (p : Option Addr) (c : Nat) (xs : List (List UInt8)) (w : World) (h : Ls evE (fun _ => True) w p xs) (hn : xs.length ≤ 9223372036854775807) :
    Calls Try.prog 70 #[.agg #[.string key, .slice p xs.length c]] w fun e w' => (∃ q, e = .returned (.bool q) ∧ ((∀ e ∈ xs, 1 ≤ e.length) → q = false)) ∧ Below w.heap.size w w' := by
  have CC : Hid (Calls Try.prog 97 _ (w.alloc (.cells #[.string key, .slice p xs.length c] 56)) _) := conEv_calls p c xs _ (h.below (bel1 _ _)) hn
  have HA : Hid (Below w.heap.size w (w.alloc (.cells #[.string key, .slice p xs.length c] 56))) := bel1 _ _
  have n1 := cell_new w #[.string key, .slice p xs.length c] 56 1
  clear h hn
  go_enter Try.func70, Try.ntmps70
  go_wp2_with fail
  refine CC.out.mono ?_
  rintro e w2 ⟨⟨b, rfl, hb⟩, hb2⟩
  have HB : Hid (((∀ e ∈ xs, 1 ≤ e.length) → b = false) ∧ Below w.heap.size w w2) := ⟨hb, bel2 HA.out hb2⟩
  clear hb hb2 CC n1
  go_wp2_with fail
  go_ret
  exact ⟨⟨b, rfl, HB.out.1⟩, HB.out.2⟩
set_option maxHeartbeats 4000000 in
set_option maxRecDepth 100000 in
theorem idxBr_calls (a : Option Addr) (c : Nat) (xs : List Bn) (w : World) (h : Ls brE (fun _ => True) w a xs) (hn : xs.length ≤ 9223372036854775807) :
    Calls Try.prog 87 #[.slice a xs.length c, .func (.func 70) #[] #[]] w fun e w' => (∃ i : Int, e = .returned (.int .i64 i) ∧ ((∀ x ∈ xs, (∀ e ∈ x.ev, 1 ≤ e.length)) → i = -1)) ∧ Below w.heap.size w w' := by
  have HLS : Hid (Ls brE (fun _ => True) w a xs) := h
  have HN : Hid (xs.length ≤ 9223372036854775807) := hn
  clear h hn
  go_enter Try.func87, Try.ntmps87
  go_wp2_with fail
  go_loopw [5, 8] (fun _ i wr => ∃ j : Nat, j ≤ xs.length ∧ i = .int .i64 (j : Int) ∧ Hid (Below w.heap.size w wr)) (fun _ i _ => xs.length - (intOf i).toNat)
  case atStart => exact ⟨0, Nat.zero_le _, rfl, Below.refl _ _⟩
  case round =>
    obtain ⟨j, hj, rfl, HB⟩ := hrel
    by_cases hlt : j < xs.length
    · have hjl : (j : Int) < (xs.length : Int) := by omega
      obtain ⟨x, hx⟩ : ∃ y, xs[j]? = some y := ⟨_, List.getElem?_eq_getElem hlt⟩
      obtain ⟨B, o, vb, rfl, _, k0, k1, hvb⟩ := (HLS.out.below HB.out).br j x hx
      obtain ⟨pv, cv, rfl, hc1, hc2, hvl⟩ := hvb
      have KC : Hid (Calls Try.prog 70 _ wr _) := hasE_calls x.key pv cv x.ev wr hvl (Nat.le_trans hc1 hc2)
      clear hvl hc1 hc2
      have HW : Hid (wrap64 ((j : Int) + 1) = ((j + 1 : Nat) : Int)) := wr1 hlt HN.out
      have HMEM : Hid (x ∈ xs) := List.mem_of_getElem? hx
      clear hx
      go_wp2_with fail
      refine KC.out.mono ?_
      rintro e w2 ⟨⟨q, rfl, hq⟩, hb2⟩
      have HB2 : Hid (Below w.heap.size w w2) := bel2 HB.out hb2
      have HQ : Hid (((∀ e ∈ x.ev, 1 ≤ e.length)) → q = false) := hq
      clear hb2 hq KC
      cases q with
      | true =>
        go_wp2_with fail
        go_ret
        exact ⟨⟨_, rfl, fun hall => absurd (HQ.out (hall x HMEM.out)) (by decide)⟩, HB2.out⟩
      | false =>
        go_wp2_with fail
        exact ⟨⟨j + 1, hlt, by first | rfl | rw [HW.out], HB2⟩, meas hlt (by first | rfl | exact HW.out)⟩
    · obtain rfl : j = xs.length := by omega
      go_wp2_with fail
      go_ret
      exact ⟨⟨-1, rfl, fun _ => rfl⟩, HB.out⟩
set_option maxRecDepth 100000 in
theorem conBr_calls (a : Option Addr) (c : Nat) (xs : List Bn) (w : World) (h : Ls brE (fun _ => True) w a xs) (hn : xs.length ≤ 9223372036854775807) :
    Calls Try.prog 69 #[.slice a xs.length c, .func (.func 70) #[] #[]] w fun e w' => (∃ b, e = .returned (.bool b) ∧ ((∀ x ∈ xs, (∀ e ∈ x.ev, 1 ≤ e.length)) → b = false)) ∧ Below w.heap.size w w' := by
  have IC : Hid (Calls Try.prog 87 _ w _) := idxBr_calls a c xs w h hn
  clear h hn
  go_enter Try.func69, Try.ntmps69
  go_wp2_with fail
  refine IC.out.mono ?_
  rintro e w2 ⟨⟨i, rfl, hi⟩, hb⟩
  have HI : Hid ((∀ x ∈ xs, (∀ e ∈ x.ev, 1 ≤ e.length)) → i = -1) := hi
  have HB : Hid (Below w.heap.size w w2) := hb
  clear hi hb IC
  go_wp2_with fail
  go_ret
  exact ⟨⟨_, rfl, fun hall => by rw [HI.out hall]; rfl⟩, HB.out⟩
/-- Rows that may be. -/
structure CanD (r : Db) : Prop extends LimD r where
  kr : RiseK (r.rows.map fun x => x.key)
  kb : RiseK (r.brs.map fun x => x.key)
  ver : ∀ x ∈ r.rows, 1 ≤ x.ver
  ne : ∀ x ∈ r.brs, ∀ e ∈ x.ev, 1 ≤ e.length
set_option maxHeartbeats 4000000 in
set_option maxRecDepth 100000 in
theorem mayBe_calls (v : Value) (r : Db) (w : World) (hv : IsR (fun _ => True) w v r) : Calls Try.prog 43 #[v] w fun e w' => (∃ b, e = .returned (.bool b) ∧ (CanD r → b = true)) ∧ Below w.heap.size w w' := by
  obtain ⟨pu, cu, pb, cb, rfl, hu, hb⟩ := hv.shape
  obtain ⟨_, _, e1, x1, x2, hls1⟩ := hu
  cases e1
  obtain ⟨_, _, e2, y1, y2, hls2⟩ := hb
  cases e2
  have HU : Hid (Ls rowE (fun _ => True) w pu r.rows) := hls1
  have HV : Hid (Ls brE (fun _ => True) w pb r.brs) := hls2
  have HN : Hid (r.rows.length ≤ 9223372036854775807 ∧ r.brs.length ≤ 9223372036854775807) := ⟨Nat.le_trans x1 x2, Nat.le_trans y1 y2⟩
  have HA : Hid (Below w.heap.size w (w.alloc (.cells #[.slice pu r.rows.length cu, .slice pb r.brs.length cb] 25))) := bel1 _ _
  have O1 : (w.alloc (.cells #[.slice pu r.rows.length cu, .slice pb r.brs.length cb] 25)).heap[w.heap.size]? = some (.cells #[.slice pu r.rows.length cu, .slice pb r.brs.length cb] 25 (0, 0)) := heap_alloc_last _ _
  clear hls1 hls2 x1 x2 y1 y2 hv
  go_enter Try.func43, Try.ntmps43
  go_upto_region 1 with fail
  generalize w.alloc (.cells #[.slice pu r.rows.length cu, .slice pb r.brs.length cb] 25) = w1 at HA O1 ⊢
  have HO : Hid (w1.heap[w.heap.size]? = _) := O1
  have a0 := row_cell O1 (j := 0) rfl
  have a1 := row_cell O1 (j := 1) rfl
  have R1 : Hid (Calls Try.prog 65 _ w1 _) := riseRow_calls pu cu r.rows w1 (HU.out.below HA.out) HN.out.1
  clear O1
  go_wp2_with fail
  refine R1.out.mono ?_
  rintro e w2 ⟨⟨b1, rfl, h1⟩, hb2⟩
  have H1 : Hid (CanD r → b1 = true) := fun h => h1 h.kr
  have HB2 : Hid (Below w.heap.size w w2) := bel2 HA.out hb2
  have a0 := row_cell (row_below hb2 HO.out) (j := 0) rfl
  have a1 := row_cell (row_below hb2 HO.out) (j := 1) rfl
  have R2 : Hid (Calls Try.prog 66 _ w2 _) := riseBr_calls pb cb r.brs w2 (HV.out.below HB2.out) HN.out.2
  have HK2 : Hid (Below w1.heap.size w1 w2) := hb2
  clear h1 hb2 R1
  cases b1 with
  | false =>
    clear R2
    go_wp2_with fail
    go_ret
    exact ⟨⟨_, rfl, fun h => absurd (H1.out h) (by decide)⟩, HB2.out⟩
  | true =>
    go_wp2_with fail
    refine R2.out.mono ?_
    rintro e w3 ⟨⟨b2, rfl, h2⟩, hb3⟩
    have H2 : Hid (CanD r → b2 = true) := fun h => h2 h.kb
    have HB3 : Hid (Below w.heap.size w w3) := bel2 HB2.out hb3
    have HK3 : Hid (Below w1.heap.size w1 w3) := bel2 HK2.out hb3
    have a0 := row_cell (row_below HK3.out HO.out) (j := 0) rfl
    have a1 := row_cell (row_below HK3.out HO.out) (j := 1) rfl
    have R3 : Hid (Calls Try.prog 67 _ w3 _) := conRow_calls pu cu r.rows w3 (HU.out.below HB3.out) HN.out.1
    clear h2 hb3 R2
    cases b2 with
    | false =>
      clear R3
      go_wp2_with fail
      go_ret
      exact ⟨⟨_, rfl, fun h => absurd (H2.out h) (by decide)⟩, HB3.out⟩
    | true =>
      go_wp2_with fail
      refine R3.out.mono ?_
      rintro e w4 ⟨⟨b3, rfl, h3⟩, hb4⟩
      have H3 : Hid (CanD r → b3 = false) := fun h => h3 h.ver
      have HB4 : Hid (Below w.heap.size w w4) := bel2 HB3.out hb4
      have HK4 : Hid (Below w1.heap.size w1 w4) := bel2 HK3.out hb4
      have a0 := row_cell (row_below HK4.out HO.out) (j := 0) rfl
      have a1 := row_cell (row_below HK4.out HO.out) (j := 1) rfl
      have R4 : Hid (Calls Try.prog 69 _ w4 _) := conBr_calls pb cb r.brs w4 (HV.out.below HB4.out) HN.out.2
      clear h3 hb4 R3
      cases b3 with
      | true =>
        clear R4
        go_wp2_with fail
        go_ret
        exact ⟨⟨_, rfl, fun h => absurd (H3.out h) (by decide)⟩, HB4.out⟩
      | false =>
        go_wp2_with fail
        refine R4.out.mono ?_
        rintro e w5 ⟨⟨b4, rfl, h4⟩, hb5⟩
        have H4 : Hid (CanD r → b4 = false) := fun h => h4 h.ne
        have HB5 : Hid (Below w.heap.size w w5) := bel2 HB4.out hb5
        clear h4 hb5 R4
        go_wp2_with fail
        go_ret
        exact ⟨⟨_, rfl, fun h => by rw [H4.out h]; rfl⟩, HB5.out⟩
end Go.Proofs.Ytkaaddahegkmgaa
namespace Go.Proofs.Ytkaaddahegkmgaa
open Go.ChangeShapes Go.WideShapes Go.ChangeAt Go.RowKit
/-- Whether a key may stand behind another. -/
def kOk (k last : ByteArray) (f : Bool) : Bool := (decide (1 ≤ k.size) && decide (k.size ≤ 64)) && (f || above k last)
theorem kOk_of {k last : ByteArray} {f : Bool} (h : kOk k last f = true) : 1 ≤ k.size ∧ k.size ≤ 64 ∧ (f = false → above k last = true) := by
  unfold kOk at h
  simp only [Bool.and_eq_true, decide_eq_true_eq, Bool.or_eq_true] at h
  refine ⟨h.1.1, h.1.2, fun hf => ?_⟩
  rcases h.2 with h2 | h2
  · rw [hf] at h2; cases h2
  · exact h2
set_option maxRecDepth 100000 in
theorem key_calls (k last : ByteArray) (f : Bool) (w : World) : Calls Try.prog 38 #[.string k, .string last, .bool f] w fun e w' => e = .returned (.bool (kOk k last f)) ∧ w' = w := by
  have hab : (!Op.bytesLess k.toList last.toList && !(k.toList == last.toList)) = above k last := rfl
  by_cases h1 : 1 ≤ k.size
  · have h1' : (1 : Int) ≤ (k.size : Int) := by omega
    by_cases h2 : k.size ≤ 64
    · have h2' : (k.size : Int) ≤ 64 := by omega
      have e1 : kOk k last true = true := by unfold kOk; rw [decide_eq_true h1, decide_eq_true h2]; rfl
      have e2 : kOk k last false = above k last := by unfold kOk; rw [decide_eq_true h1, decide_eq_true h2]; rfl
      cases f with
      | true =>
        rw [e1]
        go_enter Try.func38, Try.ntmps38
        go_wp2_with fail
        go_ret
        exact ⟨rfl, rfl⟩
      | false =>
        rw [e2]
        go_enter Try.func38, Try.ntmps38
        go_wp2_with fail
        go_ret
        exact ⟨rfl, rfl⟩
    · have h2' : ¬ (k.size : Int) ≤ 64 := by omega
      have e1 : kOk k last f = false := by unfold kOk; rw [decide_eq_true h1, decide_eq_false h2]; rfl
      rw [e1]
      go_enter Try.func38, Try.ntmps38
      go_wp2_with fail
      go_ret
      exact ⟨rfl, rfl⟩
  · have h1' : ¬ (1 : Int) ≤ (k.size : Int) := by omega
    have e1 : kOk k last f = false := by unfold kOk; rw [decide_eq_false h1]; rfl
    rw [e1]
    go_enter Try.func38, Try.ntmps38
    go_wp2_with fail
    go_ret
    exact ⟨rfl, rfl⟩
/-- The first j keys are such, and the last of them is k (of none: whatever). -/
structure UpTo (ks : List ByteArray) (j : Nat) (k : ByteArray) : Prop where
  pos : ∀ i x, i < j → ks[i]? = some x → 1 ≤ x.size
  up : ∀ i x y, i + 1 < j → ks[i]? = some x → ks[i + 1]? = some y → above y x = true
  last : ∀ i, j = i + 1 → ks[i]? = some k
theorem UpTo.zero (ks : List ByteArray) (k : ByteArray) : UpTo ks 0 k := ⟨fun _ _ h => absurd h (Nat.not_lt_zero _), fun _ _ _ h => absurd h (Nat.not_lt_zero _), fun _ h => by omega⟩
theorem UpTo.more {ks : List ByteArray} {j : Nat} {k y : ByteArray} (h : UpTo ks j k) (hy : ks[j]? = some y) (hk : kOk y k ((j : Int) == 0) = true) : UpTo ks (j + 1) y := by
  obtain ⟨h1, _, h3⟩ := kOk_of hk
  refine ⟨fun i x hi hx => ?_, fun i x z hi hx hz => ?_, fun i e => ?_⟩
  · by_cases he : i = j
    · subst he
      rw [hy] at hx
      cases hx
      exact h1
    · exact h.pos i x (by omega) hx
  · by_cases he : i + 1 = j
    · subst he
      rw [hy] at hz
      cases hz
      have hl := h.last i rfl
      rw [hl] at hx
      cases hx
      exact h3 (by simp; omega)
    · exact h.up i x z (by omega) hx hz
  · obtain rfl : i = j := by omega
    exact hy
theorem UpTo.rise {ks : List ByteArray} {k : ByteArray} (h : UpTo ks ks.length k) : RiseK ks := by
  refine ⟨fun x hx => ?_, fun i x y hx hy => h.up i x y (List.getElem?_eq_some_iff.1 hy).1 hx hy⟩
  obtain ⟨i, hi⟩ := List.getElem?_of_mem hx
  exact h.pos i x (List.getElem?_eq_some_iff.1 hi).1 hi
/-- What Can answers. -/
def CaP (r : Db) (w : World) (e : Ending) (w' : World) : Prop := (∃ b, e = .returned (.bool b) ∧ (b = true → CanD r)) ∧ Below w.heap.size w w'
theorem cap_no {r : Db} {w w' : World} (hb : Below w.heap.size w w') : CaP r w (.returned (.bool false)) w' := ⟨⟨false, rfl, fun h => (by cases h)⟩, hb⟩
set_option maxHeartbeats 16000000 in
set_option maxRecDepth 100000 in
theorem can_calls (v : Value) (r : Db) (w : World) (hv : IsR (fun _ => True) w v r) : Calls Try.prog 20 #[v] w (CaP r w) := by
  obtain ⟨pu, cu, pb, cb, rfl, hu, hb⟩ := hv.shape
  obtain ⟨_, _, e1, x1, x2, hls1⟩ := hu
  cases e1
  obtain ⟨_, _, e2, y1, y2, hls2⟩ := hb
  cases e2
  have HU : Hid (Ls rowE (fun _ => True) w pu r.rows) := hls1
  have HV : Hid (Ls brE (fun _ => True) w pb r.brs) := hls2
  obtain ⟨R, hR⟩ : ∃ R, R = r.rows.length := ⟨_, rfl⟩
  obtain ⟨K, hK⟩ : ∃ K, K = r.brs.length := ⟨_, rfl⟩
  have HRK : Hid (R = r.rows.length ∧ K = r.brs.length ∧ R ≤ 9223372036854775807 ∧ K ≤ 9223372036854775807) := ⟨hR, hK, by omega, by omega⟩
  rw [← hR, ← hK]
  have HA : Hid (Below w.heap.size w (w.alloc (.cells #[.slice pu R cu, .slice pb K cb] 25))) := bel1 _ _
  have O1 : (w.alloc (.cells #[.slice pu R cu, .slice pb K cb] 25)).heap[w.heap.size]? = some (.cells #[.slice pu R cu, .slice pb K cb] 25 (0, 0)) := heap_alloc_last _ _
  have a0 := cell_new w #[.slice pu R cu, .slice pb K cb] 25 0
  have a1 := cell_new w #[.slice pu R cu, .slice pb K cb] 25 1
  clear hls1 hls2 x1 x2 y1 y2 hv hR hK
  by_cases hb1 : R ≤ 10000
  · by_cases hb2 : K ≤ 10000
    · have c1 : ¬ (10000 : Int) < (R : Int) := by omega
      have c2 : ¬ (10000 : Int) < (K : Int) := by omega
      have HBB : Hid (R ≤ 10000 ∧ K ≤ 10000) := ⟨hb1, hb2⟩
      clear hb1 hb2
      go_enter Try.func20, Try.ntmps20
      go_wp2_with fail
      generalize w.alloc (.cells #[.slice pu R cu, .slice pb K cb] 25) = w1 at HA O1 a0 a1 ⊢
      have HO : Hid (w1.heap[w.heap.size]? = _) := O1
      clear O1 a0 a1 c1 c2
      go_loopw [3, 4, 5] (fun last i _ wr => ∃ (j : Nat) (k : ByteArray), j ≤ R ∧ i = .int .i64 (j : Int) ∧ last = .string k ∧ Hid (UpTo (r.rows.map fun x => x.key) j k) ∧ Hid (∀ i x, i < j → r.rows[i]? = some x → LimR x ∧ 1 ≤ x.ver) ∧ Hid (Below w1.heap.size w1 wr)) (fun _ i _ _ => R - (intOf i).toNat)
      case atStart => exact ⟨0, _, Nat.zero_le _, rfl, rfl, UpTo.zero _ _, fun _ _ h => absurd h (Nat.not_lt_zero _), Below.refl _ _⟩
      case round =>
        obtain ⟨j, k, hj, rfl, rfl, HP, HI, HB⟩ := hrel
        have a0 := row_cell (row_below HB.out HO.out) (j := 0) rfl
        by_cases hlt : j < R
        · have hjl : (j : Int) < (R : Int) := by omega
          obtain ⟨x, hx⟩ : ∃ y, r.rows[j]? = some y := ⟨_, List.getElem?_eq_getElem (by have := HRK.out.1; omega)⟩
          have HX : Hid (r.rows[j]? = some x) := hx
          have HY : Hid ((r.rows.map fun x => x.key)[j]? = some x.key) := by show _ = _; rw [List.getElem?_map, hx]; rfl
          have HBw : Hid (Below w.heap.size w wr) := bel2 HA.out HB.out
          obtain ⟨B, o, vb, rfl, _, k0, k1, k2, hvb⟩ := (HU.out.below HBw.out).row j x hx
          obtain ⟨pv, cv, rfl, _⟩ := hvb.shape
          have HW : Hid (wrap64 ((j : Int) + 1) = ((j + 1 : Nat) : Int)) := wr1 hlt HRK.out.2.2.1
          have hbn := bel1 wr (.cells #[.string x.key, .int .i64 x.ver, .slice pv x.row.length cv] 37)
          have HBn : Hid (Below w1.heap.size w1 (wr.alloc (.cells #[.string x.key, .int .i64 x.ver, .slice pv x.row.length cv] 37))) := bel2 HB.out hbn
          have n0 := cell_new wr #[.string x.key, .int .i64 x.ver, .slice pv x.row.length cv] 37 0
          have n1 := cell_new wr #[.string x.key, .int .i64 x.ver, .slice pv x.row.length cv] 37 1
          have n2 := cell_new wr #[.string x.key, .int .i64 x.ver, .slice pv x.row.length cv] 37 2
          have KC : Hid (Calls Try.prog 38 _ (wr.alloc (.cells #[.string x.key, .int .i64 x.ver, .slice pv x.row.length cv] 37)) _) := key_calls x.key k ((j : Int) == 0) _
          obtain ⟨L, hL⟩ : ∃ L, L = x.row.length := ⟨_, rfl⟩
          have HL : Hid (L = x.row.length) := hL
          rw [← hL] at n0 n1 n2 k2 HBn KC
          clear hx hvb hbn hj hL
          go_wp2_with fail
          refine KC.out.mono ?_
          rintro e w2 ⟨rfl, rfl⟩
          clear KC k0 k1 k2
          cases hk : kOk x.key k ((j : Int) == 0) with
          | false =>
            go_wp2_with fail
            go_ret
            exact cap_no (bel2 HA.out HBn.out)
          | true =>
            have HP2 : Hid (UpTo (r.rows.map fun x => x.key) (j + 1) x.key) := HP.out.more HY.out hk
            have HKO : Hid (x.key.size ≤ 64) := (kOk_of hk).2.1
            clear hk
            by_cases hv1 : x.ver < 1
            · go_wp2_with fail
              go_ret
              exact cap_no (bel2 HA.out HBn.out)
            · by_cases hv2 : 2147483648 < x.ver
              · go_wp2_with fail
                go_ret
                exact cap_no (bel2 HA.out HBn.out)
              · by_cases hv3 : (524288 : Int) < (L : Int)
                · go_wp2_with fail
                  go_ret
                  exact cap_no (bel2 HA.out HBn.out)
                · have HI2 : Hid (∀ i y, i < j + 1 → r.rows[i]? = some y → LimR y ∧ 1 ≤ y.ver) := fun i y hi hy => by
                    by_cases he : i = j
                    · subst he
                      rw [HX.out] at hy
                      cases hy
                      have hl := HL.out
                      have hk := HKO.out
                      rw [size_data] at hk
                      exact ⟨⟨hk, by omega, by omega, by omega⟩, by omega⟩
                    · exact HI.out i y (by omega) hy
                  go_wp2_with fail
                  exact ⟨⟨j + 1, _, hlt, by first | rfl | rw [HW.out], rfl, HP2, HI2, HBn⟩, meas hlt (by first | rfl | exact HW.out)⟩
        · obtain rfl : j = R := by omega
          go_wp2_with fail
          clear a0
          have HKR : Hid (RiseK (r.rows.map fun x => x.key)) := by
            have h := HP.out
            have hl : j = (r.rows.map fun x => x.key).length := by rw [List.length_map]; exact HRK.out.1
            rw [hl] at h
            exact h.rise
          have HRR : Hid (∀ x ∈ r.rows, LimR x ∧ 1 ≤ x.ver) := fun x hx => by
            obtain ⟨i, hi⟩ := List.getElem?_of_mem hx
            exact HI.out i x (by have := (List.getElem?_eq_some_iff.1 hi).1; have := HRK.out.1; omega) hi
          clear hj HP HI
          go_loopw [3, 6, 7, 8] (fun last i _ _ wr2 => ∃ (q : Nat) (k : ByteArray), q ≤ K ∧ i = .int .i64 (q : Int) ∧ last = .string k ∧ Hid (UpTo (r.brs.map fun x => x.key) q k) ∧ Hid (∀ i x, i < q → r.brs[i]? = some x → LimB x ∧ ∀ e ∈ x.ev, 1 ≤ e.length) ∧ Hid (Below w1.heap.size w1 wr2)) (fun _ i _ _ _ => K - (intOf i).toNat)
          case atStart => exact ⟨0, _, Nat.zero_le _, rfl, rfl, UpTo.zero _ _, fun _ _ h => absurd h (Nat.not_lt_zero _), HB⟩
          case round =>
            obtain ⟨q, kq, hq, rfl, rfl, HP, HI, HB2⟩ := hrel
            have a1 := row_cell (row_below HB2.out HO.out) (j := 1) rfl
            by_cases hlt2 : q < K
            · have hql : (q : Int) < (K : Int) := by omega
              obtain ⟨x, hx⟩ : ∃ y, r.brs[q]? = some y := ⟨_, List.getElem?_eq_getElem (by have := HRK.out.2.1; omega)⟩
              have HX : Hid (r.brs[q]? = some x) := hx
              have HY : Hid ((r.brs.map fun x => x.key)[q]? = some x.key) := by show _ = _; rw [List.getElem?_map, hx]; rfl
              have HBw : Hid (Below w.heap.size w wr) := bel2 HA.out HB2.out
              obtain ⟨B, o, vb, rfl, _, k0, k1, hvb⟩ := (HV.out.below HBw.out).br q x hx
              obtain ⟨pv, cv, rfl, hv1, hv2, hvl⟩ := hvb
              have HW : Hid (wrap64 ((q : Int) + 1) = ((q + 1 : Nat) : Int)) := wr1 hlt2 HRK.out.2.2.2
              obtain ⟨L, hL⟩ : ∃ L, L = x.ev.length := ⟨_, rfl⟩
              have HL : Hid (L = x.ev.length ∧ L ≤ 9223372036854775807) := ⟨hL, by omega⟩
              rw [← hL] at k1
              have hbn := bel1 wr (.cells #[.string x.key, .slice pv L cv] 56)
              have HBn : Hid (Below w1.heap.size w1 (wr.alloc (.cells #[.string x.key, .slice pv L cv] 56))) := bel2 HB2.out hbn
              have HEV : Hid (Ls evE (fun _ => True) (wr.alloc (.cells #[.string x.key, .slice pv L cv] 56)) pv x.ev) := hvl.below hbn
              have n0 := cell_new wr #[.string x.key, .slice pv L cv] 56 0
              have n1 := cell_new wr #[.string x.key, .slice pv L cv] 56 1
              have N1 : Hid (_ = _) := n1
              have N0 : Hid (_ = _) := n0
              have KC : Hid (Calls Try.prog 38 _ (wr.alloc (.cells #[.string x.key, .slice pv L cv] 56)) _) := key_calls x.key kq ((q : Int) == 0) _
              clear hx hvl hbn hq hL hv1 hv2
              go_wp2_with fail
              refine KC.out.mono ?_
              rintro e w2 ⟨rfl, rfl⟩
              clear KC k0 k1
              cases hk : kOk x.key kq ((q : Int) == 0) with
              | false =>
                go_wp2_with fail
                go_ret
                exact cap_no (bel2 HA.out HBn.out)
              | true =>
                have HP2 : Hid (UpTo (r.brs.map fun x => x.key) (q + 1) x.key) := HP.out.more HY.out hk
                have HKO : Hid (x.key.size ≤ 64) := (kOk_of hk).2.1
                clear hk
                by_cases hv1 : (120 : Int) < (L : Int)
                · go_wp2_with fail
                  go_ret
                  exact cap_no (bel2 HA.out HBn.out)
                · have HV1 : Hid (L ≤ 120) := by show _ ≤ _; omega
                  go_wp2_with fail
                  clear hv1 n0 n1 a1
                  generalize hG : wr.heap.size = G at HBn HEV N1 N0 ⊢
                  generalize wr.alloc (.cells #[.string x.key, .slice pv L cv] 56) = w3 at HBn HEV N1 N0 ⊢
                  clear hG
                  go_loopw [8] (fun i wr3 => ∃ m : Nat, m ≤ L ∧ i = .int .i64 (m : Int) ∧ wr3 = w3 ∧ Hid (∀ i e, i < m → x.ev[i]? = some e → 1 ≤ e.length ∧ e.length ≤ 4096)) (fun i _ => L - (intOf i).toNat)
                  case atStart => exact ⟨0, Nat.zero_le _, rfl, rfl, fun _ _ h => absurd h (Nat.not_lt_zero _)⟩
                  case round =>
                    obtain ⟨m, hm, rfl, rfl, HE⟩ := hrel
                    have n1 := N1.out
                    by_cases hlt3 : m < L
                    · have hml : (m : Int) < (L : Int) := by omega
                      obtain ⟨y, hy⟩ : ∃ y, x.ev[m]? = some y := ⟨_, List.getElem?_eq_getElem (by have := HL.out.1; omega)⟩
                      have HYY : Hid (x.ev[m]? = some y) := hy
                      obtain ⟨B', o', ve, rfl, _, e0, hve⟩ := HEV.out.ev m y hy
                      obtain ⟨pe, ce, rfl, _⟩ := hve.shape
                      have HW3 : Hid (wrap64 ((m : Int) + 1) = ((m + 1 : Nat) : Int)) := wr1 hlt3 HL.out.2
                      obtain ⟨M, hM⟩ : ∃ M, M = y.length := ⟨_, rfl⟩
                      have HM : Hid (M = y.length) := hM
                      rw [← hM] at e0
                      clear hy hve hm hM
                      by_cases hz1 : (M : Int) < 1
                      · go_wp2_with fail
                        go_ret
                        exact cap_no (bel2 HA.out HBn.out)
                      · by_cases hz2 : (4096 : Int) < (M : Int)
                        · go_wp2_with fail
                          go_ret
                          exact cap_no (bel2 HA.out HBn.out)
                        · have HE2 : Hid (∀ i e, i < m + 1 → x.ev[i]? = some e → 1 ≤ e.length ∧ e.length ≤ 4096) := fun i e hi he => by
                            by_cases hh : i = m
                            · subst hh
                              rw [HYY.out] at he
                              cases he
                              have := HM.out
                              omega
                            · exact HE.out i e (by omega) he
                          go_wp2_with fail
                          exact ⟨⟨m + 1, hlt3, by first | rfl | rw [HW3.out], by first | trivial | rfl, HE2⟩, meas hlt3 (by first | rfl | exact HW3.out)⟩
                    · obtain rfl : m = L := by omega
                      have m0 := N0.out
                      have n0 : Hid (∀ e ∈ x.ev, 1 ≤ e.length ∧ e.length ≤ 4096) := fun e he => by
                        obtain ⟨i, hi⟩ := List.getElem?_of_mem he
                        exact HE.out i e (by have := (List.getElem?_eq_some_iff.1 hi).1; have := HL.out.1; omega) hi
                      have HI2 : Hid (∀ i y, i < q + 1 → r.brs[i]? = some y → LimB y ∧ ∀ e ∈ y.ev, 1 ≤ e.length) := fun i y hi hy => by
                        by_cases he : i = q
                        · subst he
                          rw [HX.out] at hy
                          cases hy
                          have hk := HKO.out
                          rw [size_data] at hk
                          exact ⟨⟨hk, by rw [← HL.out.1]; exact HV1.out, fun e he => (n0.out e he).2⟩, fun e he => (n0.out e he).1⟩
                        · exact HI.out i y (by omega) hy
                      go_wp2_with fail
                      exact ⟨⟨q + 1, _, hlt2, by first | rfl | rw [HW.out], rfl, HP2, HI2, HBn⟩, meas hlt2 (by first | rfl | exact HW.out)⟩
            · obtain rfl : q = K := by omega
              go_wp2_with fail
              go_ret
              refine ⟨⟨true, rfl, fun _ => ?_⟩, bel2 HA.out HB2.out⟩
              have hk1 : UpTo (r.brs.map fun x => x.key) (r.brs.map fun x => x.key).length kq := by
                rw [List.length_map, ← HRK.out.2.1]
                exact HP.out
              have hall : ∀ x ∈ r.brs, LimB x ∧ ∀ e ∈ x.ev, 1 ≤ e.length := fun x hx => by
                obtain ⟨i, hi⟩ := List.getElem?_of_mem hx
                exact HI.out i x (by have := (List.getElem?_eq_some_iff.1 hi).1; have := HRK.out.2.1; omega) hi
              exact ⟨⟨by rw [← HRK.out.1]; exact HBB.out.1, fun x hx => (HRR.out x hx).1, by rw [← HRK.out.2.1]; exact HBB.out.2, fun x hx => (hall x hx).1⟩, HKR.out, hk1.rise, fun x hx => (HRR.out x hx).2, fun x hx => (hall x hx).2⟩
    · have c1 : ¬ (10000 : Int) < (R : Int) := by omega
      have c2 : (10000 : Int) < (K : Int) := by omega
      go_enter Try.func20, Try.ntmps20
      go_wp2_with fail
      go_ret
      exact cap_no HA.out
  · have c1 : (10000 : Int) < (R : Int) := by omega
    go_enter Try.func20, Try.ntmps20
    go_wp2_with fail
    go_ret
    exact cap_no HA.out
end Go.Proofs.Ytkaaddahegkmgaa
