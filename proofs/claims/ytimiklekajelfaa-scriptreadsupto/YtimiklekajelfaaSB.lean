/- What a step of a kind has; numbers in a range; the contracts of fields, isUpTo, most, mayBe$1, IndexFunc, ContainsFunc. -/
import Derived.Test.YtimiklekajelfaaSA
namespace Go.Proofs.Ytimiklekajelfaa
open Go.ChangeShapes Go.WideShapes Go.ChangeAt Go.RowKit
def fld (k : Int) : Int := if k = 1 then 7 else if k = 2 then 3 else if k = 3 ∨ k = 6 ∨ k = 8 then 9 else if k = 4 then 17 else if k = 5 ∨ k = 7 then 1 else 0
theorem neI {k c : Int} (h : k ≠ c) : (k == c) = false := by simpa using h
set_option maxHeartbeats 1000000 in
theorem fields_calls (k : Int) (w : World) : Calls Try.prog 42 #[.int .i64 k] w fun e w' => e = .returned (.int .i64 (fld k)) ∧ w' = w := by
  by_cases h1 : k = 1
  · subst h1
    go_enter Try.func42, Try.ntmps42
    go_wp2_with fail
    go_ret
    exact ⟨rfl, rfl⟩
  by_cases h2 : k = 2
  · subst h2
    go_enter Try.func42, Try.ntmps42
    go_wp2_with fail
    go_ret
    exact ⟨rfl, rfl⟩
  by_cases h3 : k = 3
  · subst h3
    go_enter Try.func42, Try.ntmps42
    go_wp2_with fail
    go_ret
    exact ⟨rfl, rfl⟩
  by_cases h6 : k = 6
  · subst h6
    go_enter Try.func42, Try.ntmps42
    go_wp2_with fail
    go_ret
    exact ⟨rfl, rfl⟩
  by_cases h8 : k = 8
  · subst h8
    go_enter Try.func42, Try.ntmps42
    go_wp2_with fail
    go_ret
    exact ⟨rfl, rfl⟩
  by_cases h4 : k = 4
  · subst h4
    go_enter Try.func42, Try.ntmps42
    go_wp2_with fail
    go_ret
    exact ⟨rfl, rfl⟩
  by_cases h5 : k = 5
  · subst h5
    go_enter Try.func42, Try.ntmps42
    go_wp2_with fail
    go_ret
    exact ⟨rfl, rfl⟩
  by_cases h7 : k = 7
  · subst h7
    go_enter Try.func42, Try.ntmps42
    go_wp2_with fail
    go_ret
    exact ⟨rfl, rfl⟩
  have e : fld k = 0 := by simp [fld, h1, h2, h3, h4, h5, h6, h7, h8]
  rw [e]
  have d1 := neI h1
  have d2 := neI h2
  have d3 := neI h3
  have d4 := neI h4
  have d5 := neI h5
  have d6 := neI h6
  have d7 := neI h7
  have d8 := neI h8
  clear h1 h2 h3 h4 h5 h6 h7 h8 e
  go_enter Try.func42, Try.ntmps42
  go_wp2_with fail
  go_ret
  exact ⟨rfl, rfl⟩
def upTo (n m : Int) : Bool := decide (0 ≤ n) && decide (n ≤ m)
set_option maxHeartbeats 1000000 in
theorem isUpTo_calls (n m : Int) (w : World) : Calls Try.prog 52 #[.int .i64 n, .int .i64 m] w fun e w' => e = .returned (.bool (upTo n m)) ∧ w' = w := by
  by_cases h0 : 0 ≤ n
  · have d0 : decide (0 ≤ n) = true := decide_eq_true h0
    have hu : upTo n m = decide (n ≤ m) := by simp [upTo, h0]
    rw [hu]
    clear h0 hu
    go_enter Try.func52, Try.ntmps52
    go_wp2_with fail
    go_ret
    exact ⟨rfl, rfl⟩
  · have d0 : decide (0 ≤ n) = false := decide_eq_false h0
    have hu : upTo n m = false := by simp [upTo, h0]
    rw [hu]
    clear h0 hu
    go_enter Try.func52, Try.ntmps52
    go_wp2_with fail
    go_ret
    exact ⟨rfl, rfl⟩
/-- Which of the fields a kind has. -/
def hsB (f c : Int) : Bool := !(bits .and .i64 f c == 0)
def mst (f c m : Int) : Int := if hsB f c then m else 0
theorem most_calls (f c m : Int) (w : World) : Calls Try.prog 53 #[.int .i64 f, .int .i64 c, .int .i64 m] w fun e w' => e = .returned (.int .i64 (mst f c m)) ∧ w' = w := by
  by_cases h : (bits .and .i64 f c == 0) = true
  · have hu : mst f c m = 0 := by simp [mst, hsB, h]
    rw [hu]
    clear hu
    go_enter Try.func53, Try.ntmps53
    go_wp2_with fail
    go_ret
    exact ⟨rfl, rfl⟩
  · rw [Bool.not_eq_true] at h
    have hu : mst f c m = m := by simp [mst, hsB, h]
    rw [hu]
    clear hu
    go_enter Try.func53, Try.ntmps53
    go_wp2_with fail
    go_ret
    exact ⟨rfl, rfl⟩
def ovr (n : Int) : Bool := !(upTo n 1099511627776)
theorem over_calls (n : Int) (w : World) : Calls Try.prog 51 #[.int .i64 n] w fun e w' => e = .returned (.bool (ovr n)) ∧ w' = w := by
  have C : Hid (Calls Try.prog 52 #[.int .i64 n, .int .i64 1099511627776] w _) := isUpTo_calls n 1099511627776 w
  have hu : ovr n = !(upTo n 1099511627776) := rfl
  rw [hu]
  generalize upTo n 1099511627776 = u at C ⊢
  clear hu
  go_enter Try.func51, Try.ntmps51
  go_wp2_with fail
  refine C.out.mono ?_
  rintro e w1 ⟨rfl, hw⟩
  have hw' := hw.symm
  subst hw'
  clear hw
  go_wp2_with fail
  go_ret
  exact ⟨rfl, rfl⟩
def F51 : Value := .func (.func 51) #[] #[]
set_option maxHeartbeats 1000000 in
theorem index_calls (P : Nat → Prop) (v : Value) (ks : List Int) (w : World) (h : HL ei P w v ks) :
    Calls Try.prog 61 #[v, F51] w fun e w' => (∃ z, e = .returned (.int .i64 z) ∧ decide (z ≥ 0) = ks.any ovr) ∧ w' = w := by
  obtain ⟨a, c, rfl, hc, hm, h3⟩ := h
  obtain ⟨n, hn⟩ : ∃ n, n = ks.length := ⟨_, rfl⟩
  rw [← hn] at hc ⊢
  have HN : Hid (ks.length = n) := hn.symm
  have HI : Hid (∀ (i : Nat) x, ks[i]? = some x → ∃ B o, a = some ⟨B, o, none⟩ ∧ P B ∧ w.cell? ⟨B, o + i, none⟩ = some (ei x)) := h3
  have HS : Hid (n ≤ 9223372036854775807) := by show _ ≤ _; omega
  unfold F51
  clear h3 hn hc hm
  go_enter Try.func61, Try.ntmps61
  go_wp2_with fail
  go_loopw [5, 8] (fun _ i wr => ∃ j : Nat, j ≤ n ∧ i = .int .i64 (j : Int) ∧ Hid (∀ i d, i < j → ks[i]? = some d → ovr d = false) ∧ wr = w) (fun _ i _ => n - (intOf i).toNat)
  case atStart => exact ⟨0, Nat.zero_le _, rfl, fun q z hq => absurd hq (Nat.not_lt_zero _), rfl⟩
  case round =>
    obtain ⟨j, hj, rfl, HF, rfl⟩ := hrel
    by_cases hlt : j < n
    · have hjl : (j : Int) < (n : Int) := by omega
      obtain ⟨d, hd⟩ : ∃ d, ks[j]? = some d := ⟨_, List.getElem?_eq_getElem (by have := HN.out; omega)⟩
      obtain ⟨B, o, rfl, _, hcl⟩ := HI.out j d hd
      unfold ei at hcl
      have HZ : Hid (ks[j]? = some d) := hd
      have HC : Hid (Calls Try.prog 51 #[.int .i64 d] wr fun e w' => e = .returned (.bool (ovr d)) ∧ w' = wr) := over_calls d wr
      have HW : Hid (wrap64 ((j : Int) + 1) = ((j + 1 : Nat) : Int)) := wr1 hlt HS.out
      obtain ⟨pz, hpz⟩ : ∃ pz, pz = ovr d := ⟨_, rfl⟩
      rw [← hpz] at HC
      have HZP : Hid (pz = ovr d) := hpz
      clear hd hpz
      go_wp2_with fail
      refine HC.out.mono ?_
      rintro e w1 ⟨rfl, hw1⟩
      have hw1' := hw1.symm
      subst hw1'
      clear hw1 HC
      cases pz with
      | true =>
        go_wp2_with fail
        go_ret
        have : ks.any ovr = true := List.any_eq_true.2 ⟨d, List.mem_of_getElem? HZ.out, HZP.out.symm⟩
        exact ⟨⟨_, rfl, by rw [this]; exact decide_eq_true (by omega)⟩, rfl⟩
      | false =>
        go_wp2_with fail
        refine ⟨⟨j + 1, hlt, by rw [HW.out], fun q z hq hz => ?_, trivial⟩, meas hlt HW.out⟩
        by_cases hqj : q < j
        · exact HF.out q z hqj hz
        · obtain rfl : q = j := by omega
          rw [HZ.out] at hz
          cases hz
          exact HZP.out.symm
    · obtain rfl : j = n := by omega
      go_wp2_with fail
      go_ret
      have : ks.any ovr = false := by
        rw [List.any_eq_false]
        intro x hx
        obtain ⟨q, hq⟩ := List.getElem?_of_mem hx
        have hl := (List.getElem?_eq_some_iff.1 hq).1
        simp [HF.out q x (by have := HN.out; omega) hq]
      exact ⟨⟨_, rfl, by rw [this]; rfl⟩, rfl⟩
theorem cont_calls (P : Nat → Prop) (v : Value) (ks : List Int) (w : World) (h : HL ei P w v ks) :
    Calls Try.prog 54 #[v, F51] w fun e w' => e = .returned (.bool (ks.any ovr)) ∧ w' = w := by
  have C : Hid (Calls Try.prog 61 #[v, F51] w _) := index_calls P v ks w h
  obtain ⟨a, c, rfl, _⟩ := h
  unfold F51 at C ⊢
  go_enter Try.func54, Try.ntmps54
  go_wp2_with fail
  refine C.out.mono ?_
  rintro e w1 ⟨⟨z, rfl, hz⟩, hw⟩
  have hw' := hw.symm
  subst hw'
  clear hw C
  go_wp2_with fail
  go_ret
  exact ⟨rfl, rfl⟩
end Go.Proofs.Ytimiklekajelfaa
