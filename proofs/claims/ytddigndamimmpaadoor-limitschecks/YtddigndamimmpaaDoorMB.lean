/- The contracts of Name, in both texts. -/
import Derived.Test.YtddigndamimmpaaDoorMA
namespace Go.Proofs.YtddigndamimmpaaDoor
open Go.ChangeShapes Go.WideShapes Go.ChangeAt Go.RowKit
/-- May this byte stand at the place i of a name? -/
def gd (i : Nat) (x : UInt8) : Bool := okc x.toNat && !(i == 0 && (x.toNat == 46 || x.toNat == 45))
/-- All bytes may stand where they stand. -/
def allGd (s : ByteArray) : Prop := ∀ i (h : i < s.size), gd i s[i] = true
def allG (s : ByteArray) : Bool := decide (∀ i (h : i < s.size), gd i s[i] = true)
theorem allG_iff (s : ByteArray) : allG s = true ↔ allGd s := decide_eq_true_iff
theorem allG_true (s : ByteArray) (h : allGd s) : allG s = true := (allG_iff s).2 h
theorem allG_false (s : ByteArray) (h : ¬ allGd s) : allG s = false := Bool.eq_false_iff.2 fun e => h ((allG_iff s).1 e)
def nmB (s : ByteArray) : Bool := decide (1 ≤ s.size) && decide (s.size ≤ 24) && allG s
theorem measM (L j : Nat) (h : j < L) : L - (intOf (.int .i64 ((j : Int) + 1))).toNat < L - (intOf (.int .i64 (j : Int))).toNat := by simp [intOf]; omega
set_option maxHeartbeats 1000000 in
theorem fitting_calls (s : ByteArray) (hs : s.size ≤ 24) (w : World) : Calls Tryd.prog 42 #[.string s] w fun e w' => ∃ n : Nat, e = .returned (.int .i64 (n : Int)) ∧ (n = s.size ↔ allGd s) ∧ w' = w := by
  go_enter Tryd.func42, Tryd.ntmps42
  go_wp2
  go_step3
  go_wp2
  go_step3
  go_wp2
  go_loop [3] (fun i => ∃ j : Nat, j ≤ s.size ∧ i = .int .i64 j ∧ Hid (∀ i (_ : i < j) (h : i < s.size), gd i s[i] = true)) (fun i => s.size - (intOf i).toNat)
  case atStart => exact ⟨0, Nat.zero_le _, rfl, fun i h => absurd h (by omega)⟩
  case round =>
    obtain ⟨j, hj, rfl, HG⟩ := hrel
    by_cases hlt : j < s.size
    · have HN : Hid (gd j s[j] = true → Hid (∀ i (_ : i < j + 1) (h : i < s.size), gd i s[i] = true)) := by
        intro h i hi h2
        by_cases e : i = j
        · subst e; exact h
        · exact HG.out i (by omega) h2
      have HB : Hid (gd j s[j] = false → (j = s.size ↔ allGd s)) := by
        intro h
        constructor
        · intro e; omega
        · intro h2; have := h2 j hlt; rw [h] at this; cases this
      have hc : s[j].toNat < 256 := s[j].toNat_lt
      have HD : Hid (gd j s[j] = (okc s[j].toNat && !(j == 0 && (s[j].toNat == 46 || s[j].toNat == 45)))) := (rfl : gd j s[j] = _)
      generalize hgd : gd j s[j] = g at HN HB HD
      have hw : wrap64 ((j : Int) + 1) = (j : Int) + 1 := by unfold wrap64; omega
      clear hgd hs
      by_cases h1 : s[j].toNat = 46 ∨ s[j].toNat = 45
      · by_cases h0 : j = 0
        · have hg : g = false := by
            have e0 : (j == 0) = true := by rw [h0]; rfl
            rw [HD.out, e0]
            rcases h1 with h1 | h1 <;> rw [h1] <;> rfl
          have HQ := HB.out hg
          have HQ2 : Hid (j = s.size ↔ allGd s) := HQ
          rcases h1 with h1 | h1
          · have d1 : ((s[j].toNat : Int) == 46) = true := by rw [h1]; rfl
            have d0 : ((j : Int) == 0) = true := by rw [h0]; rfl
            clear HQ HD HB HN h0 h1
            go_wp2
            go_ret
            exact ⟨j, rfl, HQ2.out, rfl⟩
          · have d1 : ((s[j].toNat : Int) == 46) = false := by rw [h1]; rfl
            have d2 : ((s[j].toNat : Int) == 45) = true := by rw [h1]; rfl
            have d0 : ((j : Int) == 0) = true := by rw [h0]; rfl
            clear HQ HD HB HN h0 h1
            go_wp2
            go_ret
            exact ⟨j, rfl, HQ2.out, rfl⟩
        · have hg : g = true := by
            rw [HD.out]
            rcases h1 with h1 | h1 <;> simp [h1, h0] <;> decide
          have HQ := HN.out hg
          have d0 : ((j : Int) == 0) = false := by simpa using h0
          rcases h1 with h1 | h1
          · have d1 : ((s[j].toNat : Int) == 46) = true := by rw [h1]; rfl
            clear HD HB HN h0 h1
            go_wp2
            go_round
            case rel => exact ⟨j + 1, hlt, by first | rfl | (rw [hw]; rfl), HQ⟩
            case measure => first | exact measM _ _ hlt | (rw [hw]; exact measM _ _ hlt)
          · have d1 : ((s[j].toNat : Int) == 46) = false := by rw [h1]; rfl
            have d2 : ((s[j].toNat : Int) == 45) = true := by rw [h1]; rfl
            clear HD HB HN h0 h1
            go_wp2
            go_round
            case rel => exact ⟨j + 1, hlt, by first | rfl | (rw [hw]; rfl), HQ⟩
            case measure => first | exact measM _ _ hlt | (rw [hw]; exact measM _ _ hlt)
      · have d1 : ((s[j].toNat : Int) == 46) = false := by simp; omega
        have d2 : ((s[j].toNat : Int) == 45) = false := by simp; omega
        by_cases h3 : s[j].toNat = 95
        · have hg : g = true := by rw [HD.out, h3]; simp; decide
          have HQ := HN.out hg
          have d3 : ((s[j].toNat : Int) == 95) = true := by rw [h3]; rfl
          clear HD HB HN h1 h3
          go_wp2
          go_round
          case rel => exact ⟨j + 1, hlt, by first | rfl | (rw [hw]; rfl), HQ⟩
          case measure => first | exact measM _ _ hlt | (rw [hw]; exact measM _ _ hlt)
        · have d3 : ((s[j].toNat : Int) == 95) = false := by simp; omega
          have hg : g = (lett s[j].toNat || digi s[j].toNat) := by
            rw [HD.out]
            have e1 : (s[j].toNat == 46) = false := by simp; omega
            have e2 : (s[j].toNat == 45) = false := by simp; omega
            have e3 : (s[j].toNat == 95) = false := by simp; omega
            simp [okc, e1, e2, e3]
          have LC : Hid (Calls _ _ _ _ _) := letter_calls s[j].toNat hc w
          have DC : Hid (Calls _ _ _ _ _) := digit_calls s[j].toNat hc w
          cases hL : lett s[j].toNat with
          | true =>
            rw [hL] at hg LC
            have HQ := HN.out (by rw [hg]; rfl)
            clear HD HB HN h1 h3 hL hg
            go_wp2_with fail
            refine Calls.mono LC.out ?_
            rintro e w1 ⟨rfl, hw1⟩
            have hw2 := hw1.symm
            subst hw2
            go_wp2
            go_round
            case rel => exact ⟨j + 1, hlt, by first | rfl | (rw [hw]; rfl), HQ⟩
            case measure => first | exact measM _ _ hlt | (rw [hw]; exact measM _ _ hlt)
          | false =>
            rw [hL] at hg LC
            cases hD : digi s[j].toNat with
            | true =>
              rw [hD] at hg DC
              have HQ := HN.out (by rw [hg]; rfl)
              clear HD HB HN h1 h3 hL hg hD
              go_wp2_with fail
              refine Calls.mono LC.out ?_
              rintro e w1 ⟨rfl, hw1⟩
              have hw2 := hw1.symm
              subst hw2
              go_wp2_with fail
              refine Calls.mono DC.out ?_
              rintro e w1 ⟨rfl, hw1⟩
              have hw2 := hw1.symm
              subst hw2
              go_wp2
              go_round
              case rel => exact ⟨j + 1, hlt, by first | rfl | (rw [hw]; rfl), HQ⟩
              case measure => first | exact measM _ _ hlt | (rw [hw]; exact measM _ _ hlt)
            | false =>
              rw [hD] at hg DC
              have HQ := HB.out (by rw [hg]; rfl)
              have HQ2 : Hid (j = s.size ↔ allGd s) := HQ
              clear HD HB HN h1 h3 hL hg hD HQ
              go_wp2_with fail
              refine Calls.mono LC.out ?_
              rintro e w1 ⟨rfl, hw1⟩
              have hw2 := hw1.symm
              subst hw2
              go_wp2_with fail
              refine Calls.mono DC.out ?_
              rintro e w1 ⟨rfl, hw1⟩
              have hw2 := hw1.symm
              subst hw2
              go_wp2
              rw [Exit.noGoto_ret]
              go_ret
              exact ⟨j, rfl, HQ2.out, rfl⟩
    · obtain rfl : j = s.size := by omega
      go_wp2
      go_ret
      exact ⟨_, rfl, ⟨fun _ i h => HG.out i h h, fun _ => rfl⟩, rfl⟩
theorem nm_small (s : ByteArray) (h : s.size < 1) : nmB s = false := by unfold nmB; rw [decide_eq_false (by omega)]; rfl
theorem nm_big (s : ByteArray) (h : 24 < s.size) : nmB s = false := by unfold nmB; rw [decide_eq_false (p := s.size ≤ 24) (by omega)]; simp
theorem nm_in (s : ByteArray) (h : 1 ≤ s.size) (h2 : s.size ≤ 24) : nmB s = allG s := by unfold nmB; rw [decide_eq_true h, decide_eq_true h2]; rfl
theorem name_calls (s : ByteArray) (w : World) : Calls Tryd.prog 28 #[.string s] w fun e w' => e = .returned (.bool (nmB s)) ∧ w' = w := by
  by_cases h1 : s.size < 1
  · rw [nm_small s h1]
    have d1 : decide (1 ≤ (s.size : Int)) = false := decide_eq_false (by omega)
    go_enter Tryd.func28, Tryd.ntmps28
    go_wp2
    go_ret
    exact ⟨rfl, rfl⟩
  by_cases h2 : 24 < s.size
  · rw [nm_big s h2]
    go_enter Tryd.func28, Tryd.ntmps28
    go_wp2
    go_ret
    exact ⟨rfl, rfl⟩
  have FC : Hid (Calls _ _ _ _ _) := fitting_calls s (by omega) w
  have HI : Hid (nmB s = allG s) := nm_in s (by omega) (by omega)
  have g1 : 1 ≤ s.size := by omega
  have g2 : s.size ≤ 24 := by omega
  clear h1 h2
  go_enter Tryd.func28, Tryd.ntmps28
  go_wp2_with fail
  refine Calls.mono FC.out ?_
  rintro e w1 ⟨n, rfl, hn, hw1⟩
  have hw2 := hw1.symm
  subst hw2
  have HE : Hid (((n : Int) == (s.size : Int)) = nmB s) := by
    show _ = _
    rw [HI.out, Bool.eq_iff_iff]
    simp only [beq_iff_eq, allG_iff, ← hn]
    omega
  clear hn
  go_wp2
  go_ret
  exact ⟨congrArg (fun b => Ending.returned (Value.bool b)) HE.out, rfl⟩
theorem gd_zero (x : UInt8) (h : x.toNat = 46 ∨ x.toNat = 45) : gd 0 x = false := by
  unfold gd
  rcases h with h | h <;> rw [h] <;> rfl
theorem gd_ok (i : Nat) (x : UInt8) (h : okc x.toNat = true) (h2 : i = 0 → ¬ (x.toNat = 46 ∨ x.toNat = 45)) : gd i x = true := by
  unfold gd
  rw [h]
  by_cases hi : i = 0
  · have := h2 hi
    have e1 : (x.toNat == 46) = false := by simp; omega
    have e2 : (x.toNat == 45) = false := by simp; omega
    simp [e1, e2]
  · simp [hi]
theorem gd_bad (i : Nat) (x : UInt8) (h : okc x.toNat = false) : gd i x = false := by unfold gd; rw [h]; rfl
end Go.Proofs.YtddigndamimmpaaDoor
