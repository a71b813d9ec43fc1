/- The contract of fits: whether a value's own fields may be. -/
import Derived.Test.YtjmonkhkcmcfiaaVE
namespace Go.Proofs.Ytjmonkhkcmcfiaa
open Go.ChangeShapes Go.WideShapes Go.ChangeAt Go.RowKit Go.BigFrame
/-- A test's answer. -/
def FP (p : Prop) (w : World) (e : Ending) (w' : World) : Prop := (∃ r : Bool, e = .returned (.bool r) ∧ (r = true ↔ p)) ∧ Below w.heap.size w w'
theorem FP.yes {p : Prop} {w w' : World} (h : p) (hb : Below w.heap.size w w') : FP p w (.returned (.bool true)) w' := ⟨⟨true, rfl, fun _ => h, fun _ => rfl⟩, hb⟩
theorem FP.no {p : Prop} {w w' : World} (h : ¬ p) (hb : Below w.heap.size w w') : FP p w (.returned (.bool false)) w' := ⟨⟨false, rfl, fun h => (by cases h), fun q => absurd q h⟩, hb⟩
section
variable {k x : Int} {b b' : Nat} {s : ByteArray} {n : Nat}
theorem fits_yes (h1 : 0 ≤ k) (h2 : k ≤ 4) (h3 : k = 1 ∨ x = 0) (h4 : k = 2 ∨ b = 0) (h5 : b' = b) (h6 : k = 3 ∨ s.toList = []) (h7 : s.size ≤ 200) (h8 : k = 4 ∨ n = 0) (h9 : n ≤ 12) : FitsB k x b b' s n := ⟨h1, h2, h3, h4, h5, h6, h7, h8, h9⟩
theorem fits_no_l (h : ¬ 0 ≤ k) : ¬ FitsB k x b b' s n := fun q => h q.1
theorem fits_no_h (h : ¬ k ≤ 4) : ¬ FitsB k x b b' s n := fun q => h q.2.1
theorem fits_no_x (hk : k ≠ 1) (h : ¬ x = 0) : ¬ FitsB k x b b' s n := fun q => q.2.2.1.elim hk h
theorem fits_no_b (hk : k ≠ 2) (h : ¬ b = 0) : ¬ FitsB k x b b' s n := fun q => q.2.2.2.1.elim hk h
theorem fits_no_c (h : ¬ b' = b) : ¬ FitsB k x b b' s n := fun q => h q.2.2.2.2.1
theorem fits_no_s (hk : k ≠ 3) (h : ¬ s.toList = []) : ¬ FitsB k x b b' s n := fun q => q.2.2.2.2.2.1.elim hk h
theorem fits_no_z (h : ¬ s.size ≤ 200) : ¬ FitsB k x b b' s n := fun q => h q.2.2.2.2.2.2.1
theorem fits_no_n (hk : k ≠ 4) (h : ¬ n = 0) : ¬ FitsB k x b b' s n := fun q => q.2.2.2.2.2.2.2.1.elim hk h
theorem fits_no_m (h : ¬ n ≤ 12) : ¬ FitsB k x b b' s n := fun q => h q.2.2.2.2.2.2.2.2
end
set_option maxHeartbeats 8000000 in
set_option maxRecDepth 100000 in
theorem fits_all (k x : Int) (s : ByteArray) (a : Option Addr) (n c : Nat) (w : World) (b b' : Nat) (HC : Hid (∀ w, Calls Try.prog 101 #[.int .u64 (b : Int)] w fun e w' => e = .returned (.int .u64 (b' : Int)) ∧ w' = w)) :
    Calls Try.prog 96 #[.agg #[.int .i64 k, .int .i64 x, .int .u64 (b : Int), .string s, .slice a n c]] w (FP (FitsB k x b b' s n) w) := by
  go_enter Try.func96, Try.ntmps96
  go_wp2_with fail
  simp only [List.append_eq, List.cons_append, List.nil_append]
  refine wp_region_quiet_lit (by kernel_rfl) (by kernel_rfl) ?_
  by_cases k0 : 0 ≤ k
  · have c0 : decide (0 ≤ k) = true := decide_eq_true k0
    by_cases k4 : k ≤ 4
    · have c4 : decide (k ≤ 4) = true := decide_eq_true k4
      rcases (by omega : k = 0 ∨ k = 1 ∨ k = 2 ∨ k = 3 ∨ k = 4) with rfl | rfl | rfl | rfl | rfl
      · by_cases hx : x = 0
        · have fx : (x == 0) = true := by simpa using hx
          have Hx : Hid (x = 0) := hx
          clear hx
          by_cases hb : b = 0
          · have fb : ((b : Int) == 0) = true := by simpa using hb
            have Hb : Hid (b = 0) := hb
            clear hb
            by_cases hc : b' = b
            · have fc : ((b' : Int) == (b : Int)) = true := by simp [hc]
              have Hc : Hid (b' = b) := hc
              clear hc
              by_cases hs : s.toList = []
              · have fs : (s.toList == []) = true := by simpa using hs
                have Hs : Hid (s.toList = []) := hs
                clear hs
                by_cases hz : s.size ≤ 200
                · have fz : decide ((s.size : Int) ≤ 200) = true := decide_eq_true (by omega)
                  have Hz : Hid (s.size ≤ 200) := hz
                  clear hz
                  by_cases hn : n = 0
                  · have fn : ((n : Int) == 0) = true := by simpa using hn
                    have Hn : Hid (n = 0) := hn
                    clear hn
                    have fm : decide ((n : Int) ≤ 12) = true := decide_eq_true (by have := Hn.out; omega)
                    have HY : Hid (FitsB 0 x b b' s n) := fits_yes (by decide) (by decide) ((.inr Hx.out)) ((.inr Hb.out)) Hc.out ((.inr Hs.out)) Hz.out ((.inr Hn.out)) (Hn.out ▸ Nat.zero_le 12)
                    repeat (go_big_quiet_step (first | (go_at_call 101; exact Calls.quiet_of_same (HC.out _))))
                    refine wpQuiet_nil ?_
                    intro _ hw'
                    obtain ⟨nq, hw''⟩ := hw'
                    subst hw''
                    go_wp2_with fail
                    go_ret
                    exact FP.yes HY.out (bel2 (bel1 _ _) (belN _ _))
                  · have fn : ((n : Int) == 0) = false := by simpa using hn
                    have HN : Hid (¬ FitsB 0 x b b' s n) := fits_no_n (by omega) hn
                    clear hn
                    repeat (go_big_quiet_step (first | (go_at_call 101; exact Calls.quiet_of_same (HC.out _))))
                    refine wpQuiet_nil ?_
                    intro _ hw'
                    obtain ⟨nq, hw''⟩ := hw'
                    subst hw''
                    go_wp2_with fail
                    go_ret
                    exact FP.no HN.out (bel2 (bel1 _ _) (belN _ _))
                · have fz : decide ((s.size : Int) ≤ 200) = false := decide_eq_false (by omega)
                  have HN : Hid (¬ FitsB 0 x b b' s n) := fits_no_z hz
                  clear hz
                  repeat (go_big_quiet_step (first | (go_at_call 101; exact Calls.quiet_of_same (HC.out _))))
                  refine wpQuiet_nil ?_
                  intro _ hw'
                  obtain ⟨nq, hw''⟩ := hw'
                  subst hw''
                  go_wp2_with fail
                  go_ret
                  exact FP.no HN.out (bel2 (bel1 _ _) (belN _ _))
              · have fs : (s.toList == []) = false := by simpa using hs
                have HN : Hid (¬ FitsB 0 x b b' s n) := fits_no_s (by decide) hs
                clear hs
                repeat (go_big_quiet_step (first | (go_at_call 101; exact Calls.quiet_of_same (HC.out _))))
                refine wpQuiet_nil ?_
                intro _ hw'
                obtain ⟨nq, hw''⟩ := hw'
                subst hw''
                go_wp2_with fail
                go_ret
                exact FP.no HN.out (bel2 (bel1 _ _) (belN _ _))
            · have hc' : ¬ (b' : Int) = (b : Int) := by omega
              have fc : ((b' : Int) == (b : Int)) = false := by simpa using hc'
              have HN : Hid (¬ FitsB 0 x b b' s n) := fits_no_c hc
              clear hc hc'
              repeat (go_big_quiet_step (first | (go_at_call 101; exact Calls.quiet_of_same (HC.out _))))
              refine wpQuiet_nil ?_
              intro _ hw'
              obtain ⟨nq, hw''⟩ := hw'
              subst hw''
              go_wp2_with fail
              go_ret
              exact FP.no HN.out (bel2 (bel1 _ _) (belN _ _))
          · have fb : ((b : Int) == 0) = false := by simpa using hb
            have HN : Hid (¬ FitsB 0 x b b' s n) := fits_no_b (by omega) hb
            clear hb
            repeat (go_big_quiet_step (first | (go_at_call 101; exact Calls.quiet_of_same (HC.out _))))
            refine wpQuiet_nil ?_
            intro _ hw'
            obtain ⟨nq, hw''⟩ := hw'
            subst hw''
            go_wp2_with fail
            go_ret
            exact FP.no HN.out (bel2 (bel1 _ _) (belN _ _))
        · have fx : (x == 0) = false := by simpa using hx
          have HN : Hid (¬ FitsB 0 x b b' s n) := fits_no_x (by omega) hx
          clear hx
          repeat (go_big_quiet_step (first | (go_at_call 101; exact Calls.quiet_of_same (HC.out _))))
          refine wpQuiet_nil ?_
          intro _ hw'
          obtain ⟨nq, hw''⟩ := hw'
          subst hw''
          go_wp2_with fail
          go_ret
          exact FP.no HN.out (bel2 (bel1 _ _) (belN _ _))
      · by_cases hb : b = 0
        · have fb : ((b : Int) == 0) = true := by simpa using hb
          have Hb : Hid (b = 0) := hb
          clear hb
          by_cases hc : b' = b
          · have fc : ((b' : Int) == (b : Int)) = true := by simp [hc]
            have Hc : Hid (b' = b) := hc
            clear hc
            by_cases hs : s.toList = []
            · have fs : (s.toList == []) = true := by simpa using hs
              have Hs : Hid (s.toList = []) := hs
              clear hs
              by_cases hz : s.size ≤ 200
              · have fz : decide ((s.size : Int) ≤ 200) = true := decide_eq_true (by omega)
                have Hz : Hid (s.size ≤ 200) := hz
                clear hz
                by_cases hn : n = 0
                · have fn : ((n : Int) == 0) = true := by simpa using hn
                  have Hn : Hid (n = 0) := hn
                  clear hn
                  have fm : decide ((n : Int) ≤ 12) = true := decide_eq_true (by have := Hn.out; omega)
                  have HY : Hid (FitsB 1 x b b' s n) := fits_yes (by decide) (by decide) (.inl rfl) ((.inr Hb.out)) Hc.out ((.inr Hs.out)) Hz.out ((.inr Hn.out)) (Hn.out ▸ Nat.zero_le 12)
                  repeat (go_big_quiet_step (first | (go_at_call 101; exact Calls.quiet_of_same (HC.out _))))
                  refine wpQuiet_nil ?_
                  intro _ hw'
                  obtain ⟨nq, hw''⟩ := hw'
                  subst hw''
                  go_wp2_with fail
                  go_ret
                  exact FP.yes HY.out (bel2 (bel1 _ _) (belN _ _))
                · have fn : ((n : Int) == 0) = false := by simpa using hn
                  have HN : Hid (¬ FitsB 1 x b b' s n) := fits_no_n (by omega) hn
                  clear hn
                  repeat (go_big_quiet_step (first | (go_at_call 101; exact Calls.quiet_of_same (HC.out _))))
                  refine wpQuiet_nil ?_
                  intro _ hw'
                  obtain ⟨nq, hw''⟩ := hw'
                  subst hw''
                  go_wp2_with fail
                  go_ret
                  exact FP.no HN.out (bel2 (bel1 _ _) (belN _ _))
              · have fz : decide ((s.size : Int) ≤ 200) = false := decide_eq_false (by omega)
                have HN : Hid (¬ FitsB 1 x b b' s n) := fits_no_z hz
                clear hz
                repeat (go_big_quiet_step (first | (go_at_call 101; exact Calls.quiet_of_same (HC.out _))))
                refine wpQuiet_nil ?_
                intro _ hw'
                obtain ⟨nq, hw''⟩ := hw'
                subst hw''
                go_wp2_with fail
                go_ret
                exact FP.no HN.out (bel2 (bel1 _ _) (belN _ _))
            · have fs : (s.toList == []) = false := by simpa using hs
              have HN : Hid (¬ FitsB 1 x b b' s n) := fits_no_s (by decide) hs
              clear hs
              repeat (go_big_quiet_step (first | (go_at_call 101; exact Calls.quiet_of_same (HC.out _))))
              refine wpQuiet_nil ?_
              intro _ hw'
              obtain ⟨nq, hw''⟩ := hw'
              subst hw''
              go_wp2_with fail
              go_ret
              exact FP.no HN.out (bel2 (bel1 _ _) (belN _ _))
          · have hc' : ¬ (b' : Int) = (b : Int) := by omega
            have fc : ((b' : Int) == (b : Int)) = false := by simpa using hc'
            have HN : Hid (¬ FitsB 1 x b b' s n) := fits_no_c hc
            clear hc hc'
            repeat (go_big_quiet_step (first | (go_at_call 101; exact Calls.quiet_of_same (HC.out _))))
            refine wpQuiet_nil ?_
            intro _ hw'
            obtain ⟨nq, hw''⟩ := hw'
            subst hw''
            go_wp2_with fail
            go_ret
            exact FP.no HN.out (bel2 (bel1 _ _) (belN _ _))
        · have fb : ((b : Int) == 0) = false := by simpa using hb
          have HN : Hid (¬ FitsB 1 x b b' s n) := fits_no_b (by omega) hb
          clear hb
          repeat (go_big_quiet_step (first | (go_at_call 101; exact Calls.quiet_of_same (HC.out _))))
          refine wpQuiet_nil ?_
          intro _ hw'
          obtain ⟨nq, hw''⟩ := hw'
          subst hw''
          go_wp2_with fail
          go_ret
          exact FP.no HN.out (bel2 (bel1 _ _) (belN _ _))
      · by_cases hx : x = 0
        · have fx : (x == 0) = true := by simpa using hx
          have Hx : Hid (x = 0) := hx
          clear hx
          by_cases hc : b' = b
          · have fc : ((b' : Int) == (b : Int)) = true := by simp [hc]
            have Hc : Hid (b' = b) := hc
            clear hc
            by_cases hs : s.toList = []
            · have fs : (s.toList == []) = true := by simpa using hs
              have Hs : Hid (s.toList = []) := hs
              clear hs
              by_cases hz : s.size ≤ 200
              · have fz : decide ((s.size : Int) ≤ 200) = true := decide_eq_true (by omega)
                have Hz : Hid (s.size ≤ 200) := hz
                clear hz
                by_cases hn : n = 0
                · have fn : ((n : Int) == 0) = true := by simpa using hn
                  have Hn : Hid (n = 0) := hn
                  clear hn
                  have fm : decide ((n : Int) ≤ 12) = true := decide_eq_true (by have := Hn.out; omega)
                  have HY : Hid (FitsB 2 x b b' s n) := fits_yes (by decide) (by decide) ((.inr Hx.out)) (.inl rfl) Hc.out ((.inr Hs.out)) Hz.out ((.inr Hn.out)) (Hn.out ▸ Nat.zero_le 12)
                  repeat (go_big_quiet_step (first | (go_at_call 101; exact Calls.quiet_of_same (HC.out _))))
                  refine wpQuiet_nil ?_
                  intro _ hw'
                  obtain ⟨nq, hw''⟩ := hw'
                  subst hw''
                  go_wp2_with fail
                  go_ret
                  exact FP.yes HY.out (bel2 (bel1 _ _) (belN _ _))
                · have fn : ((n : Int) == 0) = false := by simpa using hn
                  have HN : Hid (¬ FitsB 2 x b b' s n) := fits_no_n (by omega) hn
                  clear hn
                  repeat (go_big_quiet_step (first | (go_at_call 101; exact Calls.quiet_of_same (HC.out _))))
                  refine wpQuiet_nil ?_
                  intro _ hw'
                  obtain ⟨nq, hw''⟩ := hw'
                  subst hw''
                  go_wp2_with fail
                  go_ret
                  exact FP.no HN.out (bel2 (bel1 _ _) (belN _ _))
              · have fz : decide ((s.size : Int) ≤ 200) = false := decide_eq_false (by omega)
                have HN : Hid (¬ FitsB 2 x b b' s n) := fits_no_z hz
                clear hz
                repeat (go_big_quiet_step (first | (go_at_call 101; exact Calls.quiet_of_same (HC.out _))))
                refine wpQuiet_nil ?_
                intro _ hw'
                obtain ⟨nq, hw''⟩ := hw'
                subst hw''
                go_wp2_with fail
                go_ret
                exact FP.no HN.out (bel2 (bel1 _ _) (belN _ _))
            · have fs : (s.toList == []) = false := by simpa using hs
              have HN : Hid (¬ FitsB 2 x b b' s n) := fits_no_s (by decide) hs
              clear hs
              repeat (go_big_quiet_step (first | (go_at_call 101; exact Calls.quiet_of_same (HC.out _))))
              refine wpQuiet_nil ?_
              intro _ hw'
              obtain ⟨nq, hw''⟩ := hw'
              subst hw''
              go_wp2_with fail
              go_ret
              exact FP.no HN.out (bel2 (bel1 _ _) (belN _ _))
          · have hc' : ¬ (b' : Int) = (b : Int) := by omega
            have fc : ((b' : Int) == (b : Int)) = false := by simpa using hc'
            have HN : Hid (¬ FitsB 2 x b b' s n) := fits_no_c hc
            clear hc hc'
            repeat (go_big_quiet_step (first | (go_at_call 101; exact Calls.quiet_of_same (HC.out _))))
            refine wpQuiet_nil ?_
            intro _ hw'
            obtain ⟨nq, hw''⟩ := hw'
            subst hw''
            go_wp2_with fail
            go_ret
            exact FP.no HN.out (bel2 (bel1 _ _) (belN _ _))
        · have fx : (x == 0) = false := by simpa using hx
          have HN : Hid (¬ FitsB 2 x b b' s n) := fits_no_x (by omega) hx
          clear hx
          repeat (go_big_quiet_step (first | (go_at_call 101; exact Calls.quiet_of_same (HC.out _))))
          refine wpQuiet_nil ?_
          intro _ hw'
          obtain ⟨nq, hw''⟩ := hw'
          subst hw''
          go_wp2_with fail
          go_ret
          exact FP.no HN.out (bel2 (bel1 _ _) (belN _ _))
      · by_cases hx : x = 0
        · have fx : (x == 0) = true := by simpa using hx
          have Hx : Hid (x = 0) := hx
          clear hx
          by_cases hb : b = 0
          · have fb : ((b : Int) == 0) = true := by simpa using hb
            have Hb : Hid (b = 0) := hb
            clear hb
            by_cases hc : b' = b
            · have fc : ((b' : Int) == (b : Int)) = true := by simp [hc]
              have Hc : Hid (b' = b) := hc
              clear hc
              by_cases hz : s.size ≤ 200
              · have fz : decide ((s.size : Int) ≤ 200) = true := decide_eq_true (by omega)
                have Hz : Hid (s.size ≤ 200) := hz
                clear hz
                by_cases hn : n = 0
                · have fn : ((n : Int) == 0) = true := by simpa using hn
                  have Hn : Hid (n = 0) := hn
                  clear hn
                  have fm : decide ((n : Int) ≤ 12) = true := decide_eq_true (by have := Hn.out; omega)
                  have HY : Hid (FitsB 3 x b b' s n) := fits_yes (by decide) (by decide) ((.inr Hx.out)) ((.inr Hb.out)) Hc.out (.inl rfl) Hz.out ((.inr Hn.out)) (Hn.out ▸ Nat.zero_le 12)
                  repeat (go_big_quiet_step (first | (go_at_call 101; exact Calls.quiet_of_same (HC.out _))))
                  refine wpQuiet_nil ?_
                  intro _ hw'
                  obtain ⟨nq, hw''⟩ := hw'
                  subst hw''
                  go_wp2_with fail
                  go_ret
                  exact FP.yes HY.out (bel2 (bel1 _ _) (belN _ _))
                · have fn : ((n : Int) == 0) = false := by simpa using hn
                  have HN : Hid (¬ FitsB 3 x b b' s n) := fits_no_n (by omega) hn
                  clear hn
                  repeat (go_big_quiet_step (first | (go_at_call 101; exact Calls.quiet_of_same (HC.out _))))
                  refine wpQuiet_nil ?_
                  intro _ hw'
                  obtain ⟨nq, hw''⟩ := hw'
                  subst hw''
                  go_wp2_with fail
                  go_ret
                  exact FP.no HN.out (bel2 (bel1 _ _) (belN _ _))
              · have fz : decide ((s.size : Int) ≤ 200) = false := decide_eq_false (by omega)
                have HN : Hid (¬ FitsB 3 x b b' s n) := fits_no_z hz
                clear hz
                repeat (go_big_quiet_step (first | (go_at_call 101; exact Calls.quiet_of_same (HC.out _))))
                refine wpQuiet_nil ?_
                intro _ hw'
                obtain ⟨nq, hw''⟩ := hw'
                subst hw''
                go_wp2_with fail
                go_ret
                exact FP.no HN.out (bel2 (bel1 _ _) (belN _ _))
            · have hc' : ¬ (b' : Int) = (b : Int) := by omega
              have fc : ((b' : Int) == (b : Int)) = false := by simpa using hc'
              have HN : Hid (¬ FitsB 3 x b b' s n) := fits_no_c hc
              clear hc hc'
              repeat (go_big_quiet_step (first | (go_at_call 101; exact Calls.quiet_of_same (HC.out _))))
              refine wpQuiet_nil ?_
              intro _ hw'
              obtain ⟨nq, hw''⟩ := hw'
              subst hw''
              go_wp2_with fail
              go_ret
              exact FP.no HN.out (bel2 (bel1 _ _) (belN _ _))
          · have fb : ((b : Int) == 0) = false := by simpa using hb
            have HN : Hid (¬ FitsB 3 x b b' s n) := fits_no_b (by omega) hb
            clear hb
            repeat (go_big_quiet_step (first | (go_at_call 101; exact Calls.quiet_of_same (HC.out _))))
            refine wpQuiet_nil ?_
            intro _ hw'
            obtain ⟨nq, hw''⟩ := hw'
            subst hw''
            go_wp2_with fail
            go_ret
            exact FP.no HN.out (bel2 (bel1 _ _) (belN _ _))
        · have fx : (x == 0) = false := by simpa using hx
          have HN : Hid (¬ FitsB 3 x b b' s n) := fits_no_x (by omega) hx
          clear hx
          repeat (go_big_quiet_step (first | (go_at_call 101; exact Calls.quiet_of_same (HC.out _))))
          refine wpQuiet_nil ?_
          intro _ hw'
          obtain ⟨nq, hw''⟩ := hw'
          subst hw''
          go_wp2_with fail
          go_ret
          exact FP.no HN.out (bel2 (bel1 _ _) (belN _ _))
      · by_cases hx : x = 0
        · have fx : (x == 0) = true := by simpa using hx
          have Hx : Hid (x = 0) := hx
          clear hx
          by_cases hb : b = 0
          · have fb : ((b : Int) == 0) = true := by simpa using hb
            have Hb : Hid (b = 0) := hb
            clear hb
            by_cases hc : b' = b
            · have fc : ((b' : Int) == (b : Int)) = true := by simp [hc]
              have Hc : Hid (b' = b) := hc
              clear hc
              by_cases hs : s.toList = []
              · have fs : (s.toList == []) = true := by simpa using hs
                have Hs : Hid (s.toList = []) := hs
                clear hs
                by_cases hz : s.size ≤ 200
                · have fz : decide ((s.size : Int) ≤ 200) = true := decide_eq_true (by omega)
                  have Hz : Hid (s.size ≤ 200) := hz
                  clear hz
                  by_cases hm : n ≤ 12
                  · have fm : decide ((n : Int) ≤ 12) = true := decide_eq_true (by omega)
                    have Hm : Hid (n ≤ 12) := hm
                    clear hm
                    have HY : Hid (FitsB 4 x b b' s n) := fits_yes (by decide) (by decide) ((.inr Hx.out)) ((.inr Hb.out)) Hc.out ((.inr Hs.out)) Hz.out (.inl rfl) Hm.out
                    repeat (go_big_quiet_step (first | (go_at_call 101; exact Calls.quiet_of_same (HC.out _))))
                    refine wpQuiet_nil ?_
                    intro _ hw'
                    obtain ⟨nq, hw''⟩ := hw'
                    subst hw''
                    go_wp2_with fail
                    go_ret
                    exact FP.yes HY.out (bel2 (bel1 _ _) (belN _ _))
                  · have fm : decide ((n : Int) ≤ 12) = false := decide_eq_false (by omega)
                    have HN : Hid (¬ FitsB 4 x b b' s n) := fits_no_m hm
                    clear hm
                    repeat (go_big_quiet_step (first | (go_at_call 101; exact Calls.quiet_of_same (HC.out _))))
                    refine wpQuiet_nil ?_
                    intro _ hw'
                    obtain ⟨nq, hw''⟩ := hw'
                    subst hw''
                    go_wp2_with fail
                    go_ret
                    exact FP.no HN.out (bel2 (bel1 _ _) (belN _ _))
                · have fz : decide ((s.size : Int) ≤ 200) = false := decide_eq_false (by omega)
                  have HN : Hid (¬ FitsB 4 x b b' s n) := fits_no_z hz
                  clear hz
                  repeat (go_big_quiet_step (first | (go_at_call 101; exact Calls.quiet_of_same (HC.out _))))
                  refine wpQuiet_nil ?_
                  intro _ hw'
                  obtain ⟨nq, hw''⟩ := hw'
                  subst hw''
                  go_wp2_with fail
                  go_ret
                  exact FP.no HN.out (bel2 (bel1 _ _) (belN _ _))
              · have fs : (s.toList == []) = false := by simpa using hs
                have HN : Hid (¬ FitsB 4 x b b' s n) := fits_no_s (by decide) hs
                clear hs
                repeat (go_big_quiet_step (first | (go_at_call 101; exact Calls.quiet_of_same (HC.out _))))
                refine wpQuiet_nil ?_
                intro _ hw'
                obtain ⟨nq, hw''⟩ := hw'
                subst hw''
                go_wp2_with fail
                go_ret
                exact FP.no HN.out (bel2 (bel1 _ _) (belN _ _))
            · have hc' : ¬ (b' : Int) = (b : Int) := by omega
              have fc : ((b' : Int) == (b : Int)) = false := by simpa using hc'
              have HN : Hid (¬ FitsB 4 x b b' s n) := fits_no_c hc
              clear hc hc'
              repeat (go_big_quiet_step (first | (go_at_call 101; exact Calls.quiet_of_same (HC.out _))))
              refine wpQuiet_nil ?_
              intro _ hw'
              obtain ⟨nq, hw''⟩ := hw'
              subst hw''
              go_wp2_with fail
              go_ret
              exact FP.no HN.out (bel2 (bel1 _ _) (belN _ _))
          · have fb : ((b : Int) == 0) = false := by simpa using hb
            have HN : Hid (¬ FitsB 4 x b b' s n) := fits_no_b (by omega) hb
            clear hb
            repeat (go_big_quiet_step (first | (go_at_call 101; exact Calls.quiet_of_same (HC.out _))))
            refine wpQuiet_nil ?_
            intro _ hw'
            obtain ⟨nq, hw''⟩ := hw'
            subst hw''
            go_wp2_with fail
            go_ret
            exact FP.no HN.out (bel2 (bel1 _ _) (belN _ _))
        · have fx : (x == 0) = false := by simpa using hx
          have HN : Hid (¬ FitsB 4 x b b' s n) := fits_no_x (by omega) hx
          clear hx
          repeat (go_big_quiet_step (first | (go_at_call 101; exact Calls.quiet_of_same (HC.out _))))
          refine wpQuiet_nil ?_
          intro _ hw'
          obtain ⟨nq, hw''⟩ := hw'
          subst hw''
          go_wp2_with fail
          go_ret
          exact FP.no HN.out (bel2 (bel1 _ _) (belN _ _))
    · have c4 : decide (k ≤ 4) = false := decide_eq_false k4
      have HN : Hid (¬ FitsB k x b b' s n) := fits_no_h k4
      repeat (go_big_quiet_step (first | (go_at_call 101; exact Calls.quiet_of_same (HC.out _))))
      refine wpQuiet_nil ?_
      intro _ hw'
      obtain ⟨nq, hw''⟩ := hw'
      subst hw''
      go_wp2_with fail
      go_ret
      exact FP.no HN.out (bel2 (bel1 _ _) (belN _ _))
  · have c0 : decide (0 ≤ k) = false := decide_eq_false k0
    have HN : Hid (¬ FitsB k x b b' s n) := fits_no_l k0
    repeat (go_big_quiet_step (first | (go_at_call 101; exact Calls.quiet_of_same (HC.out _))))
    refine wpQuiet_nil ?_
    intro _ hw'
    obtain ⟨nq, hw''⟩ := hw'
    subst hw''
    go_wp2_with fail
    go_ret
    exact FP.no HN.out (bel2 (bel1 _ _) (belN _ _))
/-- A value's own fields may be. -/
def Fits (k x b : Int) (s : ByteArray) (n : Nat) : Prop := FitsB k x b.toNat (cn b.toNat) s n
theorem fits_calls (k x b : Int) (s : ByteArray) (a : Option Addr) (n c : Nat) (w : World) (hf : Fit k x b s n c) :
    Calls Try.prog 96 #[.agg #[.int .i64 k, .int .i64 x, .int .u64 b, .string s, .slice a n c]] w (FP (Fits k x b s n) w) := by
  obtain ⟨b, rfl⟩ : ∃ m : Nat, b = m := ⟨b.toNat, by have := hf.b0; omega⟩
  unfold Fits
  rw [Int.toNat_natCast]
  exact fits_all k x s a n c w b (cn b) (canon_calls b)
end Go.Proofs.Ytjmonkhkcmcfiaa
