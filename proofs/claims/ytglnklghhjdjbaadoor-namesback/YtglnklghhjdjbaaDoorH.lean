/- The walks of NamesSays and NamesKeys. -/
import Derived.Test.YtglnklghhjdjbaaDoorG
namespace Go.Proofs.YtglnklghhjdjbaaDoor
open Go.ChangeShapes Go.WideShapes Go.ChangeAt Go.RowKit
theorem text_calls (s : ByteArray) (w : World) : Calls Tryd.prog 9 #[.string s] w fun e w' => e = .returned (.bool (decide ((s.size : Int) ≤ 200))) ∧ w' = w := by
  go_enter Tryd.func9, Tryd.ntmps9
  go_wp2
  go_ret
  exact ⟨rfl, rfl⟩
theorem rtext_calls (s : ByteArray) (w : World) : Calls Tryd.prog 10 #[.string s] w fun e w' => e = .returned (.bool (decide ((s.size : Int) ≤ 200))) ∧ w' = w := by
  go_enter Tryd.func10, Tryd.ntmps10
  go_wp2
  go_ret
  exact ⟨rfl, rfl⟩
theorem says_walk (s : ByteArray) (w : World) : Calls Tryd.prog 3 #[.string s] w fun e w' => e = .returned (.bool true) ∧ Below w.heap.size w w' := by
  have C1 : Hid (Calls _ _ _ _ _) := name_calls s w
  have C2 : Hid (Calls _ _ _ _ _) := rname_calls s w
  have C3 : Hid (Calls _ _ _ _ _) := text_calls s w
  have C4 : Hid (Calls _ _ _ _ _) := rtext_calls s w
  have C5 : Hid (Calls _ _ _ _ _) := awake_calls w
  generalize nmB s = b at C1 C2
  generalize decide ((s.size : Int) ≤ 200) = b2 at C3 C4
  go_enter Tryd.func3, Tryd.ntmps3
  go_wp2_with fail
  refine Calls.mono C1.out ?_
  rintro e w1 ⟨rfl, hw1⟩
  have hw2 := hw1.symm
  subst hw2
  go_wp2_with fail
  refine Calls.mono C2.out ?_
  rintro e w1 ⟨rfl, hw1⟩
  have hw2 := hw1.symm
  subst hw2
  go_wp2_with fail
  refine Calls.mono C3.out ?_
  rintro e w1 ⟨rfl, hw1⟩
  have hw2 := hw1.symm
  subst hw2
  go_wp2_with fail
  refine Calls.mono C4.out ?_
  rintro e w1 ⟨rfl, hw1⟩
  have hw2 := hw1.symm
  subst hw2
  go_wp2_with fail
  refine Calls.mono C5.out ?_
  rintro e w1 ⟨rfl, hw1⟩
  have hw2 := hw1.symm
  subst hw2
  go_wp2
  go_ret
  exact ⟨rfl, Below.refl _ _⟩
theorem keys_walk (s : ByteArray) (hs : s.size ≤ 140737488351232) (m : Int) (hm : m < 9223372036854775808) (w : World) (ht : Tb w) : Calls Tryd.prog 4 #[.string s, .int .i64 m] w fun e w' => e = .returned (.bool true) ∧ Below w.heap.size w w' := by
  obtain ⟨n, hn⟩ := Int.eq_ofNat_of_zero_le (show 0 ≤ max m 0 by omega)
  have C1 : Hid (∀ w, Calls Tryd.prog 12 #[.string s] w fun e w' => e = .returned (.string (⟨#[119, 47]⟩ ++ s)) ∧ w' = w) := row_calls s hs
  have C2 : Hid (∀ w, Calls Tryd.prog 13 #[.string s] w fun e w' => e = .returned (.string (⟨#[119, 47]⟩ ++ s)) ∧ w' = w) := rrow_calls s hs
  have C3 : Hid (Calls _ _ _ _ _) := branch_calls s hs n (by omega) w ht m hn
  have C4 : Hid (∀ w, Calls Tryd.prog 15 #[.string s, .int .i64 m] w fun e w' => e = .returned (.string (br s n)) ∧ Below w.heap.size w w') := fun w => rbranch_calls s hs n (by omega) w m hn
  generalize (⟨#[119, 47]⟩ : ByteArray) ++ s = r at C1 C2
  generalize br s n = b at C3 C4
  clear ht hn hm hs
  go_enter Tryd.func4, Tryd.ntmps4
  go_wp2_with fail
  refine Calls.mono (C1.out _) ?_
  rintro e w1 ⟨rfl, hw1⟩
  have hw2 := hw1.symm
  subst hw2
  go_wp2_with fail
  refine Calls.mono (C2.out _) ?_
  rintro e w1 ⟨rfl, hw1⟩
  have hw2 := hw1.symm
  subst hw2
  go_wp2_with fail
  refine Calls.mono C3.out ?_
  rintro e w1 ⟨rfl, b1⟩
  have B1 : Hid (Below w.heap.size w w1) := b1
  clear b1
  go_wp2_with fail
  refine Calls.mono (C4.out _) ?_
  rintro e w2 ⟨rfl, b2⟩
  have B2 : Hid (Below w.heap.size w w2) := below_step B1.out b2
  clear b2 B1
  go_wp2_with fail
  refine Calls.mono (awake_calls _) ?_
  rintro e w1 ⟨rfl, hw1⟩
  have hw2 := hw1.symm
  subst hw2
  go_wp2
  go_ret
  exact ⟨rfl, B2.out⟩
end Go.Proofs.YtglnklghhjdjbaaDoor
