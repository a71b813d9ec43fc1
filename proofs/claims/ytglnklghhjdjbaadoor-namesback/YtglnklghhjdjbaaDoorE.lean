/- The contracts of ParseRow in both texts, of Cut at a stroke, and of runOf. -/
import Derived.Test.YtglnklghhjdjbaaDoorD
import Derived.Shelf.RegionOpenPlain
import Derived.Deep.Draws
import Derived.OwnWalk
namespace Go.Proofs.YtglnklghhjdjbaaDoor
open Go.ChangeShapes Go.WideShapes Go.ChangeAt Go.RowKit
theorem cutp_calls (k : ByteArray) (a b : UInt8) (w : World) : Calls Tryd.prog 25 #[.string k, .string ⟨#[a, b]⟩] w fun e w' => e = .returned (.tuple #[.string (sb (Lib.trimPrefix (tl k) [a, b])), .bool (Lib.hasPrefix (tl k) [a, b])]) ∧ w' = w :=
  Tryd.strings_CutPrefix k ⟨#[a, b]⟩ w
theorem prow_calls (k : ByteArray) (w : World) : Calls Tryd.prog 16 #[.string k] w fun e w' => e = .returned (rowV k) ∧ w' = w := by
  have C1 : Hid (Calls _ _ _ _ _) := cutp_calls k 119 47 w
  cases hp : Lib.hasPrefix (tl k) [119, 47] with
  | false =>
    have hv : rowV k = .tuple #[.string ⟨#[]⟩, .bool false] := by
      unfold rowV
      have : isRow k = false := by
        unfold isRow
        rw [Bool.eq_false_iff]
        intro h
        simp only [Bool.and_eq_true, decide_eq_true_eq] at h
        have := (pre_two (tl k) 119 47).2 ⟨h.1.1, h.1.2⟩
        rw [hp] at this
        cases this
      rw [this]
      rfl
    rw [hp] at C1
    rw [hv]
    go_enter Tryd.func16, Tryd.ntmps16
    go_wp2_with fail
    refine Calls.mono C1.out ?_
    rintro e w1 ⟨rfl, hw1⟩
    have hw2 := hw1.symm
    subst hw2
    go_wp2
    go_ret2
    exact ⟨rfl, rfl⟩
  | true =>
    have h2 := (pre_two (tl k) 119 47).1 hp
    have he : sb (Lib.trimPrefix (tl k) [119, 47]) = k.extract 2 k.size := by
      rw [trim_two _ _ _ hp]
      apply tl_inj
      rw [tl_sb, extract_two]
    have hr : isRow k = nmB (k.extract 2 k.size) := by
      unfold isRow
      rw [decide_eq_true h2.2, decide_eq_true (show 2 ≤ k.size from h2.1)]
      rfl
    rw [hp, he] at C1
    have C2 : Hid (Calls _ _ _ _ _) := name_calls (k.extract 2 k.size) w
    unfold rowV
    rw [hr]
    clear hp h2 he hr
    generalize k.extract 2 k.size = f at C1 C2
    cases hn : nmB f with
    | true =>
      rw [hn] at C2
      clear hn
      go_enter Tryd.func16, Tryd.ntmps16
      go_wp2_with fail
      refine Calls.mono C1.out ?_
      rintro e w1 ⟨rfl, hw1⟩
      have hw2 := hw1.symm
      subst hw2
      go_wp2_with fail
      refine Calls.mono C2.out ?_
      rintro e w1 ⟨rfl, hw1⟩
      have hw2 := hw1.symm
      subst hw2
      go_wp2
      go_ret2
      exact ⟨rfl, rfl⟩
    | false =>
      rw [hn] at C2
      clear hn
      go_enter Tryd.func16, Tryd.ntmps16
      go_wp2_with fail
      refine Calls.mono C1.out ?_
      rintro e w1 ⟨rfl, hw1⟩
      have hw2 := hw1.symm
      subst hw2
      go_wp2_with fail
      refine Calls.mono C2.out ?_
      rintro e w1 ⟨rfl, hw1⟩
      have hw2 := hw1.symm
      subst hw2
      go_wp2
      go_ret2
      exact ⟨rfl, rfl⟩
theorem rprow_calls (k : ByteArray) (w : World) : Calls Tryd.prog 17 #[.string k] w fun e w' => e = .returned (rowV k) ∧ w' = w := by
  by_cases h1 : k.size < 2
  · have hv : rowV k = .tuple #[.string ⟨#[]⟩, .bool false] := by
      unfold rowV isRow
      rw [decide_eq_false (by omega)]
      rfl
    rw [hv]
    have d1 : decide ((k.size : Int) < 2) = true := decide_eq_true (by omega)
    go_enter Tryd.func17, Tryd.ntmps17
    go_wp2
    go_ret2
    exact ⟨rfl, rfl⟩
  have d1 : decide ((k.size : Int) < 2) = false := decide_eq_false (by omega)
  have g1 : 2 ≤ k.size := by omega
  have ex : (k.extract 0 2).toList = (tl k).take 2 := by
    have h := tl_extract k 0 2
    rw [List.drop_zero] at h
    rw [← h]
    exact Lib.toList_data _
  by_cases h2 : (tl k).take 2 = [119, 47]
  · have e2 : ((k.extract 0 2).toList == [119, 47]) = true := by rw [ex, h2]; rfl
    have hr : isRow k = nmB (k.extract 2 k.size) := by
      unfold isRow
      rw [decide_eq_true h2, decide_eq_true g1]
      rfl
    have C2 : Hid (Calls _ _ _ _ _) := rname_calls (k.extract 2 k.size) w
    unfold rowV
    rw [hr]
    clear hr h2 ex h1
    cases hn : nmB (k.extract 2 k.size) with
    | true =>
      rw [hn] at C2
      clear hn
      go_enter Tryd.func17, Tryd.ntmps17
      go_wp2_with fail
      refine Calls.mono C2.out ?_
      rintro e w1 ⟨rfl, hw1⟩
      have hw2 := hw1.symm
      subst hw2
      go_wp2
      go_ret2
      exact ⟨rfl, rfl⟩
    | false =>
      rw [hn] at C2
      clear hn
      go_enter Tryd.func17, Tryd.ntmps17
      go_wp2_with fail
      refine Calls.mono C2.out ?_
      rintro e w1 ⟨rfl, hw1⟩
      have hw2 := hw1.symm
      subst hw2
      go_wp2
      go_ret2
      exact ⟨rfl, rfl⟩
  · have e2 : ((k.extract 0 2).toList == [119, 47]) = false := by rw [ex]; simpa using h2
    have hv : rowV k = .tuple #[.string ⟨#[]⟩, .bool false] := by
      unfold rowV isRow
      rw [decide_eq_false h2]
      simp
    rw [hv]
    clear hv h2 ex h1
    go_enter Tryd.func17, Tryd.ntmps17
    go_wp2
    go_ret2
    exact ⟨rfl, rfl⟩
theorem mixedOrders : Tryd.prog.follows Departure.mixedOrders = true := by kernel_rfl
theorem cut_hit (s : ByteArray) (hs : s.size ≤ 140737488351232) (i : Nat) (hi : i < s.size) (hx : Lib.indexByte (tl s) 47 = (i : Int)) (w : World) : Calls Tryd.prog 33 #[.string s, .string ⟨#[47]⟩] w fun e w' => e = .returned (.tuple #[.string (s.extract 0 i), .string (s.extract (i + 1) s.size), .bool true]) ∧ ∃ n, w' = w.drewN n := by
  have C1 : Hid (Calls _ _ _ _ _) := Tryd.stringslite_Index_one s 47 w
  rw [show Lib.indexByte s.data.toList 47 = (i : Int) from hx] at C1
  clear hx
  have mixed := mixedOrders
  have c1 : (0 : Int) ≤ (i : Int) := by omega
  have c2 : (i : Int) ≤ (s.size : Int) := by omega
  have c3 : (0 : Int) ≤ (i : Int) + 1 := by omega
  have c4 : (i : Int) + 1 ≤ (s.size : Int) := by omega
  have hw : wrap64 ((i : Int) + 1) = (i : Int) + 1 := by unfold wrap64; omega
  have hw' : IntKind.i64.wrap ((i : Int) + 1) = (i : Int) + 1 := by rw [IntKind.wrap_i64]; omega
  clear hs
  go_enter Tryd.func33, Tryd.ntmps33
  go_wp2_with fail
  refine Calls.mono C1.out ?_
  rintro e w1 ⟨rfl, hw1⟩
  have hw2 := hw1.symm
  subst hw2
  go_wp2
  go_region_o
  go_wp2
  go_ret3
  exact ⟨rfl, 1, rfl⟩
theorem cut_miss (s : ByteArray) (hx : Lib.indexByte (tl s) 47 = -1) (w : World) : Calls Tryd.prog 33 #[.string s, .string ⟨#[47]⟩] w fun e w' => e = .returned (.tuple #[.string s, .string ⟨#[]⟩, .bool false]) ∧ ∃ n, w' = w.drewN n := by
  have C1 : Hid (Calls _ _ _ _ _) := Tryd.stringslite_Index_one s 47 w
  rw [show Lib.indexByte s.data.toList 47 = -1 from hx] at C1
  clear hx
  go_enter Tryd.func33, Tryd.ntmps33
  go_wp2_with fail
  refine Calls.mono C1.out ?_
  rintro e w1 ⟨rfl, hw1⟩
  have hw2 := hw1.symm
  subst hw2
  go_wp2
  go_ret3
  exact ⟨rfl, 0, rfl⟩
end Go.Proofs.YtglnklghhjdjbaaDoor
