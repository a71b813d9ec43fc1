/- The walks of NamesReads and NamesBack. -/
import Derived.Test.YtglnklghhjdjbaaDoorI
namespace Go.Proofs.YtglnklghhjdjbaaDoor
open Go.ChangeShapes Go.WideShapes Go.ChangeAt Go.RowKit
theorem row_form (k : ByteArray) : ∃ s b, rowV k = .tuple #[.string s, .bool b] := by
  unfold rowV
  split
  · exact ⟨_, _, rfl⟩
  · exact ⟨_, _, rfl⟩
theorem says_form {k : ByteArray} {v : Value} (h : Says k v) : ∃ (f : ByteArray) (r : Nat) (b : Bool), v = .tuple #[.string f, .int .i64 (r : Int), .bool b] := by
  rcases h with ⟨f, r, _, rfl⟩ | ⟨_, rfl⟩
  · exact ⟨f, r, true, rfl⟩
  · exact ⟨⟨#[]⟩, 0, false, rfl⟩
theorem reads_walk (k : ByteArray) (hk : k.size ≤ 140737488351232) (w : World) : Calls Tryd.prog 5 #[.string k] w fun e w' => e = .returned (.bool true) ∧ Below w.heap.size w w' := by
  have C1 : Hid (Calls _ _ _ _ _) := prow_calls k w
  have C2 : Hid (Calls _ _ _ _ _) := rprow_calls k w
  obtain ⟨s, b, hf⟩ := row_form k
  rw [hf] at C1 C2
  have C3 : Hid (Calls _ _ _ _ _) := parse_calls k hk w
  have C4 : Hid (∀ w, Calls Tryd.prog 19 #[.string k] w fun e w' => ∃ v, e = .returned v ∧ Says k v ∧ Below w.heap.size w w') := rparse_calls k hk
  clear hf hk
  go_enter Tryd.func5, Tryd.ntmps5
  go_wp2_with fail
  refine Calls.mono C1.out ?_
  rintro e w9 ⟨rfl, hw1⟩
  have hw2 := hw1.symm
  subst hw2
  go_wp2_with fail
  refine Calls.mono C2.out ?_
  rintro e w9 ⟨rfl, hw1⟩
  have hw2 := hw1.symm
  subst hw2
  go_wp2_with fail
  refine Calls.mono C3.out ?_
  rintro e w1 ⟨v, rfl, hs1, b1⟩
  obtain ⟨f, r, c, rfl⟩ := says_form hs1
  have HS : Hid (Says k _) := hs1
  have B1 : Hid (Below w.heap.size w w1) := b1
  clear b1 hs1
  go_wp2_with fail
  refine Calls.mono (C4.out _) ?_
  rintro e w2 ⟨v, rfl, hs2, b2⟩
  have e2 := HS.out.same hs2
  subst e2
  have B2 : Hid (Below w.heap.size w w2) := below_step B1.out b2
  clear b2 hs2 HS
  go_wp2_with fail
  refine Calls.mono (awake_calls _) ?_
  rintro e w9 ⟨rfl, hw1⟩
  have hw2 := hw1.symm
  subst hw2
  go_wp2
  go_ret
  exact ⟨rfl, B2.out⟩
theorem row_of (f : ByteArray) (h : nmB f = true) : rowV (⟨#[119, 47]⟩ ++ f) = .tuple #[.string f, .bool true] := by
  have hl : tl ((⟨#[119, 47]⟩ : ByteArray) ++ f) = 119 :: 47 :: tl f := by rw [tl_append]; rfl
  have hsz : ((⟨#[119, 47]⟩ : ByteArray) ++ f).size = 2 + f.size := by
    rw [← tl_len, hl, ← tl_len]
    simp
    omega
  have he : ((⟨#[119, 47]⟩ : ByteArray) ++ f).extract 2 ((⟨#[119, 47]⟩ : ByteArray) ++ f).size = f := by
    apply tl_inj
    rw [extract_two, hl]
    rfl
  unfold rowV isRow
  rw [he, h, decide_eq_true (show 2 ≤ ((⟨#[119, 47]⟩ : ByteArray) ++ f).size by omega), decide_eq_true (show (tl ((⟨#[119, 47]⟩ : ByteArray) ++ f)).take 2 = [119, 47] by rw [hl]; rfl)]
  rfl
theorem row_br (f : ByteArray) (r : Nat) : rowV (br f r) = .tuple #[.string ⟨#[]⟩, .bool false] := by
  unfold rowV isRow
  rw [decide_eq_false (show ¬ (tl (br f r)).take 2 = [119, 47] by rw [tl_br]; simp)]
  simp
theorem no_branch (f : ByteArray) {v : Value} (h : Says (⟨#[119, 47]⟩ ++ f) v) : v = .tuple #[.string ⟨#[]⟩, .int .i64 0, .bool false] := by
  refine h.same (.inr ⟨fun g r hi => ?_, rfl⟩)
  have e : tl ((⟨#[119, 47]⟩ : ByteArray) ++ f) = 119 :: 47 :: tl f := by rw [tl_append]; rfl
  rw [hi.1, tl_br] at e
  simp at e
theorem br_size (f : ByteArray) (r : Nat) (h : r ≤ 10) : (br f r).size ≤ f.size + 5 := by
  rw [← tl_len, tl_br]
  have := dg_len 1 r (by omega)
  have := tl_len f
  simp
  omega
theorem back_no (f : ByteArray) (hn : nmB f = false) (a : Int) (w : World) : Calls Tryd.prog 6 #[.string f, .int .i64 a] w fun e w' => e = .returned (.bool true) ∧ Below w.heap.size w w' := by
  have C1 : Hid (Calls _ _ _ _ _) := name_calls f w
  rw [hn] at C1
  clear hn
  go_enter Tryd.func6, Tryd.ntmps6
  go_wp2_with fail
  refine Calls.mono C1.out ?_
  rintro e w9 ⟨rfl, hw1⟩
  have hw2 := hw1.symm
  subst hw2
  go_wp2_with fail
  refine Calls.mono (awake_calls _) ?_
  rintro e w9 ⟨rfl, hw1⟩
  have hw2 := hw1.symm
  subst hw2
  go_wp2
  go_ret
  exact ⟨rfl, Below.refl _ _⟩
theorem run_val (a : Int) : ∃ r : Nat, 1 ≤ r ∧ r ≤ 10 ∧ wrap64 (1 + wrap64 ((IntKind.u64.wrap a).tmod 10)) = (r : Int) := by
  have h0 : 0 ≤ IntKind.u64.wrap a := by rw [IntKind.wrap_u64]; omega
  rw [Int.tmod_eq_emod_of_nonneg h0]
  generalize IntKind.u64.wrap a = q
  refine ⟨(1 + q % 10).toNat, by omega, by omega, ?_⟩
  unfold wrap64
  omega
theorem no_slash (f : ByteArray) (h : nmB f = true) : decide (0 ≤ Lib.indexByte f.data.toList 47) = false := by
  rcases idx_split (tl f) 47 with ⟨h1, _⟩ | ⟨a, b, h1, _, _⟩
  · rw [show Lib.indexByte f.data.toList 47 = -1 from h1]
    rfl
  · exact absurd (h1 ▸ List.mem_append_right _ (List.mem_cons_self ..)) (nm_slash h)
theorem back_yes (f : ByteArray) (hn : nmB f = true) (a : Int) (w : World) : Calls Tryd.prog 6 #[.string f, .int .i64 a] w fun e w' => e = .returned (.bool true) ∧ Below w.heap.size w w' := by
  have C1 : Hid (Calls _ _ _ _ _) := name_calls f w
  rw [hn] at C1
  have hsz := (nm_parts hn).2.1
  obtain ⟨r, r1, r2, hr⟩ := run_val a
  have C2 : Hid (Calls _ _ _ _ _) := row_calls f (by omega) w
  have C3 : Hid (Calls _ _ _ _ _) := branch_small f (by omega) r (by omega) w
  have C4 : Hid (Calls _ _ _ _ _) := prow_calls (⟨#[119, 47]⟩ ++ f) w
  rw [row_of f hn] at C4
  have hx : ((⟨#[119, 47]⟩ : ByteArray) ++ f).size = 2 + f.size := by rw [ByteArray.size_append]; rfl
  have hy := br_size f r r2
  have C5 : Hid (Calls _ _ _ _ _) := parse_calls (br f r) (by omega) w
  have HI : Hid (∀ v, Says (br f r) v → v = .tuple #[.string f, .int .i64 (r : Int), .bool true]) := fun v h => h.same (.inl ⟨f, r, ⟨rfl, hn, r1, r2⟩, rfl⟩)
  have C6 : Hid (∀ w, Calls Tryd.prog 16 #[.string (br f r)] w fun e w' => e = .returned (.tuple #[.string ⟨#[]⟩, .bool false]) ∧ w' = w) := fun w => row_br f r ▸ prow_calls (br f r) w
  have C7 : Hid (∀ w, Calls Tryd.prog 18 #[.string (⟨#[119, 47]⟩ ++ f)] w fun e w' => ∃ v, e = .returned v ∧ Says (⟨#[119, 47]⟩ ++ f) v ∧ Below w.heap.size w w') := fun w => parse_calls _ (by omega) w
  have HJ : Hid (∀ v, Says (⟨#[119, 47]⟩ ++ f) v → v = .tuple #[.string ⟨#[]⟩, .int .i64 0, .bool false]) := fun v h => no_branch f h
  have C8 : Hid (∀ w, Calls Tryd.prog 20 #[.string f, .string ⟨#[47]⟩] w fun e w' => e = .returned (.bool false) ∧ w' = w) := fun w => no_slash f hn ▸ Tryd.strings_Contains_one f 47 w
  have kx : decide (((⟨#[119, 47]⟩ : ByteArray) ++ f).size ≤ 64) = true := decide_eq_true (by omega)
  have ky : decide ((br f r).size ≤ 64) = true := decide_eq_true (by omega)
  have kx2 : ((⟨#[119, 47]⟩ : ByteArray) ++ f).size ≤ 64 := by omega
  have ky2 : (br f r).size ≤ 64 := by omega
  clear hn hy hx hsz
  generalize br f r = y at *
  generalize (⟨#[119, 47]⟩ : ByteArray) ++ f = x at *
  go_enter Tryd.func6, Tryd.ntmps6
  go_wp2_with fail
  refine Calls.mono C1.out ?_
  rintro e w9 ⟨rfl, hw1⟩
  have hw2 := hw1.symm
  subst hw2
  go_wp2_with fail
  refine Calls.mono C2.out ?_
  rintro e w9 ⟨rfl, hw1⟩
  have hw2 := hw1.symm
  subst hw2
  go_wp2_with fail
  refine Calls.mono C3.out ?_
  rintro e w9 ⟨rfl, hw1⟩
  have hw2 := hw1.symm
  subst hw2
  go_wp2_with fail
  refine Calls.mono C4.out ?_
  rintro e w9 ⟨rfl, hw1⟩
  have hw2 := hw1.symm
  subst hw2
  go_wp2_with fail
  refine Calls.mono C5.out ?_
  rintro e w1 ⟨v, rfl, hs1, b1⟩
  have e1 := HI.out v hs1
  subst e1
  have B1 : Hid (Below w.heap.size w w1) := b1
  clear b1 hs1
  go_wp2_with fail
  refine Calls.mono (C6.out _) ?_
  rintro e w9 ⟨rfl, hw1⟩
  have hw2 := hw1.symm
  subst hw2
  go_wp2_with fail
  refine Calls.mono (C7.out _) ?_
  rintro e w2 ⟨v, rfl, hs1, b1⟩
  have e1 := HJ.out v hs1
  subst e1
  have B2 : Hid (Below w.heap.size w w2) := below_step B1.out b1
  clear b1 hs1
  go_wp2_with fail
  refine Calls.mono (C8.out _) ?_
  rintro e w9 ⟨rfl, hw1⟩
  have hw2 := hw1.symm
  subst hw2
  go_wp2_with fail
  refine Calls.mono (awake_calls _) ?_
  rintro e w9 ⟨rfl, hw1⟩
  have hw2 := hw1.symm
  subst hw2
  go_wp2
  go_ret
  exact ⟨rfl, B2.out⟩
theorem back_walk (f : ByteArray) (a : Int) (w : World) : Calls Tryd.prog 6 #[.string f, .int .i64 a] w fun e w' => e = .returned (.bool true) ∧ Below w.heap.size w w' := by
  cases hn : nmB f with
  | true => exact back_yes f hn a w
  | false => exact back_no f hn a w
end Go.Proofs.YtglnklghhjdjbaaDoor
