/- The contract of the reference's ParseBranch. -/
import Derived.Test.YtglnklghhjdjbaaDoorF
namespace Go.Proofs.YtglnklghhjdjbaaDoor
open Go.ChangeShapes Go.WideShapes Go.ChangeAt Go.RowKit
/-- The end of the key of a run. -/
def en (r : Nat) : ByteArray := ⟨#[47]⟩ ++ dg r
theorem tl_en (r : Nat) : tl (en r) = 47 :: Lib.decDigits r := by
  unfold en
  rw [tl_append, tl_dg]
  rfl
theorem en_size (r : Nat) (h : r ≤ 10) : (en r).size ≤ 3 := by
  rw [← tl_len, tl_en]
  have := dg_len 1 r (by omega)
  simp
  omega
theorem is_size {k f : ByteArray} {r : Nat} (h : Is k f r) : k.size = 2 + f.size + (en r).size := by
  rw [h.1, ← tl_len, tl_br, ← tl_len, ← tl_len, tl_en]
  simp
  omega
theorem is_end {k f : ByteArray} {r n : Nat} (h : Is k f r) (hn : n + (en r).size = k.size) : k.extract n k.size = en r ∧ (tl k).take 2 = [104, 47] ∧ k.extract 2 n = f := by
  have hs := is_size h
  have hl := tl_br f r
  rw [← h.1] at hl
  have hn2 : n = (tl f).length + 2 := by rw [tl_len]; omega
  refine ⟨?_, by rw [hl]; rfl, ?_⟩
  · apply tl_inj
    rw [tl_extract, ← tl_len, List.take_length, hl, tl_en, hn2]
    simp
  · apply tl_inj
    rw [tl_extract, hl, hn2]
    simp
theorem is_of {k : ByteArray} {r n : Nat} (h1 : 1 ≤ r) (h10 : r ≤ 10) (h2 : 2 ≤ n) (he : k.extract n k.size = en r) (hp : (tl k).take 2 = [104, 47]) (hm : nmB (k.extract 2 n) = true) : Is k (k.extract 2 n) r := by
  refine ⟨?_, hm, h1, h10⟩
  apply tl_inj
  rw [tl_br, tl_extract]
  have e1 := congrArg tl he
  rw [tl_extract, ← tl_len, List.take_length, tl_en] at e1
  have a1 := List.take_append_drop n (tl k)
  rw [e1] at a1
  have a2 := List.take_append_drop 2 ((tl k).take n)
  rw [List.take_take, Nat.min_eq_left h2, hp] at a2
  have a3 := a1.symm
  rw [← a2, List.append_assoc] at a3
  exact a3
theorem rparse_calls (k : ByteArray) (hk : k.size ≤ 140737488351232) (w : World) : Calls Tryd.prog 19 #[.string k] w fun e w' => ∃ v, e = .returned v ∧ Says k v ∧ Below w.heap.size w w' := by
  have HK : Hid (k.size ≤ 140737488351232) := hk
  clear hk
  go_enter Tryd.func19, Tryd.ntmps19
  go_wp2
  go_loopw [5] (fun i wr => ∃ j : Nat, 1 ≤ j ∧ j ≤ 11 ∧ i = .int .i64 j ∧ Hid (∀ q, q < j → ∀ f, ¬ Is k f q) ∧ Hid (Below w.heap.size w wr)) (fun i _ => 11 - (intOf i).toNat)
  case atStart => exact ⟨1, by omega, by omega, rfl, (fun q h f hi => by have := hi.2.2.1; omega), Below.refl _ _⟩
  case round =>
    obtain ⟨j, h1, hj, rfl, HG, HB⟩ := hrel
    by_cases hlt : j ≤ 10
    · have C1 : Hid (Calls _ _ _ _ _) := digits_calls j wr (by omega)
      have hds := dg_size j (by omega)
      have es := en_size j hlt
      have ee : (⟨#[47]⟩ : ByteArray) ++ dg j = en j := rfl
      have hk := HK.out
      have HN : Hid ((∀ f, ¬ Is k f j) → ∀ q, q < j + 1 → ∀ f, ¬ Is k f q) := by
        intro h q hq f
        by_cases e : q = j
        · subst e; exact h f
        · exact HG.out q (by omega) f
      by_cases hn : k.size < 2 + (en j).size
      · have HQ := HN.out (fun f hi => by have := is_size hi; omega)
        have HQ2 : Hid (∀ q, q < j + 1 → ∀ f, ¬ Is k f q) := HQ
        have hw : wrap64 ((k.size : Int) - ((en j).size : Int)) = (k.size : Int) - ((en j).size : Int) := by unfold wrap64; omega
        have d0 : decide (2 ≤ (k.size : Int) - ((en j).size : Int)) = false := decide_eq_false (by omega)
        clear HQ HN hn
        generalize en j = z at *
        go_wp2_with fail
        refine Calls.mono C1.out ?_
        rintro e w1 ⟨rfl, b1⟩
        have HB1 : Hid (Below w.heap.size w w1) := below_step HB.out b1
        clear b1
        go_wp2
        go_roundw
        case rel => exact ⟨j + 1, by omega, by omega, rfl, HQ2, HB1⟩
        case measure => simp [intOf]; omega
      · obtain ⟨n, hn2⟩ : ∃ n, n = k.size - (en j).size := ⟨_, rfl⟩
        have hne : n + (en j).size = k.size := by omega
        have h2n : 2 ≤ n := by omega
        have hnk : n ≤ k.size := by omega
        have hw : wrap64 ((k.size : Int) - ((en j).size : Int)) = (n : Int) := by unfold wrap64; omega
        have d0 : decide (2 ≤ (n : Int)) = true := decide_eq_true (by omega)
        clear hn hn2
        have x2 : (k.extract 0 2).toList = (tl k).take 2 := by
          have h := tl_extract k 0 2
          rw [List.drop_zero] at h
          rw [← h]
          exact Lib.toList_data _
        have HE : Hid (∀ f, Is k f j → k.extract n k.size = en j ∧ (tl k).take 2 = [104, 47] ∧ k.extract 2 n = f ∧ nmB f = true) := fun f h => by
          have := is_end h hne
          exact ⟨this.1, this.2.1, this.2.2, h.2.1⟩
        have HO : Hid (k.extract n k.size = en j → (tl k).take 2 = [104, 47] → nmB (k.extract 2 n) = true → Is k (k.extract 2 n) j) := is_of h1 hlt h2n
        clear hne hk
        generalize en j = z at *
        by_cases c1 : k.extract n k.size = z
        · have q1 : ((k.extract n k.size).toList == z.toList) = true := by rw [c1]; simp
          by_cases c2 : (tl k).take 2 = [104, 47]
          · have q2 : ((k.extract 0 2).toList == [104, 47]) = true := by rw [x2, c2]; rfl
            have C2 : Hid (∀ w, Calls Tryd.prog 8 #[.string (k.extract 2 n)] w fun e w' => e = .returned (.bool (nmB (k.extract 2 n))) ∧ w' = w) := rname_calls (k.extract 2 n)
            cases c3 : nmB (k.extract 2 n) with
            | true =>
              have HS : Hid (Says k (.tuple #[.string (k.extract 2 n), .int .i64 (j : Int), .bool true])) := .inl ⟨_, j, HO.out c1 c2 c3, rfl⟩
              rw [c3] at C2
              clear HO HE c3 c2 c1 x2 HN
              go_wp2_with fail
              refine Calls.mono C1.out ?_
              rintro e w1 ⟨rfl, b1⟩
              have HB1 : Hid (Below w.heap.size w w1) := below_step HB.out b1
              clear b1
              go_wp2_with fail
              refine Calls.mono (C2.out _) ?_
              rintro e w2 ⟨rfl, hw1⟩
              have hw2 := hw1.symm
              subst hw2
              go_wp2
              go_ret3
              exact ⟨_, rfl, HS.out, HB1.out⟩
            | false =>
              have HQ2 : Hid (∀ q, q < j + 1 → ∀ f, ¬ Is k f q) := HN.out (fun f h => by
                have e := HE.out f h
                rw [e.2.2.1, e.2.2.2] at c3
                cases c3)
              rw [c3] at C2
              clear HO HE c3 c2 c1 x2 HN
              go_wp2_with fail
              refine Calls.mono C1.out ?_
              rintro e w1 ⟨rfl, b1⟩
              have HB1 : Hid (Below w.heap.size w w1) := below_step HB.out b1
              clear b1
              go_wp2_with fail
              refine Calls.mono (C2.out _) ?_
              rintro e w2 ⟨rfl, hw1⟩
              have hw2 := hw1.symm
              subst hw2
              go_wp2
              go_roundw
              case rel => exact ⟨j + 1, by omega, by omega, rfl, HQ2, HB1⟩
              case measure => simp [intOf]; omega
          · have q2 : ((k.extract 0 2).toList == [104, 47]) = false := by rw [x2]; simpa using c2
            have HQ2 : Hid (∀ q, q < j + 1 → ∀ f, ¬ Is k f q) := HN.out (fun f h => c2 (HE.out f h).2.1)
            clear HO HE c2 c1 x2 HN
            go_wp2_with fail
            refine Calls.mono C1.out ?_
            rintro e w1 ⟨rfl, b1⟩
            have HB1 : Hid (Below w.heap.size w w1) := below_step HB.out b1
            clear b1
            go_wp2
            go_roundw
            case rel => exact ⟨j + 1, by omega, by omega, rfl, HQ2, HB1⟩
            case measure => simp [intOf]; omega
        · have q1 : ((k.extract n k.size).toList == z.toList) = false := by
            rw [Lib.toList_data, Lib.toList_data]
            simp only [beq_eq_false_iff_ne, ne_eq]
            exact fun h => c1 (tl_inj h)
          have HQ2 : Hid (∀ q, q < j + 1 → ∀ f, ¬ Is k f q) := HN.out (fun f h => c1 (HE.out f h).1)
          clear HO HE c1 x2 HN
          go_wp2_with fail
          refine Calls.mono C1.out ?_
          rintro e w1 ⟨rfl, b1⟩
          have HB1 : Hid (Below w.heap.size w w1) := below_step HB.out b1
          clear b1
          go_wp2
          go_roundw
          case rel => exact ⟨j + 1, by omega, by omega, rfl, HQ2, HB1⟩
          case measure => simp [intOf]; omega
    · obtain rfl : j = 11 := by omega
      have HS : Hid (Says k (.tuple #[.string ⟨#[]⟩, .int .i64 0, .bool false])) := .inr ⟨fun f r h => HG.out r (by have := h.2.2.2; omega) f h, rfl⟩
      go_wp2
      go_ret3
      exact ⟨_, rfl, HS.out, HB.out⟩
end Go.Proofs.YtglnklghhjdjbaaDoor
