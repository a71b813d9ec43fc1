/- The Go function FoldCan returns true for every input, and its arguments read afterwards as they did before: put together from MR HC EQ JA HD (moved from the event seat), YA YB YC YD and the law's text. -/
import Derived.Test.YtakaglfeeipeiaaGreatMB
import Derived.Test.YtakaglfeeipeiaaGreatGA
import Derived.Test.YtakaglfeeipeiaaGreatRows
import Derived.Test.YtakaglfeeipeiaaGreatPP
import Derived.Test.YtakaglfeeipeiaaGreatFT1
import Derived.Test.YtakaglfeeipeiaaGreatFFm
import Derived.WalkKit
import Derived.WalkLawsBesides
import Derived.ProofKit
import Derived.OpenShut
import Derived.Test.YtakaglfeeipeiaaGreatFCon
import Derived.Laws.BitsAllLaws
import Derived.Test.YtakaglfeeipeiaaGreatPE
import Derived.Test.YtakaglfeeipeiaaGreatPR
import Derived.Test.YtakaglfeeipeiaaGreatPS
import Derived.Test.YtakaglfeeipeiaaGreatPQ
import Derived.Lib.AppendStr
import Derived.Shelf.Bytes.SlClone
import Derived.Test.YtakaglfeeipeiaaGreatLA
import Derived.Deep.QuietTactic
import Derived.BigQuiet
import Derived.Test.YtakaglfeeipeiaaGreatVK
import Derived.Test.YtakaglfeeipeiaaGreatVB
import Derived.Deep.DeepCutAuto
import Derived.Test.YtakaglfeeipeiaaGreatVI
import Derived.Test.YtakaglfeeipeiaaGreatUZ
import Derived.Deep.RegionHeld3
import Derived.ChangeOld
import Derived.Below
import Derived.SizedLaws
namespace Go.Proofs.YtakaglfeeipeiaaGreat
open Go.ChangeShapes Go.WideShapes Go.ChangeAt Go.RowKit
theorem rletter_calls (c : Nat) (h : c < 256) (w : World) : Calls Tryz.prog 24 #[.int .u8 (c : Int)] w fun e w' => e = .returned (.bool (okc c)) ∧ w' = w := by
  go_enter Tryz.func24, Tryz.ntmps24
  go_wp2
  all_goals go_ret
  all_goals refine ⟨?_, rfl⟩
  all_goals show Ending.returned (Value.bool _) = Ending.returned (Value.bool _)
  all_goals congr 2
  all_goals rw [Bool.eq_iff_iff]
  all_goals simp [okc, lett, digi]
  all_goals omega
theorem rname_calls (s : ByteArray) (w : World) : Calls Tryz.prog 13 #[.string s] w fun e w' => e = .returned (.bool (nmB s)) ∧ w' = w := by
  by_cases h1 : s.size < 1
  · rw [nm_small s h1]
    have d1 : decide ((s.size : Int) < 1) = true := decide_eq_true (by omega)
    go_enter Tryz.func13, Tryz.ntmps13
    go_wp2
    go_ret
    exact ⟨rfl, rfl⟩
  by_cases h2 : 24 < s.size
  · rw [nm_big s h2]
    have d1 : decide ((s.size : Int) < 1) = false := decide_eq_false (by omega)
    have d2 : decide (24 < (s.size : Int)) = true := decide_eq_true (by omega)
    go_enter Tryz.func13, Tryz.ntmps13
    go_wp2
    go_ret
    exact ⟨rfl, rfl⟩
  have d1 : decide ((s.size : Int) < 1) = false := decide_eq_false (by omega)
  have d2 : decide (24 < (s.size : Int)) = false := decide_eq_false (by omega)
  have g1 : 1 ≤ s.size := by omega
  have g2 : s.size ≤ 24 := by omega
  have h0 : 0 < s.size := by omega
  rw [nm_in s g1 g2]
  clear h1 h2
  by_cases h3 : s[0].toNat = 46 ∨ s[0].toNat = 45
  · rw [allG_false s (fun h => by have := h 0 h0; rw [gd_zero _ h3] at this; cases this)]
    rcases h3 with h3 | h3
    · have e1 : ((s[0].toNat : Int) == 46) = true := by rw [h3]; rfl
      go_enter Tryz.func13, Tryz.ntmps13
      go_wp2
      go_ret
      exact ⟨rfl, rfl⟩
    · have e1 : ((s[0].toNat : Int) == 46) = false := by rw [h3]; rfl
      have e2 : ((s[0].toNat : Int) == 45) = true := by rw [h3]; rfl
      go_enter Tryz.func13, Tryz.ntmps13
      go_wp2
      go_ret
      exact ⟨rfl, rfl⟩
  have e1 : ((s[0].toNat : Int) == 46) = false := by simp; omega
  have e2 : ((s[0].toNat : Int) == 45) = false := by simp; omega
  have H3 : Hid (∀ i (h : i < s.size), i = 0 → ¬ (s[i].toNat = 46 ∨ s[i].toNat = 45)) := by
    intro i h e
    subst e
    exact h3
  clear h3
  go_enter Tryz.func13, Tryz.ntmps13
  go_wp2
  go_loop [3] (fun i => ∃ j : Nat, j ≤ s.size ∧ i = .int .i64 j ∧ Hid (∀ i (_ : i < j) (h : i < s.size), gd i s[i] = true)) (fun i => s.size - (intOf i).toNat)
  case atStart => exact ⟨0, Nat.zero_le _, rfl, fun i h => absurd h (by omega)⟩
  case round =>
    obtain ⟨j, hj, rfl, HG⟩ := hrel
    by_cases hlt : j < s.size
    · have hc : s[j].toNat < 256 := s[j].toNat_lt
      have LC : Hid (Calls _ _ _ _ _) := rletter_calls s[j].toNat hc w
      have hw : wrap64 ((j : Int) + 1) = (j : Int) + 1 := by unfold wrap64; omega
      cases hL : okc s[j].toNat with
      | true =>
        rw [hL] at LC
        have HQ : Hid (∀ i (_ : i < j + 1) (h : i < s.size), gd i s[i] = true) := by
          intro i hi h2
          by_cases e : i = j
          · subst e; exact gd_ok _ _ hL (H3.out _ h2)
          · exact HG.out i (by omega) h2
        clear hL
        go_wp2_with fail
        refine Calls.mono LC.out ?_
        rintro e w1 ⟨rfl, hw1⟩
        have hw2 := hw1.symm
        subst hw2
        go_wp2
        go_round
        case rel => exact ⟨j + 1, hlt, by first | rfl | (rw [hw]; rfl), HQ⟩
        case measure => first | exact measM _ _ hlt | (rw [hw]; exact measM _ _ hlt)
      | false =>
        rw [hL] at LC
        have HQ : Hid (allG s = false) := allG_false s (fun h => by have := h j hlt; rw [gd_bad _ _ hL] at this; cases this)
        clear hL
        go_wp2_with fail
        refine Calls.mono LC.out ?_
        rintro e w1 ⟨rfl, hw1⟩
        have hw2 := hw1.symm
        subst hw2
        go_wp2
        go_ret
        exact ⟨by rw [HQ.out]; rfl, rfl⟩
    · obtain rfl : j = s.size := by omega
      have HQ : Hid (allG s = true) := allG_true s (fun i h => HG.out i h h)
      go_wp2
      go_ret
      exact ⟨by rw [HQ.out]; rfl, rfl⟩
end Go.Proofs.YtakaglfeeipeiaaGreat
namespace Go.Proofs.YtakaglfeeipeiaaGreat
open Go.ChangeShapes Go.WideShapes Go.ChangeAt Go.RowKit
/-- The numbers zs lie in block g. -/
def Ih (w : World) (g : Nat) (zs : List Int) : Prop := ∀ (i : Nat) z, zs[i]? = some z → w.cell? ⟨g, i, none⟩ = some (.int .i64 z)
theorem in_calls (k : Int) (g n : Nat) (zs : List Int) (hn : zs.length = n) (h10 : n ≤ 10) (w : World) (h : Ih w g zs) :
    Calls Tryz.prog 48 #[.int .i64 k, .slice (some ⟨g, 0, none⟩) n n] w fun e w' => e = .returned (.bool (zs.contains k)) ∧ w' = w := by
  have HZ : Hid (Ih w g zs) := h
  have HN : Hid (zs.length = n) := hn
  have H10 : Hid (n ≤ 10) := h10
  obtain ⟨B, hB⟩ : ∃ B, B = zs.contains k := ⟨_, rfl⟩
  have HB : Hid (B = zs.contains k) := hB
  rw [← hB]
  clear h hn h10 hB
  go_enter Tryz.func48, Tryz.ntmps48
  go_wp2_with fail
  go_loop [5] (fun i => ∃ j : Nat, j ≤ n ∧ i = .int .i64 j ∧ Hid (∀ q, q < j → zs[q]? ≠ some k)) (fun i => n - (intOf i).toNat)
  case atStart => exact ⟨0, Nat.zero_le _, rfl, fun q hq => absurd hq (Nat.not_lt_zero _)⟩
  case round =>
    obtain ⟨j, hj, rfl, HQ⟩ := hrel
    by_cases hlt : j < n
    · have hjl : (j : Int) < (n : Int) := by omega
      have hj9 : (j : Int) < 10 := by have := H10.out; omega
      obtain ⟨z, hz⟩ : ∃ z, zs[j]? = some z := ⟨_, List.getElem?_eq_getElem (by have := HN.out; omega)⟩
      have hc := HZ.out j z hz
      have HZJ : Hid (zs[j]? = some z) := hz
      clear hz
      by_cases hzk : z = k
      · subst hzk
        have hb : B = true := by rw [HB.out]; exact List.contains_iff_mem.2 (List.mem_of_getElem? HZJ.out)
        subst hb
        go_wp2_with fail
        go_ret
        exact ⟨rfl, rfl⟩
      · have hzf : (z == k) = false := by simpa using hzk
        have HQ2 : Hid (∀ q, q < j + 1 → zs[q]? ≠ some k) := fun q hq => by
          by_cases e : q = j
          · subst e; rw [HZJ.out]; intro h; injection h with h; exact hzk h
          · exact HQ.out q (by omega)
        clear hzk
        go_wp2_with fail
        refine ⟨⟨j + 1, hlt, by first | rfl | (rw [Int.natCast_add]; rfl), HQ2⟩, ?_⟩
        simp only [intOf]
        omega
    · obtain rfl : j = n := by omega
      have hb : B = false := by
        rw [HB.out, ← Bool.not_eq_true]
        intro hm
        obtain ⟨q, hq⟩ := List.mem_iff_getElem?.1 (List.contains_iff_mem.1 hm)
        have hql : q < j := by have := (List.getElem?_eq_some_iff.1 hq).1; have := HN.out; omega
        exact HQ.out q hql hq
      subst hb
      go_wp2_with fail
      go_ret
      exact ⟨rfl, rfl⟩
theorem hD_eq (k : Int) : ([1, 2, 3, 9] : List Int).contains k = hD k := by
  unfold hD pt bt
  (repeat' split) <;> (simp_all; try omega)
theorem hM_eq (k : Int) : ([1, 7, 9, 10, 11, 12, 13] : List Int).contains k = hM k := by
  unfold hM pt bt
  (repeat' split) <;> (simp_all; try omega)
theorem hT_eq (k : Int) : ([5, 16, 18] : List Int).contains k = hT k := by
  unfold hT pt bt
  (repeat' split) <;> (simp_all; try omega)
theorem hV_eq (k : Int) : ([1, 7, 12, 13, 14, 15] : List Int).contains k = hV k := by
  unfold hV pt bt
  (repeat' split) <;> (simp_all; try omega)
theorem hP_eq (k : Int) : (k == 1) = hP k := by
  unfold hP pt bt
  (repeat' split) <;> (simp_all; try omega)
theorem hasD_calls (k : Int) (w : World) : Calls Tryz.prog 32 #[.int .i64 k] w fun e w' => e = .returned (.bool (hD k)) ∧ Below w.heap.size w w' := by
  have IC : Hid (Calls Tryz.prog 48 #[.int .i64 k, .slice (some ⟨w.heap.size, 0, none⟩) 4 4] (w.alloc (.cells #[.int .i64 1, .int .i64 2, .int .i64 3, .int .i64 9] 3)) fun e w' => e = .returned (.bool (hD k)) ∧ w' = (w.alloc (.cells #[.int .i64 1, .int .i64 2, .int .i64 3, .int .i64 9] 3))) := by
    have := in_calls k w.heap.size 4 [1, 2, 3, 9] rfl (by decide) (w.alloc (.cells #[.int .i64 1, .int .i64 2, .int .i64 3, .int .i64 9] 3)) (fun i z hz => by
      have : (#[.int .i64 1, .int .i64 2, .int .i64 3, .int .i64 9] : Array Value)[i]? = some (.int .i64 z) := by
        match i, hz with
        | 0, hz => cases hz; rfl
        | 1, hz => cases hz; rfl
        | 2, hz => cases hz; rfl
        | 3, hz => cases hz; rfl
        | i + 4, hz => simp at hz
      simpa using this)
    rw [hD_eq] at this
    exact this
  go_enter Tryz.func32, Tryz.ntmps32
  go_wp2_with fail
  refine IC.out.mono ?_
  rintro e w1 ⟨rfl, e1⟩
  subst e1
  go_wp2_with fail
  go_ret
  exact ⟨rfl, bel1 _ _⟩
theorem hasM_calls (k : Int) (w : World) : Calls Tryz.prog 46 #[.int .i64 k] w fun e w' => e = .returned (.bool (hM k)) ∧ Below w.heap.size w w' := by
  have IC : Hid (Calls Tryz.prog 48 #[.int .i64 k, .slice (some ⟨w.heap.size, 0, none⟩) 7 7] (w.alloc (.cells #[.int .i64 1, .int .i64 7, .int .i64 9, .int .i64 10, .int .i64 11, .int .i64 12, .int .i64 13] 3)) fun e w' => e = .returned (.bool (hM k)) ∧ w' = (w.alloc (.cells #[.int .i64 1, .int .i64 7, .int .i64 9, .int .i64 10, .int .i64 11, .int .i64 12, .int .i64 13] 3))) := by
    have := in_calls k w.heap.size 7 [1, 7, 9, 10, 11, 12, 13] rfl (by decide) (w.alloc (.cells #[.int .i64 1, .int .i64 7, .int .i64 9, .int .i64 10, .int .i64 11, .int .i64 12, .int .i64 13] 3)) (fun i z hz => by
      have : (#[.int .i64 1, .int .i64 7, .int .i64 9, .int .i64 10, .int .i64 11, .int .i64 12, .int .i64 13] : Array Value)[i]? = some (.int .i64 z) := by
        match i, hz with
        | 0, hz => cases hz; rfl
        | 1, hz => cases hz; rfl
        | 2, hz => cases hz; rfl
        | 3, hz => cases hz; rfl
        | 4, hz => cases hz; rfl
        | 5, hz => cases hz; rfl
        | 6, hz => cases hz; rfl
        | i + 7, hz => simp at hz
      simpa using this)
    rw [hM_eq] at this
    exact this
  go_enter Tryz.func46, Tryz.ntmps46
  go_wp2_with fail
  refine IC.out.mono ?_
  rintro e w1 ⟨rfl, e1⟩
  subst e1
  go_wp2_with fail
  go_ret
  exact ⟨rfl, bel1 _ _⟩
theorem hasT_calls (k : Int) (w : World) : Calls Tryz.prog 47 #[.int .i64 k] w fun e w' => e = .returned (.bool (hT k)) ∧ Below w.heap.size w w' := by
  have IC : Hid (Calls Tryz.prog 48 #[.int .i64 k, .slice (some ⟨w.heap.size, 0, none⟩) 3 3] (w.alloc (.cells #[.int .i64 5, .int .i64 16, .int .i64 18] 3)) fun e w' => e = .returned (.bool (hT k)) ∧ w' = (w.alloc (.cells #[.int .i64 5, .int .i64 16, .int .i64 18] 3))) := by
    have := in_calls k w.heap.size 3 [5, 16, 18] rfl (by decide) (w.alloc (.cells #[.int .i64 5, .int .i64 16, .int .i64 18] 3)) (fun i z hz => by
      have : (#[.int .i64 5, .int .i64 16, .int .i64 18] : Array Value)[i]? = some (.int .i64 z) := by
        match i, hz with
        | 0, hz => cases hz; rfl
        | 1, hz => cases hz; rfl
        | 2, hz => cases hz; rfl
        | i + 3, hz => simp at hz
      simpa using this)
    rw [hT_eq] at this
    exact this
  go_enter Tryz.func47, Tryz.ntmps47
  go_wp2_with fail
  refine IC.out.mono ?_
  rintro e w1 ⟨rfl, e1⟩
  subst e1
  go_wp2_with fail
  go_ret
  exact ⟨rfl, bel1 _ _⟩
theorem hasV_calls (k : Int) (w : World) : Calls Tryz.prog 33 #[.int .i64 k] w fun e w' => e = .returned (.bool (hV k)) ∧ Below w.heap.size w w' := by
  have IC : Hid (Calls Tryz.prog 48 #[.int .i64 k, .slice (some ⟨w.heap.size, 0, none⟩) 6 6] (w.alloc (.cells #[.int .i64 1, .int .i64 7, .int .i64 12, .int .i64 13, .int .i64 14, .int .i64 15] 3)) fun e w' => e = .returned (.bool (hV k)) ∧ w' = (w.alloc (.cells #[.int .i64 1, .int .i64 7, .int .i64 12, .int .i64 13, .int .i64 14, .int .i64 15] 3))) := by
    have := in_calls k w.heap.size 6 [1, 7, 12, 13, 14, 15] rfl (by decide) (w.alloc (.cells #[.int .i64 1, .int .i64 7, .int .i64 12, .int .i64 13, .int .i64 14, .int .i64 15] 3)) (fun i z hz => by
      have : (#[.int .i64 1, .int .i64 7, .int .i64 12, .int .i64 13, .int .i64 14, .int .i64 15] : Array Value)[i]? = some (.int .i64 z) := by
        match i, hz with
        | 0, hz => cases hz; rfl
        | 1, hz => cases hz; rfl
        | 2, hz => cases hz; rfl
        | 3, hz => cases hz; rfl
        | 4, hz => cases hz; rfl
        | 5, hz => cases hz; rfl
        | i + 6, hz => simp at hz
      simpa using this)
    rw [hV_eq] at this
    exact this
  go_enter Tryz.func33, Tryz.ntmps33
  go_wp2_with fail
  refine IC.out.mono ?_
  rintro e w1 ⟨rfl, e1⟩
  subst e1
  go_wp2_with fail
  go_ret
  exact ⟨rfl, bel1 _ _⟩
theorem hasP_calls (k : Int) (w : World) : Calls Tryz.prog 34 #[.int .i64 k] w fun e w' => e = .returned (.bool (hP k)) ∧ w' = w := by
  rw [← hP_eq]
  go_enter Tryz.func34, Tryz.ntmps34
  go_wp2
  go_ret
  exact ⟨rfl, rfl⟩
theorem rtext_calls (s : ByteArray) (w : World) : Calls Tryz.prog 19 #[.string s] w fun e w' => e = .returned (.bool (decide (s.size ≤ 200))) ∧ w' = w := by
  by_cases h : s.size ≤ 200
  · have h1 : (s.size : Int) ≤ 200 := by omega
    go_enter Tryz.func19, Tryz.ntmps19
    go_wp2
    go_ret
    simp [h]
  · have h1 : ¬ (s.size : Int) ≤ 200 := by omega
    go_enter Tryz.func19, Tryz.ntmps19
    go_wp2
    go_ret
    simp
set_option maxRecDepth 100000 in
theorem num_ok (k t n d : Int) (s : ByteArray) (vk vx vb : Int) (vs : ByteArray) (la : Option Addr) (ll lc : Nat) (f : Int) (c : Nat) (m : Int) (w : World) : Calls Tryz.prog 30 #[(.agg #[.int .i64 k, .int .i64 t, .int .i64 n, .int .i64 d, .string s, .int .i64 vk, .int .i64 vx, .int .u64 vb, .string vs, .slice la ll lc, .int .i64 f, .int .u64 (c : Int), .int .i64 m])] w fun e w' => e = .returned (.bool (wi n (nl k) (nm k))) ∧ Below w.heap.size w w' := by
  unfold wi
  by_cases h2 : k = 2
  · subst h2
    rw [show nl 2 = 1 from rfl, show nm 2 = 2147483648 from rfl]
    by_cases h1 : 1 ≤ n
    · by_cases h3 : n ≤ 2147483648
      · go_enter Tryz.func30, Tryz.ntmps30
        go_wp2_with fail
        go_ret
        exact ⟨by simp [h1, h3], bel1 _ _⟩
      · go_enter Tryz.func30, Tryz.ntmps30
        go_wp2_with fail
        go_ret
        exact ⟨by simp [h3], bel1 _ _⟩
    · go_enter Tryz.func30, Tryz.ntmps30
      go_wp2_with fail
      go_ret
      exact ⟨by simp; omega, bel1 _ _⟩
  · by_cases h5 : k = 5
    · subst h5
      rw [show nl 5 = 0 from rfl, show nm 5 = 10 from rfl]
      by_cases h1 : 0 ≤ n
      · by_cases h3 : n ≤ 10
        · go_enter Tryz.func30, Tryz.ntmps30
          go_wp2_with fail
          go_ret
          exact ⟨by simp [h1, h3], bel1 _ _⟩
        · go_enter Tryz.func30, Tryz.ntmps30
          go_wp2_with fail
          go_ret
          exact ⟨by simp [h3], bel1 _ _⟩
      · go_enter Tryz.func30, Tryz.ntmps30
        go_wp2_with fail
        go_ret
        exact ⟨by simp; omega, bel1 _ _⟩
    · have e1 : nl k = 0 := by unfold nl; simp [h2]
      have e2 : nm k = 0 := by unfold nm; simp [h2, h5]
      have d2 : (k == 2) = false := by simpa using h2
      have d5 : (k == 5) = false := by simpa using h5
      rw [e1, e2]
      clear e1 e2 h2 h5
      go_enter Tryz.func30, Tryz.ntmps30
      go_wp2_with fail
      go_ret
      refine ⟨?_, bel1 _ _⟩
      by_cases hn : n = 0
      · subst hn; rfl
      · have : ¬ (0 ≤ n ∧ n ≤ 0) := by omega
        have e : (decide (0 ≤ n) && decide (n ≤ 0)) = false := by
          rw [← Bool.decide_and]; exact decide_eq_false this
        rw [e]
        simp [hn]
set_option maxHeartbeats 1000000 in
set_option maxRecDepth 100000 in
theorem name_ok (k t n d : Int) (s : ByteArray) (vk vx vb : Int) (vs : ByteArray) (la : Option Addr) (ll lc : Nat) (f : Int) (c : Nat) (m : Int) (w : World) : Calls Tryz.prog 31 #[(.agg #[.int .i64 k, .int .i64 t, .int .i64 n, .int .i64 d, .string s, .int .i64 vk, .int .i64 vx, .int .u64 vb, .string vs, .slice la ll lc, .int .i64 f, .int .u64 (c : Int), .int .i64 m])] w fun e w' => e = .returned (.bool (nmf k s)) ∧ Below w.heap.size w w' := by
  have HX0 : Hid (At13 (w.alloc (.cells #[.int .i64 k, .int .i64 t, .int .i64 n, .int .i64 d, .string s, .int .i64 vk, .int .i64 vx, .int .u64 vb, .string vs, .slice la ll lc, .int .i64 f, .int .u64 (c : Int), .int .i64 m] 44)) w.heap.size (.int .i64 k) (.int .i64 t) (.int .i64 n) (.int .i64 d) (.string s) (.int .i64 vk) (.int .i64 vx) (.int .u64 vb) (.string vs) (.slice la ll lc) (.int .i64 f) (.int .u64 (c : Int)) (.int .i64 m)) := At13.box w (.int .i64 k) (.int .i64 t) (.int .i64 n) (.int .i64 d) (.string s) (.int .i64 vk) (.int .i64 vx) (.int .u64 vb) (.string vs) (.slice la ll lc) (.int .i64 f) (.int .u64 (c : Int)) (.int .i64 m)
  have MC : Hid (∀ W, _) := fun W => hasM_calls k W
  have TC : Hid (∀ W, _) := fun W => hasT_calls k W
  unfold nmf
  cases hm : hM k with
  | true =>
    rw [hm] at MC
    simp only [if_true]
    clear hm
    go_enter Tryz.func31, Tryz.ntmps31
    go_wp2_with fail
    refine (MC.out _).mono ?_
    rintro e w1 ⟨rfl, hb⟩
    have HB1 : Hid (Below w.heap.size w w1) := bel2 (bel1 _ _) hb
    obtain ⟨x0, x1, x2, x3, x4, x5, x6, x7, x8, x9, x10, x11, x12⟩ := HX0.out.below hb
    clear hb
    go_wp2_with fail
    refine (rname_calls _ _).mono ?_
    rintro e w2 ⟨rfl, e1⟩
    subst e1
    go_wp2_with fail
    go_ret
    exact ⟨rfl, HB1.out⟩
  | false =>
    rw [hm] at MC
    simp only [Bool.false_eq_true, if_false]
    clear hm
    cases ht : hT k with
    | true =>
      rw [ht] at TC
      simp only [if_true]
      clear ht
      go_enter Tryz.func31, Tryz.ntmps31
      go_wp2_with fail
      refine (MC.out _).mono ?_
      rintro e w1 ⟨rfl, hb⟩
      have HB1 : Hid (Below w.heap.size w w1) := bel2 (bel1 _ _) hb
      have HX1 : Hid (At13 w1 w.heap.size (.int .i64 k) (.int .i64 t) (.int .i64 n) (.int .i64 d) (.string s) (.int .i64 vk) (.int .i64 vx) (.int .u64 vb) (.string vs) (.slice la ll lc) (.int .i64 f) (.int .u64 (c : Int)) (.int .i64 m)) := HX0.out.below hb
      obtain ⟨x0, x1, x2, x3, x4, x5, x6, x7, x8, x9, x10, x11, x12⟩ := HX1.out
      clear hb
      go_wp2_with fail
      refine (TC.out _).mono ?_
      rintro e w2 ⟨rfl, hb⟩
      have HB2 : Hid (Below w.heap.size w w2) := bel2 HB1.out hb
      clear x0 x1 x2 x3 x4 x5 x6 x7 x8 x9 x10 x11 x12
      obtain ⟨x0, x1, x2, x3, x4, x5, x6, x7, x8, x9, x10, x11, x12⟩ := HX1.out.below hb
      clear hb
      go_wp2_with fail
      refine (rtext_calls _ _).mono ?_
      rintro e w3 ⟨rfl, e1⟩
      subst e1
      go_wp2_with fail
      go_ret
      exact ⟨rfl, HB2.out⟩
    | false =>
      rw [ht] at TC
      simp only [Bool.false_eq_true, if_false]
      clear ht
      go_enter Tryz.func31, Tryz.ntmps31
      go_wp2_with fail
      refine (MC.out _).mono ?_
      rintro e w1 ⟨rfl, hb⟩
      have HB1 : Hid (Below w.heap.size w w1) := bel2 (bel1 _ _) hb
      have HX1 : Hid (At13 w1 w.heap.size (.int .i64 k) (.int .i64 t) (.int .i64 n) (.int .i64 d) (.string s) (.int .i64 vk) (.int .i64 vx) (.int .u64 vb) (.string vs) (.slice la ll lc) (.int .i64 f) (.int .u64 (c : Int)) (.int .i64 m)) := HX0.out.below hb
      obtain ⟨x0, x1, x2, x3, x4, x5, x6, x7, x8, x9, x10, x11, x12⟩ := HX1.out
      clear hb
      go_wp2_with fail
      refine (TC.out _).mono ?_
      rintro e w2 ⟨rfl, hb⟩
      have HB2 : Hid (Below w.heap.size w w2) := bel2 HB1.out hb
      clear x0 x1 x2 x3 x4 x5 x6 x7 x8 x9 x10 x11 x12
      obtain ⟨x0, x1, x2, x3, x4, x5, x6, x7, x8, x9, x10, x11, x12⟩ := HX1.out.below hb
      clear hb
      go_wp2_with fail
      go_ret
      exact ⟨rfl, HB2.out⟩
end Go.Proofs.YtakaglfeeipeiaaGreat
namespace Go.Proofs.YtakaglfeeipeiaaGreat
open Go.ChangeShapes Go.WideShapes Go.ChangeAt Go.RowKit
open FM

attribute [local go_sem] o_eq o_lt o_gt o_ne frombits tobits

theorem refCanon_calls (x : Nat) (w : World) : Calls Tryz.prog 27 #[.int .u64 (x : Int)] w fun e w' => e = .returned (.int .u64 (cn x : Nat)) ∧ w' = w := by
  cases hx : isN x
  · have hc : cn x = x := by simp [cn, hx]
    rw [hc]
    go_enter Tryz.func27, Tryz.ntmps27
    go_wp2
    go_ret
    exact ⟨rfl, rfl⟩
  · have hc : cn x = 9221120237041090560 := by simp [cn, hx]
    rw [hc]
    go_enter Tryz.func27, Tryz.ntmps27
    go_wp2
    go_ret
    exact ⟨rfl, rfl⟩
theorem nan_calls (x : Nat) (w : World) : Calls Tryz.prog 45 #[.int .u64 (x : Int)] w fun e w' => e = .returned (.bool (isN x)) ∧ w' = w := by
  go_enter Tryz.func45, Tryz.ntmps45
  go_wp2
  go_ret
  exact ⟨rfl, rfl⟩
end Go.Proofs.YtakaglfeeipeiaaGreat
namespace Go.Proofs.YtakaglfeeipeiaaGreat
open Go.ChangeShapes Go.WideShapes Go.ChangeAt Go.RowKit
open FM
attribute [local go_sem] o_eq o_lt o_gt o_ne frombits tobits emod_top eql_inf eql_zero lss_sub
theorem refKind_calls (x : Nat) (w : World) : Calls Tryz.prog 28 #[.int .u64 (x : Int)] w fun e w' => e = .returned (.int .i64 (kd x)) ∧ w' = w := by
  cases h1 : isN x
  · cases h2 : isI x
    · cases h3 : isZ x
      · cases h4 : isS x
        · have hk : kd x = 5 := by simp [kd, h1, h2, h3, h4]
          rw [hk]
          go_enter Tryz.func28, Tryz.ntmps28
          go_wp2
          go_ret
          exact ⟨rfl, rfl⟩
        · have hk : kd x = 4 := by simp [kd, h1, h2, h3, h4]
          rw [hk]
          go_enter Tryz.func28, Tryz.ntmps28
          go_wp2
          go_ret
          exact ⟨rfl, rfl⟩
      · have hk : kd x = 3 := by simp [kd, h1, h2, h3]
        rw [hk]
        go_enter Tryz.func28, Tryz.ntmps28
        go_wp2
        go_ret
        exact ⟨rfl, rfl⟩
    · have hk : kd x = 2 := by simp [kd, h1, h2]
      rw [hk]
      go_enter Tryz.func28, Tryz.ntmps28
      go_wp2
      go_ret
      exact ⟨rfl, rfl⟩
  · have hk : kd x = 1 := by simp [kd, h1]
    rw [hk]
    go_enter Tryz.func28, Tryz.ntmps28
    go_wp2
    go_ret
    exact ⟨rfl, rfl⟩
end Go.Proofs.YtakaglfeeipeiaaGreat
namespace Go.Proofs.YtakaglfeeipeiaaGreat
open Go.ChangeShapes Go.WideShapes Go.ChangeAt Go.RowKit
theorem copied_calls (v : Value) (l : List UInt8) (w : World) (hv : Lib.HoldsBytes w v l) (hl : l.length ≤ 70368744177664) :
    Calls Tryz.prog 53 #[v] w fun e w' => ∃ v', e = .returned v' ∧ Own w.heap.size w' v' l ∧ Below w.heap.size w w' := by
  obtain ⟨p, cap, rfl, h1, h2⟩ := hv
  obtain ⟨i0, hi, hz0, hz1, hz2⟩ := info_parts Tryz.info5
  cases p with
  | none =>
    have hn : l = [] := h1 rfl
    subst hn
    clear h1 h2 hl
    go_enter Tryz.func53, Tryz.ntmps53
    go_wp2
    go_ret
    exact ⟨_, rfl, World.ownsRow_nil _ _ _ _, Below.refl _ _⟩
  | some a =>
    have HC : Hid (∀ (i : Nat) x, l[i]? = some x → w.cell? (a.add i) = some (.int .u8 (x.toNat : Int))) := h2 a rfl
    clear h1 h2
    go_enter Tryz.func53, Tryz.ntmps53
    go_wp2_with (at_builtin; refine wpList_append_own _ rfl _ _ 59 rfl w.heap.size 5 i0 (.int .u8 0) 1 1 Tryz.underlying59 hi hz0 hz1 hz2 rfl (by decide) _ _ _ rfl (World.ownsRow_nil _ _ _ _) a l.length cap (bval l) rfl ?qc1 ?qc2 ?qc3 ?qc4 ?qc5 ?qc6 ?_)
    case qc1 => simp [bval]
    case qc2 =>
      intro j u hj
      unfold bval at hj
      rw [List.getElem?_map] at hj
      obtain ⟨x, hx, rfl⟩ := Option.map_eq_some_iff.1 hj
      exact HC.out j x hx
    case qc3 => intro u hu; obtain ⟨x, _, rfl⟩ := List.mem_map.1 hu; rfl
    case qc4 => unfold maxLen; omega
    case qc5 => omega
    case qc6 => exact Nat.le_refl _
    intro v' w1 hown hgrow hnil
    go_wp2
    go_ret
    refine ⟨v', rfl, by simpa [Own] using hown, ?_⟩
    exact (Below.refl _ w).grown hgrow (Nat.le_refl _) (by intro k hk; simp [Value.ownBlock] at hk)
set_option maxHeartbeats 1000000 in
theorem high_calls (B : Nat) (v : Value) (l : List UInt8) (x k : Nat) (w : World) (hx : x < 18446744073709551616) (hk : k ≤ 8) (hB : B ≤ w.heap.size) (hv : Own B w v l) (hl : l.length ≤ 70368744177664) :
    Calls Tryz.prog 55 #[v, .int .u64 (x : Int), .int .i64 (k : Int)] w fun e w' => ∃ v', e = .returned v' ∧ Own B w' v' (l ++ be x k) ∧ Below B w w' := by
  obtain ⟨i0, hi, hz0, hz1, hz2⟩ := info_parts Tryz.info5
  have HV : Hid (Own B w v l) := hv
  clear hv
  obtain ⟨L, hL⟩ : ∃ L, L = l ++ be x k := ⟨_, rfl⟩
  have HL : Hid (L = l ++ be x k) := hL
  rw [← hL]
  have HX : Hid (x < 18446744073709551616) := hx
  clear hL hx
  go_enter Tryz.func55, Tryz.ntmps55
  go_wp2
  go_loopw [0, 2] (fun b i wr => ∃ (j : Nat) (acc : List UInt8), j ≤ k ∧ i = .int .i64 j ∧ Hid (Own B wr b acc) ∧ Hid (Below B w wr) ∧ Hid (acc ++ be x j = L)) (fun _ i _ => (intOf i).toNat)
  case atStart => exact ⟨k, l, Nat.le_refl _, rfl, HV, Below.refl _ _, HL.out.symm⟩
  case round =>
    obtain ⟨j, acc, hj, rfl, HO, HB, HE⟩ := hrel
    cases j with
    | zero =>
      go_wp2
      go_ret
      have he : acc = L := by have := HE.out; simpa [be] using this
      rw [he] at HO
      exact ⟨_, rfl, HO.out, HB.out⟩
    | succ j =>
      have hj0 : (0 : Int) < ((j + 1 : Nat) : Int) := by omega
      have hacc : acc.length ≤ 70368744177672 := by
        have h1 := congrArg List.length HE.out
        rw [HL.out] at h1
        simp [be_length] at h1
        omega
      have hws : B ≤ wr.heap.size := Nat.le_trans hB HB.out.size
      go_wp2
      go_loop [7, 8] (fun y i => ∃ m : Nat, m ≤ j ∧ i = .int .i64 m ∧ y = .int .u64 ((x / 256 ^ m : Nat) : Int)) (fun _ i => j - (intOf i).toNat)
      case atStart => exact ⟨0, Nat.zero_le _, rfl, by simp⟩
      case round =>
        obtain ⟨m, hm, rfl, rfl⟩ := hrel
        have HS : Hid (x / 256 ^ (m + 1) = x / 256 ^ m / 256) := div_step x m
        obtain ⟨q, hq⟩ : ∃ q, x / 256 ^ m = q := ⟨_, rfl⟩
        rw [hq] at HS ⊢
        have HQ : Hid (x / 256 ^ m = q) := hq
        have hqu : (q : Int) ≤ 18446744073709551615 := by
          have h1 := HX.out
          have h2 := Nat.div_le_self x (256 ^ m)
          omega
        clear hq
        by_cases hlt : m < j
        · go_wp2
          go_round
          case rel => exact ⟨m + 1, by omega, by go_num, by rw [HS.out]; go_num⟩
          case measure => simp [intOf]; omega
        · obtain rfl : m = j := by omega
          go_wp2_with (at_builtin; refine wpList_append_own _ rfl _ _ 59 rfl B 5 i0 (.int .u8 0) 1 1 Tryz.underlying59 hi hz0 hz1 hz2 rfl (by decide) _ _ _ rfl (HO.out.alloc _) ⟨wr.heap.size, 0, none⟩ 1 1 (bval [UInt8.ofNat q]) rfl ?qc1 ?qc2 ?qc3 ?qc4 ?qc5 ?qc6 ?_)
          case qc1 => rfl
          case qc2 =>
            intro i u hu
            rw [byte_lit q]
            exact hu
          case qc3 => intro u hu; obtain ⟨x, _, rfl⟩ := List.mem_map.1 hu; rfl
          case qc4 => unfold maxLen; omega
          case qc5 => omega
          case qc6 => omega
          intro v' w1 hown hgrow hnil
          have HW : Hid (Own B w1 v' (acc ++ [UInt8.ofNat q])) := by
            show w1.ownsRow B 5 1 v' _ _
            have e1 : (acc ++ [UInt8.ofNat q]).length = acc.length + 1 := by simp
            have e2 : bval (acc ++ [UInt8.ofNat q]) = bval acc ++ bval [UInt8.ofNat q] := by simp [bval]
            rw [e1, e2]
            exact hown
          have HBW : Hid (Below B w w1) := by
            refine (HB.out.alloc hws _).grown hgrow (by simp; omega) ?_
            intro kk hkk
            exact (World.ownsRow.lt HO.out kk hkk).1
          clear hown hgrow hnil
          go_wp2
          go_roundw
          case rel =>
            refine ⟨m, acc ++ [UInt8.ofNat q], by omega, by go_num, HW, HBW, ?_⟩
            show _ = L
            rw [← HE.out, ← HQ.out, pow_256]
            simp [be]
          case measure => simp [intOf]
end Go.Proofs.YtakaglfeeipeiaaGreat
namespace Go.Proofs.YtakaglfeeipeiaaGreat
open Go.ChangeShapes Go.WideShapes Go.ChangeAt Go.RowKit
theorem bytes_calls (x : Nat) (w : World) (hx : x < 9223372036854775808) : Calls Tryz.prog 54 #[.int .i64 (x : Int)] w fun e w' => e = .returned (.int .i64 (nb x : Nat)) ∧ w' = w := by
  have HX : Hid (x < 9223372036854775808) := hx
  have HB : Hid (nb x ≤ 8) := by
    show nb x ≤ 8
    have := bl_le x hx
    unfold nb; omega
  clear hx
  go_enter Tryz.func54, Tryz.ntmps54
  go_wp2
  go_loop [0, 3] (fun n k => ∃ j q : Nat, Hid (x / 256 ^ j = q) ∧ Hid (j = 0 ∨ 0 < x / 256 ^ (j - 1)) ∧ j ≤ 9 ∧ n = .int .i64 q ∧ k = .int .i64 j) (fun n _ => (intOf n).toNat)
  case atStart => exact ⟨0, x, (show x / 256 ^ 0 = x by simp), .inl rfl, by omega, rfl, rfl⟩
  case round =>
    obtain ⟨j, q, HQ, HP, hj, rfl, rfl⟩ := hrel
    have hqu : (q : Int) ≤ 9223372036854775807 := by
      have h1 := HX.out
      have h2 := Nat.div_le_self x (256 ^ j)
      have h3 := HQ.out
      omega
    by_cases h0 : 0 < q
    · have hj8 : j ≤ 8 := by
        rcases Nat.lt_or_ge j 9 with h | h
        · omega
        · have a := nb_lt x
          have b := HB.out
          have c : (2 : Nat) ^ (8 * nb x) ≤ 2 ^ (8 * j) := Nat.pow_le_pow_right (by decide) (by omega)
          rw [← pow_256 j] at c
          have := Nat.div_eq_of_lt (Nat.lt_of_lt_of_le a c)
          have := HQ.out
          omega
      have h0z : (0 : Int) < (q : Int) := by omega
      go_wp2
      go_round
      case rel =>
        refine ⟨j + 1, q / 256, (show x / 256 ^ (j + 1) = q / 256 by rw [div_step, HQ.out]), (show Hid _ from .inr ?_), by omega, by go_num, by go_num⟩
        rw [Nat.add_sub_cancel, HQ.out]
        exact h0
      case measure => simp [intOf]; omega
    · obtain rfl : q = 0 := by omega
      have hn := nb_of x j HQ.out HP.out
      subst hn
      go_wp2
      go_ret
      exact ⟨rfl, rfl⟩
theorem refNum_small (v : Value) (l : List UInt8) (m : Nat) (n : Int) (hn : n < 240) (hm : m = n.toNat) (w : World) (hv : Lib.HoldsBytes w v l) (hl : l.length ≤ 70368744177664) : Calls Tryz.prog 40 #[v, .int .i64 n] w (RB w (l ++ enc m)) := by
  obtain ⟨i0, hi, hz0, hz1, hz2⟩ := info_parts Tryz.info5
  have HV : Hid (Lib.HoldsBytes w v l) := hv
  have HLL : Hid (l.length ≤ 70368744177664) := hl
  obtain ⟨L, hL⟩ : ∃ L, L = l ++ enc m := ⟨_, rfl⟩
  have HL : Hid (L = l ++ enc m) := hL
  rw [← hL]
  have HE : Hid (enc m = [UInt8.ofNat m]) := by show enc m = _; unfold enc; rw [if_pos (by omega)]
  have BY : Hid (bval [UInt8.ofNat m] = [.int .u8 (m : Int)]) := by
    show bval [UInt8.ofNat m] = _
    have e : ((UInt8.ofNat m).toNat : Int) = (m : Int) := by rw [UInt8.toNat_ofNat']; omega
    simp only [bval, List.map_cons, List.map_nil]
    rw [e]
  have hm240 : (m : Int) < 240 := by omega
  rw [HE.out] at HL
  obtain ⟨p, cap, rfl, q1, q2⟩ := hv
  clear q1 q2 hL
  by_cases h0 : n < 0
  · obtain rfl : m = 0 := by omega
    clear hm
    have BY0 : Hid (bval [UInt8.ofNat 0] = [.int .u8 0]) := BY.out
    clear BY
    go_enter Tryz.func40, Tryz.ntmps40
    go_wp2_with fail
    refine (copied_calls _ _ _ HV.out HLL.out).mono ?_
    rintro e w1 ⟨v1, rfl, ho, hb⟩
    have HO : Hid (Own w.heap.size w1 v1 l) := ho
    have HB : Hid (Below w.heap.size w w1) := hb
    clear ho hb
    go_wp2_with (at_builtin; refine wpList_append_own _ rfl _ _ 59 rfl w.heap.size 5 i0 (.int .u8 0) 1 1 Tryz.underlying59 hi hz0 hz1 hz2 rfl (by decide) _ _ _ rfl (HO.out.alloc _) ⟨w1.heap.size, 0, none⟩ 1 1 (bval [UInt8.ofNat 0]) rfl ?qc1 ?qc2 ?qc3 ?qc4 ?qc5 ?qc6 ?_)
    case qc1 => rfl
    case qc2 =>
      intro i u hu
      rw [BY0.out] at hu
      first | exact hu | (rw [add_plain, Nat.zero_add]; simpa using hu)
    case qc3 => intro u hu; obtain ⟨x, _, rfl⟩ := List.mem_map.1 hu; rfl
    case qc4 => unfold maxLen; omega
    case qc5 => omega
    case qc6 => have := HB.out.size; simp; omega
    intro v2 w2 hown hgrow hnil
    have HW : Hid (Own w.heap.size w2 v2 (l ++ [UInt8.ofNat 0])) := own_snoc hown
    have HBW : Hid (Below w.heap.size w w2) := by
      refine (HB.out.alloc HB.out.size _).grown hgrow (by have := HB.out.size; simp; omega) ?_
      intro kk hkk
      exact (World.ownsRow.lt HO.out kk hkk).1
    clear hown hgrow hnil
    go_wp2
    go_ret
    exact ⟨_, rfl, by rw [HL.out]; exact HW.out, HBW.out⟩
  · obtain rfl : n = (m : Int) := by omega
    clear hm
    go_enter Tryz.func40, Tryz.ntmps40
    go_wp2_with fail
    refine (copied_calls _ _ _ HV.out HLL.out).mono ?_
    rintro e w1 ⟨v1, rfl, ho, hb⟩
    have HO : Hid (Own w.heap.size w1 v1 l) := ho
    have HB : Hid (Below w.heap.size w w1) := hb
    clear ho hb
    go_wp2_with (at_builtin; refine wpList_append_own _ rfl _ _ 59 rfl w.heap.size 5 i0 (.int .u8 0) 1 1 Tryz.underlying59 hi hz0 hz1 hz2 rfl (by decide) _ _ _ rfl (HO.out.alloc _) ⟨w1.heap.size, 0, none⟩ 1 1 (bval [UInt8.ofNat m]) rfl ?qc1 ?qc2 ?qc3 ?qc4 ?qc5 ?qc6 ?_)
    case qc1 => rfl
    case qc2 =>
      intro i u hu
      rw [BY.out] at hu
      first | exact hu | (rw [add_plain, Nat.zero_add]; simpa using hu)
    case qc3 => intro u hu; obtain ⟨x, _, rfl⟩ := List.mem_map.1 hu; rfl
    case qc4 => unfold maxLen; omega
    case qc5 => omega
    case qc6 => have := HB.out.size; simp; omega
    intro v2 w2 hown hgrow hnil
    have HW : Hid (Own w.heap.size w2 v2 (l ++ [UInt8.ofNat m])) := own_snoc hown
    have HBW : Hid (Below w.heap.size w w2) := by
      refine (HB.out.alloc HB.out.size _).grown hgrow (by have := HB.out.size; simp; omega) ?_
      intro kk hkk
      exact (World.ownsRow.lt HO.out kk hkk).1
    clear hown hgrow hnil
    go_wp2
    go_ret
    exact ⟨_, rfl, by rw [HL.out]; exact HW.out, HBW.out⟩
end Go.Proofs.YtakaglfeeipeiaaGreat
namespace Go.Proofs.YtakaglfeeipeiaaGreat
open Go.ChangeShapes Go.WideShapes Go.ChangeAt Go.RowKit
theorem refNum_big (v : Value) (l : List UInt8) (m : Nat) (h0 : 240 ≤ m) (h1 : m < 9223372036854775808) (w : World) (hv : Lib.HoldsBytes w v l) (hl : l.length ≤ 70368744177663) : Calls Tryz.prog 40 #[v, .int .i64 (m : Int)] w (RB w (l ++ enc m)) := by
  obtain ⟨i0, hi, hz0, hz1, hz2⟩ := info_parts Tryz.info5
  have HV : Hid (Lib.HoldsBytes w v l) := hv
  have HLL : Hid (l.length ≤ 70368744177664) := by show l.length ≤ 70368744177664; omega
  obtain ⟨L, hL⟩ : ∃ L, L = l ++ enc m := ⟨_, rfl⟩
  have HL : Hid (L = l ++ enc m) := hL
  rw [← hL]
  have HE : Hid (enc m = [UInt8.ofNat (239 + nb m)] ++ be m (nb m)) := by show enc m = _; unfold enc; rw [if_neg (by omega)]; rfl
  obtain ⟨k1, k8⟩ := nb_bounds m h0 h1
  have BY : Hid (bval [UInt8.ofNat (239 + nb m)] = [.int .u8 (239 + (nb m : Nat) : Int)]) := by
    show bval [UInt8.ofNat (239 + nb m)] = _
    have e : ((UInt8.ofNat (239 + nb m)).toNat : Int) = 239 + (nb m : Nat) := by rw [UInt8.toNat_ofNat']; omega
    simp only [bval, List.map_cons, List.map_nil]
    rw [e]
  obtain ⟨b0, hb0⟩ : ∃ b, UInt8.ofNat (239 + nb m) = b := ⟨_, rfl⟩
  rw [hb0] at HE BY
  clear hb0
  have H1 : Hid (m < 9223372036854775808) := h1
  have d0 : decide ((m : Int) < 0) = false := decide_eq_false (by omega)
  have d1 : decide ((m : Int) < 240) = false := decide_eq_false (by omega)
  have hw : IntKind.u64.wrap (m : Int) = (m : Int) := by rw [IntKind.wrap_u64]; omega
  have HLM : Hid (l.length ≤ 70368744177663) := hl
  obtain ⟨p, cap, rfl, q1, q2⟩ := hv
  clear q1 q2 hL
  clear h0 h1
  go_enter Tryz.func40, Tryz.ntmps40
  go_wp2_with fail
  refine (bytes_calls _ _ H1.out).mono ?_
  rintro e w0 ⟨rfl, hw0⟩
  have hw00 := hw0.symm
  subst hw00
  go_wp2_with fail
  refine (copied_calls _ _ _ HV.out HLL.out).mono ?_
  rintro e w1 ⟨v1, rfl, ho, hb⟩
  have HO : Hid (Own w.heap.size w1 v1 l) := ho
  have HB : Hid (Below w.heap.size w w1) := hb
  clear ho hb
  go_wp2_with (at_builtin; refine wpList_append_own _ rfl _ _ 59 rfl w.heap.size 5 i0 (.int .u8 0) 1 1 Tryz.underlying59 hi hz0 hz1 hz2 rfl (by decide) _ _ _ rfl (HO.out.alloc _) ⟨w1.heap.size, 0, none⟩ 1 1 (bval [b0]) rfl ?qc1 ?qc2 ?qc3 ?qc4 ?qc5 ?qc6 ?_)
  case qc1 => rfl
  case qc2 =>
    intro i u hu
    rw [BY.out] at hu
    first | exact hu | (rw [add_plain, Nat.zero_add]; simpa using hu)
  case qc3 => intro u hu; obtain ⟨x, _, rfl⟩ := List.mem_map.1 hu; rfl
  case qc4 => unfold maxLen; omega
  case qc5 => omega
  case qc6 => have := HB.out.size; simp; omega
  intro v2 w2 hown hgrow hnil
  have HW : Hid (Own w.heap.size w2 v2 (l ++ [b0])) := own_snoc hown
  have HBW : Hid (Below w.heap.size w w2) := by
    refine (HB.out.alloc HB.out.size _).grown hgrow (by have := HB.out.size; simp; omega) ?_
    intro kk hkk
    exact (World.ownsRow.lt HO.out kk hkk).1
  clear hown hgrow hnil
  go_wp2_with fail
  refine (high_calls w.heap.size _ _ _ _ _ (by have := H1.out; omega) k8 HBW.out.size HW.out (by have := HLM.out; simp; omega)).mono ?_
  rintro e w3 ⟨v3, rfl, ho, hb⟩
  have HO3 : Hid (Own w.heap.size w3 v3 (l ++ [b0] ++ be m (nb m))) := ho
  have HB3 : Hid (Below w.heap.size w2 w3) := hb
  clear ho hb
  go_wp2
  go_ret
  refine ⟨_, rfl, ?_, HBW.out.trans HB3.out⟩
  rw [HL.out, HE.out, ← List.append_assoc]
  exact HO3.out
theorem refBits_calls (v : Value) (l : List UInt8) (x : Nat) (hx : x < 18446744073709551616) (w : World) (hv : Lib.HoldsBytes w v l) (hl : l.length ≤ 70368744177664) : Calls Tryz.prog 42 #[v, .int .u64 (x : Int)] w (RB w (l ++ be x 8)) := by
  have HV : Hid (Lib.HoldsBytes w v l) := hv
  have HLL : Hid (l.length ≤ 70368744177664) := hl
  obtain ⟨L, hL⟩ : ∃ L, L = l ++ be x 8 := ⟨_, rfl⟩
  have HL : Hid (L = l ++ be x 8) := hL
  rw [← hL]
  have HX : Hid (x < 18446744073709551616) := hx
  clear hx
  obtain ⟨p, cap, rfl, q1, q2⟩ := hv
  clear q1 q2 hL
  go_enter Tryz.func42, Tryz.ntmps42
  go_wp2_with fail
  refine (copied_calls _ _ _ HV.out HLL.out).mono ?_
  rintro e w1 ⟨v1, rfl, ho, hb⟩
  have HO : Hid (Own w.heap.size w1 v1 l) := ho
  have HB : Hid (Below w.heap.size w w1) := hb
  clear ho hb
  go_wp2_with fail
  refine (high_calls w.heap.size _ _ x 8 _ HX.out (by omega) HB.out.size HO.out HLL.out).mono ?_
  rintro e w3 ⟨v3, rfl, ho, hb⟩
  have HO3 : Hid (Own w.heap.size w3 v3 (l ++ be x 8)) := ho
  have HB3 : Hid (Below w.heap.size w1 w3) := hb
  clear ho hb
  go_wp2
  go_ret
  exact ⟨_, rfl, by rw [HL.out]; exact HO3.out, HB.out.trans HB3.out⟩
theorem refInt_calls (v : Value) (l : List UInt8) (n : Int) (hn : (Lit.int .i64 n).wf = true) (w : World) (hv : Lib.HoldsBytes w v l) (hl : l.length ≤ 70368744177664) : Calls Tryz.prog 41 #[v, .int .i64 n] w (RB w (l ++ be (tn n) 8)) := by
  have HV : Hid (Lib.HoldsBytes w v l) := hv
  have HLL : Hid (l.length ≤ 70368744177664) := hl
  obtain ⟨L, hL⟩ : ∃ L, L = l ++ be (tn n) 8 := ⟨_, rfl⟩
  have HL : Hid (L = l ++ be (tn n) 8) := hL
  rw [← hL]
  have HX : Hid (tn n < 18446744073709551616) := tn_lt n hn
  have ht := turn_top n hn
  clear hn
  obtain ⟨p, cap, rfl, q1, q2⟩ := hv
  clear q1 q2 hL
  go_enter Tryz.func41, Tryz.ntmps41
  go_wp2_with fail
  refine (copied_calls _ _ _ HV.out HLL.out).mono ?_
  rintro e w1 ⟨v1, rfl, ho, hb⟩
  have HO : Hid (Own w.heap.size w1 v1 l) := ho
  have HB : Hid (Below w.heap.size w w1) := hb
  clear ho hb
  go_wp2_with fail
  refine (high_calls w.heap.size _ _ (tn n) 8 _ HX.out (by omega) HB.out.size HO.out HLL.out).mono ?_
  rintro e w3 ⟨v3, rfl, ho, hb⟩
  have HO3 : Hid (Own w.heap.size w3 v3 (l ++ be (tn n) 8)) := ho
  have HB3 : Hid (Below w.heap.size w1 w3) := hb
  clear ho hb
  go_wp2
  go_ret
  exact ⟨_, rfl, by rw [HL.out]; exact HO3.out, HB.out.trans HB3.out⟩
end Go.Proofs.YtakaglfeeipeiaaGreat
namespace Go.Proofs.YtakaglfeeipeiaaGreat
open Go.ChangeShapes Go.WideShapes Go.ChangeAt Go.RowKit
theorem refNum_calls (v : Value) (l : List UInt8) (n : Int) (hn : n < 9223372036854775808) (w : World) (hv : Lib.HoldsBytes w v l) (hl : l.length ≤ 70368744177663) : Calls Tryz.prog 40 #[v, .int .i64 n] w (RB w (l ++ enc n.toNat)) := by
  by_cases h : n < 240
  · exact refNum_small v l n.toNat n h rfl w hv (by omega)
  · obtain ⟨m, rfl⟩ := Int.eq_ofNat_of_zero_le (show 0 ≤ n by omega)
    exact refNum_big v l m (by omega) (by omega) w hv hl
theorem refText_calls (v : Value) (l : List UInt8) (s : ByteArray) (w : World) (hv : Lib.HoldsBytes w v l) (hl : l.length ≤ 70368744177663) (hs : s.size ≤ 35184372088832) :
    Calls Tryz.prog 43 #[v, .string s] w (RB w (l ++ enc s.size ++ s.data.toList)) := by
  obtain ⟨i0, hi, hz0, hz1, hz2⟩ := info_parts Tryz.info5
  obtain ⟨L, hL⟩ : ∃ L, L = l ++ enc s.size ++ s.data.toList := ⟨_, rfl⟩
  have HL : Hid (L = l ++ enc s.size ++ s.data.toList) := hL
  rw [← hL]
  have NC := refNum_calls v l (s.size : Int) (by omega) w hv hl
  rw [Int.toNat_natCast] at NC
  have HC : Hid (Calls Tryz.prog 40 #[v, .int .i64 (s.size : Int)] w (RB w (l ++ enc s.size))) := NC
  have he := enc_length s.size (by omega)
  have hlen : (l ++ enc s.size).length ≤ 70368744177672 := by rw [List.length_append]; omega
  generalize l ++ enc s.size = l2 at HC HL hlen
  obtain ⟨p, cap, rfl, q1, q2⟩ := hv
  clear q1 q2 hL NC he hl
  go_enter Tryz.func43, Tryz.ntmps43
  go_wp2_with fail
  refine HC.out.mono ?_
  rintro e w1 ⟨v1, rfl, ho, hb⟩
  have HO : Hid (Own w.heap.size w1 v1 l2) := ho
  have HB : Hid (Below w.heap.size w w1) := hb
  clear ho hb
  go_wp2_with (at_builtin; refine Lib.wpList_append_own_string _ rfl _ _ 59 9 rfl w.heap.size 5 i0 Tryz.underlying59 Tryz.underlying9 hi hz0 hz1 hz2 _ _ _ rfl HO.out s rfl ?qc4 ?qc5 ?qc6 ?_)
  case qc4 => unfold maxLen; omega
  case qc5 => omega
  case qc6 => exact HB.out.size
  intro v2 w2 hown hgrow hnil
  have HW : Hid (Own w.heap.size w2 v2 (l2 ++ s.data.toList)) := by
    show w2.ownsRow w.heap.size 5 1 v2 _ _
    have e1 : (l2 ++ s.data.toList).length = l2.length + s.size := by rw [List.length_append, str_len]
    have e2 : bval (l2 ++ s.data.toList) = bval l2 ++ Lib.strCells s := by simp [bval, Lib.strCells]
    rw [e1, e2]
    exact hown
  have HBW : Hid (Below w.heap.size w w2) := by
    refine HB.out.grown hgrow HB.out.size ?_
    intro kk hkk
    exact (World.ownsRow.lt HO.out kk hkk).1
  clear hown hgrow hnil
  go_wp2
  go_ret
  exact ⟨_, rfl, by rw [HL.out]; exact HW.out, HBW.out⟩
end Go.Proofs.YtakaglfeeipeiaaGreat
namespace Go.Proofs.YtakaglfeeipeiaaGreat
open Go.ChangeShapes Go.WideShapes Go.ChangeAt Go.RowKit
open FM
theorem belNP (w : World) (n : Nat) : Below w.heap.size w (w.drewN n) := ⟨rfl, rfl, rfl, Nat.le_refl _, fun _ _ => rfl⟩
theorem kd_onei (c : Nat) : ((kd c : Int) == 1) = isN c := kd_one c
theorem refCheck_0 (f : Int) (c : Nat) (m : Int) (hf0 : decide (f < 0) = true) (w : World) :
    Calls Tryz.prog 15 #[.agg #[.int .i64 f, .int .u64 (c : Int), .int .i64 m]] w fun e w' => e = .returned (.int .i64 1) ∧ Below w.heap.size w w' := by
  go_enter Tryz.func15, Tryz.ntmps15
  go_wp2_with fail
  go_quiet (first | (go_at_call 27; exact Calls.quiet_of_same (refCanon_calls c _)) | (go_at_call 28; exact Calls.quiet_of_same (refKind_calls c _)))
  go_wp2_with fail
  go_ret
  exact ⟨rfl, (bel1 _ _).trans ((belNP _ _).mono (by simp))⟩
theorem refCheck_1 (f : Int) (c : Nat) (m : Int) (hf0 : decide (f < 0) = false) (hf1 : decide (1073741824 < f) = true) (w : World) :
    Calls Tryz.prog 15 #[.agg #[.int .i64 f, .int .u64 (c : Int), .int .i64 m]] w fun e w' => e = .returned (.int .i64 1) ∧ Below w.heap.size w w' := by
  go_enter Tryz.func15, Tryz.ntmps15
  go_wp2_with fail
  go_quiet (first | (go_at_call 27; exact Calls.quiet_of_same (refCanon_calls c _)) | (go_at_call 28; exact Calls.quiet_of_same (refKind_calls c _)))
  go_wp2_with fail
  go_ret
  exact ⟨rfl, (bel1 _ _).trans ((belNP _ _).mono (by simp))⟩
theorem refCheck_2 (f : Int) (c : Nat) (m : Int) (hf0 : decide (f < 0) = false) (hf1 : decide (1073741824 < f) = false) (hm0 : decide (m < 0) = true) (w : World) :
    Calls Tryz.prog 15 #[.agg #[.int .i64 f, .int .u64 (c : Int), .int .i64 m]] w fun e w' => e = .returned (.int .i64 1) ∧ Below w.heap.size w w' := by
  go_enter Tryz.func15, Tryz.ntmps15
  go_wp2_with fail
  go_quiet (first | (go_at_call 27; exact Calls.quiet_of_same (refCanon_calls c _)) | (go_at_call 28; exact Calls.quiet_of_same (refKind_calls c _)))
  go_wp2_with fail
  go_ret
  exact ⟨rfl, (bel1 _ _).trans ((belNP _ _).mono (by simp))⟩
theorem refCheck_3 (f : Int) (c : Nat) (m : Int) (hf0 : decide (f < 0) = false) (hf1 : decide (1073741824 < f) = false) (hm0 : decide (m < 0) = false) (hm1 : decide (1073741824 < m) = true) (w : World) :
    Calls Tryz.prog 15 #[.agg #[.int .i64 f, .int .u64 (c : Int), .int .i64 m]] w fun e w' => e = .returned (.int .i64 1) ∧ Below w.heap.size w w' := by
  go_enter Tryz.func15, Tryz.ntmps15
  go_wp2_with fail
  go_quiet (first | (go_at_call 27; exact Calls.quiet_of_same (refCanon_calls c _)) | (go_at_call 28; exact Calls.quiet_of_same (refKind_calls c _)))
  go_wp2_with fail
  go_ret
  exact ⟨rfl, (bel1 _ _).trans ((belNP _ _).mono (by simp))⟩
theorem refCheck_4 (f : Int) (c : Nat) (m : Int) (hf0 : decide (f < 0) = false) (hf1 : decide (1073741824 < f) = false) (hm0 : decide (m < 0) = false) (hm1 : decide (1073741824 < m) = false) (hcn : ((c : Int) != ((cn c : Nat) : Int)) = true) (w : World) :
    Calls Tryz.prog 15 #[.agg #[.int .i64 f, .int .u64 (c : Int), .int .i64 m]] w fun e w' => e = .returned (.int .i64 1) ∧ Below w.heap.size w w' := by
  go_enter Tryz.func15, Tryz.ntmps15
  go_wp2_with fail
  go_quiet (first | (go_at_call 27; exact Calls.quiet_of_same (refCanon_calls c _)) | (go_at_call 28; exact Calls.quiet_of_same (refKind_calls c _)))
  go_wp2_with fail
  go_ret
  exact ⟨rfl, (bel1 _ _).trans ((belNP _ _).mono (by simp))⟩
theorem refCheck_5 (f : Int) (c : Nat) (m : Int) (hf0 : decide (f < 0) = false) (hf1 : decide (1073741824 < f) = false) (hm0 : decide (m < 0) = false) (hm1 : decide (1073741824 < m) = false) (hcn : ((c : Int) != ((cn c : Nat) : Int)) = false) (hna : ((kd c : Int) == 1) = true) (w : World) :
    Calls Tryz.prog 15 #[.agg #[.int .i64 f, .int .u64 (c : Int), .int .i64 m]] w fun e w' => e = .returned (.int .i64 1) ∧ Below w.heap.size w w' := by
  go_enter Tryz.func15, Tryz.ntmps15
  go_wp2_with fail
  go_quiet (first | (go_at_call 27; exact Calls.quiet_of_same (refCanon_calls c _)) | (go_at_call 28; exact Calls.quiet_of_same (refKind_calls c _)))
  go_wp2_with fail
  go_ret
  exact ⟨rfl, (bel1 _ _).trans ((belNP _ _).mono (by simp))⟩
theorem refCheck_6 (f : Int) (c : Nat) (m : Int) (hf0 : decide (f < 0) = false) (hf1 : decide (1073741824 < f) = false) (hm0 : decide (m < 0) = false) (hm1 : decide (1073741824 < m) = false) (hcn : ((c : Int) != ((cn c : Nat) : Int)) = false) (hna : ((kd c : Int) == 1) = false) (w : World) :
    Calls Tryz.prog 15 #[.agg #[.int .i64 f, .int .u64 (c : Int), .int .i64 m]] w fun e w' => e = .returned (.int .i64 0) ∧ Below w.heap.size w w' := by
  go_enter Tryz.func15, Tryz.ntmps15
  go_wp2_with fail
  go_quiet (first | (go_at_call 27; exact Calls.quiet_of_same (refCanon_calls c _)) | (go_at_call 28; exact Calls.quiet_of_same (refKind_calls c _)))
  go_wp2_with fail
  go_ret
  exact ⟨rfl, (bel1 _ _).trans ((belNP _ _).mono (by simp))⟩
theorem refCheck_calls (f : Int) (c : Nat) (m : Int) (w : World) :
    Calls Tryz.prog 15 #[.agg #[.int .i64 f, .int .u64 (c : Int), .int .i64 m]] w fun e w' => e = .returned (.int .i64 (ce (may f c m))) ∧ Below w.heap.size w w' := by
  have hk := kd_one c
  cases hf0 : decide (f < 0)
  · cases hf1 : decide (1073741824 < f)
    · cases hm0 : decide (m < 0)
      · cases hm1 : decide (1073741824 < m)
        · cases hcn : ((c : Int) == ((cn c : Nat) : Int))
          · have hne : ((c : Int) != ((cn c : Nat) : Int)) = true := by unfold bne; rw [hcn]; rfl
            have : may f c m = false := by
              unfold may isC; rw [beq_eq_false_iff_ne] at hcn
              have : ¬ cn c = c := fun h => hcn (by rw [h])
              simp [this]
            rw [this]; exact refCheck_4 f c m hf0 hf1 hm0 hm1 hne w
          · have hne : ((c : Int) != ((cn c : Nat) : Int)) = false := by unfold bne; rw [hcn]; rfl
            cases hna : ((kd c : Int) == 1)
            · have : may f c m = true := by
                unfold may isC isD
                rw [hna] at hk
                rw [beq_iff_eq] at hcn
                simp at hf0 hf1 hm0 hm1
                have hc : cn c = c := by omega
                simp [← hk, hc]
                omega
              rw [this]; exact refCheck_6 f c m hf0 hf1 hm0 hm1 hne hna w
            · have : may f c m = false := by
                unfold may isC
                rw [hna] at hk
                simp [← hk]
              rw [this]; exact refCheck_5 f c m hf0 hf1 hm0 hm1 hne hna w
        · have : may f c m = false := by unfold may isD; simp at hm1; simp; omega
          rw [this]; exact refCheck_3 f c m hf0 hf1 hm0 hm1 w
      · have : may f c m = false := by unfold may isD; simp at hm0; simp; omega
        rw [this]; exact refCheck_2 f c m hf0 hf1 hm0 w
    · have : may f c m = false := by unfold may isD; simp at hf1; simp; omega
      rw [this]; exact refCheck_1 f c m hf0 hf1 w
  · have : may f c m = false := by unfold may isD; simp at hf0; simp; omega
    rw [this]; exact refCheck_0 f c m hf0 w
end Go.Proofs.YtakaglfeeipeiaaGreat
namespace Go.Proofs.YtakaglfeeipeiaaGreat
open Go.ChangeShapes Go.WideShapes Go.ChangeAt Go.RowKit Go.BigFrame
def Pre1 (k x : Int) (b : Nat) (s : ByteArray) (n : Nat) : Prop := 0 ≤ k ∧ k ≤ 4 ∧ (k = 1 ∨ x = 0) ∧ (k = 2 ∨ b = 0) ∧ (k = 3 ∨ s.toList = []) ∧ (k = 4 ∨ n = 0)
theorem no_n {k : Int} {N : Nat} (h : (0 ≤ k ∧ k ≤ 4) ∧ ((k != 4) = false ∨ ¬ 0 < N)) (h4 : ¬ k = 4) : N = 0 := by
  rcases h.2 with h | h
  · exact absurd (by simpa using h) h4
  · omega
set_option maxHeartbeats 2000000 in
set_option maxRecDepth 100000 in
theorem shape_no1 (k x : Int) (b : Nat) (s : ByteArray) (a : Option Addr) (N c : Nat) (d : Int) (w : World) (p : Prop) (hp : ¬ p) (h : ¬ Pre1 k x b s N) :
    Calls Tryz.prog 25 #[.agg #[.int .i64 k, .int .i64 x, .int .u64 (b : Int), .string s, .slice a N c], .int .i64 d] w (FP p w) := by
  have HP : Hid (¬ p) := hp
  have HQ : Hid (¬ Pre1 k x b s N) := h
  clear hp h
  go_enter Tryz.func25, Tryz.ntmps25
  go_wp2_with fail
  all_goals first
    | (go_ret; exact FP.no HP.out (bel1 _ _))
    | (refine absurd ⟨by assumption, by assumption, by first | exact .inl (by assumption) | exact .inr (by assumption), by first | exact .inl (by assumption) | exact .inr (by assumption), by first | exact .inl (by assumption) | exact .inr (by assumption), by first | exact .inl (by assumption) | exact .inr (by omega) | exact .inr (no_n (by assumption) (by assumption))⟩ HQ.out)
end Go.Proofs.YtakaglfeeipeiaaGreat
namespace Go.Proofs.YtakaglfeeipeiaaGreat
open Go.ChangeShapes Go.WideShapes Go.ChangeAt Go.RowKit Go.BigFrame
set_option maxHeartbeats 2000000 in
set_option maxRecDepth 100000 in
theorem shape_y0 (a : Option Addr) (c : Nat) (d : Int) (w : World) (p : Prop) (hp : p) :
    Calls Tryz.prog 25 #[.agg #[.int .i64 0, .int .i64 0, .int .u64 0, .string ⟨#[]⟩, .slice a 0 c], .int .i64 d] w (FP p w) := by
  have HP : Hid (p) := hp
  have HC : Hid (∀ w, Calls Tryz.prog 27 #[.int .u64 0] w fun e w' => e = .returned (.int .u64 0) ∧ w' = w) := fun w => refCanon_calls 0 w
  clear hp
  go_enter Tryz.func25, Tryz.ntmps25
  go_wp2_with fail
  refine wp_region_quiet_lit (by kernel_rfl) (by kernel_rfl) ?_
  repeat (go_big_quiet_step (first | (go_at_call 27; exact Calls.quiet_of_same (HC.out _))))
  refine wpQuiet_nil ?_
  intro _ hw'
  obtain ⟨nq, hw''⟩ := hw'
  subst hw''
  generalize hW0 : w.alloc (Obj.cells #[.int .i64 0, .int .i64 0, .int .u64 0, .string ⟨#[]⟩, .slice a 0 c] 29) = W0
  have hg : (W0.drewN nq).cell? ⟨w.heap.size, 4, none⟩ = some (.slice a 0 c) := by subst hW0; rw [World.cell?_drewN]; go_simp
  have HB : Hid (Below w.heap.size w (W0.drewN nq)) := by subst hW0; exact bel2 (bel1 _ _) (belN _ _)
  generalize W0.drewN nq = W1 at hg HB ⊢
  clear hW0
  go_wp2_with fail
  go_loopw [5] (fun i wr => i = .int .i64 0 ∧ wr = W1) (fun _ _ => 0)
  case atStart => exact ⟨rfl, rfl⟩
  case round =>
    obtain ⟨rfl, rfl⟩ := hrel
    go_wp2_with fail
    go_ret
    exact FP.yes HP.out HB.out
set_option maxHeartbeats 2000000 in
set_option maxRecDepth 100000 in
theorem shape_y1 (x : Int) (a : Option Addr) (c : Nat) (d : Int) (w : World) (p : Prop) (hp : p) :
    Calls Tryz.prog 25 #[.agg #[.int .i64 1, .int .i64 x, .int .u64 0, .string ⟨#[]⟩, .slice a 0 c], .int .i64 d] w (FP p w) := by
  have HP : Hid (p) := hp
  have HC : Hid (∀ w, Calls Tryz.prog 27 #[.int .u64 0] w fun e w' => e = .returned (.int .u64 0) ∧ w' = w) := fun w => refCanon_calls 0 w
  clear hp
  go_enter Tryz.func25, Tryz.ntmps25
  go_wp2_with fail
  refine wp_region_quiet_lit (by kernel_rfl) (by kernel_rfl) ?_
  repeat (go_big_quiet_step (first | (go_at_call 27; exact Calls.quiet_of_same (HC.out _))))
  refine wpQuiet_nil ?_
  intro _ hw'
  obtain ⟨nq, hw''⟩ := hw'
  subst hw''
  generalize hW0 : w.alloc (Obj.cells #[.int .i64 1, .int .i64 x, .int .u64 0, .string ⟨#[]⟩, .slice a 0 c] 29) = W0
  have hg : (W0.drewN nq).cell? ⟨w.heap.size, 4, none⟩ = some (.slice a 0 c) := by subst hW0; rw [World.cell?_drewN]; go_simp
  have HB : Hid (Below w.heap.size w (W0.drewN nq)) := by subst hW0; exact bel2 (bel1 _ _) (belN _ _)
  generalize W0.drewN nq = W1 at hg HB ⊢
  clear hW0
  go_wp2_with fail
  go_loopw [5] (fun i wr => i = .int .i64 0 ∧ wr = W1) (fun _ _ => 0)
  case atStart => exact ⟨rfl, rfl⟩
  case round =>
    obtain ⟨rfl, rfl⟩ := hrel
    go_wp2_with fail
    go_ret
    exact FP.yes HP.out HB.out
set_option maxHeartbeats 2000000 in
set_option maxRecDepth 100000 in
theorem shape_y2 (b b' : Nat) (hC : ∀ w, Calls Tryz.prog 27 #[.int .u64 (b : Int)] w fun e w' => e = .returned (.int .u64 (b' : Int)) ∧ w' = w) (h : b' = b) (a : Option Addr) (c : Nat) (d : Int) (w : World) (p : Prop) (hp : p) :
    Calls Tryz.prog 25 #[.agg #[.int .i64 2, .int .i64 0, .int .u64 (b : Int), .string ⟨#[]⟩, .slice a 0 c], .int .i64 d] w (FP p w) := by
  have HP : Hid (p) := hp
  have HC : Hid (∀ w, Calls Tryz.prog 27 #[.int .u64 (b : Int)] w fun e w' => e = .returned (.int .u64 (b' : Int)) ∧ w' = w) := hC
  clear hp
  have f1 : ((b : Int) != (b' : Int)) = false := by simp [h]
  have f2 : (b != b') = false := by simp [h]
  clear h hC
  go_enter Tryz.func25, Tryz.ntmps25
  go_wp2_with fail
  refine wp_region_quiet_lit (by kernel_rfl) (by kernel_rfl) ?_
  repeat (go_big_quiet_step (first | (go_at_call 27; exact Calls.quiet_of_same (HC.out _))))
  refine wpQuiet_nil ?_
  intro _ hw'
  obtain ⟨nq, hw''⟩ := hw'
  subst hw''
  generalize hW0 : w.alloc (Obj.cells #[.int .i64 2, .int .i64 0, .int .u64 (b : Int), .string ⟨#[]⟩, .slice a 0 c] 29) = W0
  have hg : (W0.drewN nq).cell? ⟨w.heap.size, 4, none⟩ = some (.slice a 0 c) := by subst hW0; rw [World.cell?_drewN]; go_simp
  have HB : Hid (Below w.heap.size w (W0.drewN nq)) := by subst hW0; exact bel2 (bel1 _ _) (belN _ _)
  generalize W0.drewN nq = W1 at hg HB ⊢
  clear hW0
  go_wp2_with fail
  go_loopw [5] (fun i wr => i = .int .i64 0 ∧ wr = W1) (fun _ _ => 0)
  case atStart => exact ⟨rfl, rfl⟩
  case round =>
    obtain ⟨rfl, rfl⟩ := hrel
    go_wp2_with fail
    go_ret
    exact FP.yes HP.out HB.out
set_option maxHeartbeats 2000000 in
set_option maxRecDepth 100000 in
theorem shape_n2 (b b' : Nat) (hC : ∀ w, Calls Tryz.prog 27 #[.int .u64 (b : Int)] w fun e w' => e = .returned (.int .u64 (b' : Int)) ∧ w' = w) (h : ¬ b' = b) (a : Option Addr) (c : Nat) (d : Int) (w : World) (p : Prop) (hp : ¬ p) :
    Calls Tryz.prog 25 #[.agg #[.int .i64 2, .int .i64 0, .int .u64 (b : Int), .string ⟨#[]⟩, .slice a 0 c], .int .i64 d] w (FP p w) := by
  have HP : Hid (¬ p) := hp
  have HC : Hid (∀ w, Calls Tryz.prog 27 #[.int .u64 (b : Int)] w fun e w' => e = .returned (.int .u64 (b' : Int)) ∧ w' = w) := hC
  clear hp
  have f1 : ((b : Int) != (b' : Int)) = true := by simp; omega
  have f2 : (b != b') = true := by simp; omega
  clear h hC
  go_enter Tryz.func25, Tryz.ntmps25
  go_wp2_with fail
  refine wp_region_quiet_lit (by kernel_rfl) (by kernel_rfl) ?_
  repeat (go_big_quiet_step (first | (go_at_call 27; exact Calls.quiet_of_same (HC.out _))))
  refine wpQuiet_nil ?_
  intro _ hw'
  obtain ⟨nq, hw''⟩ := hw'
  subst hw''
  go_wp2_with fail
  go_ret
  exact FP.no HP.out (bel2 (bel1 _ _) (belN _ _))
set_option maxHeartbeats 2000000 in
set_option maxRecDepth 100000 in
theorem shape_y3 (s : ByteArray) (h : s.size ≤ 200) (a : Option Addr) (c : Nat) (d : Int) (w : World) (p : Prop) (hp : p) :
    Calls Tryz.prog 25 #[.agg #[.int .i64 3, .int .i64 0, .int .u64 0, .string s, .slice a 0 c], .int .i64 d] w (FP p w) := by
  have HP : Hid (p) := hp
  have HC : Hid (∀ w, Calls Tryz.prog 27 #[.int .u64 0] w fun e w' => e = .returned (.int .u64 0) ∧ w' = w) := fun w => refCanon_calls 0 w
  clear hp
  have f1 : decide (200 < (s.size : Int)) = false := decide_eq_false (by omega)
  have f2 : decide (200 < s.size) = false := decide_eq_false (by omega)
  clear h
  go_enter Tryz.func25, Tryz.ntmps25
  go_wp2_with fail
  refine wp_region_quiet_lit (by kernel_rfl) (by kernel_rfl) ?_
  repeat (go_big_quiet_step (first | (go_at_call 27; exact Calls.quiet_of_same (HC.out _))))
  refine wpQuiet_nil ?_
  intro _ hw'
  obtain ⟨nq, hw''⟩ := hw'
  subst hw''
  generalize hW0 : w.alloc (Obj.cells #[.int .i64 3, .int .i64 0, .int .u64 0, .string s, .slice a 0 c] 29) = W0
  have hg : (W0.drewN nq).cell? ⟨w.heap.size, 4, none⟩ = some (.slice a 0 c) := by subst hW0; rw [World.cell?_drewN]; go_simp
  have HB : Hid (Below w.heap.size w (W0.drewN nq)) := by subst hW0; exact bel2 (bel1 _ _) (belN _ _)
  generalize W0.drewN nq = W1 at hg HB ⊢
  clear hW0
  go_wp2_with fail
  go_loopw [5] (fun i wr => i = .int .i64 0 ∧ wr = W1) (fun _ _ => 0)
  case atStart => exact ⟨rfl, rfl⟩
  case round =>
    obtain ⟨rfl, rfl⟩ := hrel
    go_wp2_with fail
    go_ret
    exact FP.yes HP.out HB.out
set_option maxHeartbeats 2000000 in
set_option maxRecDepth 100000 in
theorem shape_n3 (s : ByteArray) (h : ¬ s.size ≤ 200) (a : Option Addr) (c : Nat) (d : Int) (w : World) (p : Prop) (hp : ¬ p) :
    Calls Tryz.prog 25 #[.agg #[.int .i64 3, .int .i64 0, .int .u64 0, .string s, .slice a 0 c], .int .i64 d] w (FP p w) := by
  have HP : Hid (¬ p) := hp
  have HC : Hid (∀ w, Calls Tryz.prog 27 #[.int .u64 0] w fun e w' => e = .returned (.int .u64 0) ∧ w' = w) := fun w => refCanon_calls 0 w
  clear hp
  have f1 : decide (200 < (s.size : Int)) = true := decide_eq_true (by omega)
  have f2 : decide (200 < s.size) = true := decide_eq_true (by omega)
  clear h
  go_enter Tryz.func25, Tryz.ntmps25
  go_wp2_with fail
  refine wp_region_quiet_lit (by kernel_rfl) (by kernel_rfl) ?_
  repeat (go_big_quiet_step (first | (go_at_call 27; exact Calls.quiet_of_same (HC.out _))))
  refine wpQuiet_nil ?_
  intro _ hw'
  obtain ⟨nq, hw''⟩ := hw'
  subst hw''
  go_wp2_with fail
  go_ret
  exact FP.no HP.out (bel2 (bel1 _ _) (belN _ _))
set_option maxHeartbeats 2000000 in
set_option maxRecDepth 100000 in
theorem shape_n4 (N : Nat) (h : ¬ N ≤ 12) (a : Option Addr) (c : Nat) (d : Int) (w : World) (p : Prop) (hp : ¬ p) :
    Calls Tryz.prog 25 #[.agg #[.int .i64 4, .int .i64 0, .int .u64 0, .string ⟨#[]⟩, .slice a N c], .int .i64 d] w (FP p w) := by
  have HP : Hid (¬ p) := hp
  have HC : Hid (∀ w, Calls Tryz.prog 27 #[.int .u64 0] w fun e w' => e = .returned (.int .u64 0) ∧ w' = w) := fun w => refCanon_calls 0 w
  clear hp
  have f1 : decide (12 < (N : Int)) = true := decide_eq_true (by omega)
  have f2 : decide (12 < N) = true := decide_eq_true (by omega)
  clear h
  go_enter Tryz.func25, Tryz.ntmps25
  go_wp2_with fail
  refine wp_region_quiet_lit (by kernel_rfl) (by kernel_rfl) ?_
  repeat (go_big_quiet_step (first | (go_at_call 27; exact Calls.quiet_of_same (HC.out _))))
  refine wpQuiet_nil ?_
  intro _ hw'
  obtain ⟨nq, hw''⟩ := hw'
  subst hw''
  go_wp2_with fail
  go_ret
  exact FP.no HP.out (bel2 (bel1 _ _) (belN _ _))
set_option maxHeartbeats 2000000 in
set_option maxRecDepth 100000 in
theorem shape_d4 (N : Nat) (h : N ≤ 12) (a : Option Addr) (c : Nat) (w : World) (p : Prop) (hp : ¬ p) :
    Calls Tryz.prog 25 #[.agg #[.int .i64 4, .int .i64 0, .int .u64 0, .string ⟨#[]⟩, .slice a N c], .int .i64 0] w (FP p w) := by
  have HP : Hid (¬ p) := hp
  have HC : Hid (∀ w, Calls Tryz.prog 27 #[.int .u64 0] w fun e w' => e = .returned (.int .u64 0) ∧ w' = w) := fun w => refCanon_calls 0 w
  clear hp
  have f1 : decide (12 < (N : Int)) = false := decide_eq_false (by omega)
  have f2 : decide (12 < N) = false := decide_eq_false (by omega)
  clear h
  go_enter Tryz.func25, Tryz.ntmps25
  go_wp2_with fail
  refine wp_region_quiet_lit (by kernel_rfl) (by kernel_rfl) ?_
  repeat (go_big_quiet_step (first | (go_at_call 27; exact Calls.quiet_of_same (HC.out _))))
  refine wpQuiet_nil ?_
  intro _ hw'
  obtain ⟨nq, hw''⟩ := hw'
  subst hw''
  go_wp2_with fail
  go_ret
  exact FP.no HP.out (bel2 (bel1 _ _) (belN _ _))
end Go.Proofs.YtakaglfeeipeiaaGreat
namespace Go.Proofs.YtakaglfeeipeiaaGreat
open Go.ChangeShapes Go.WideShapes Go.ChangeAt Go.RowKit Go.BigFrame
def ShapeAt (n : Nat) : Prop := ∀ (v : Value) (t : Tv) (d : Int) (w : World), 0 ≤ d → d ≤ 4 → Is w n v t → Calls Tryz.prog 25 #[v, .int .i64 d] w (FP (ShapeT n d t) w)
set_option maxHeartbeats 2000000 in
set_option maxRecDepth 100000 in
theorem shape_y4 (n : Nat) (ih : ShapeAt n) (a : Option Addr) (c : Nat) (l : List Tv) (d : Int) (w : World) (hl : l.length ≤ 12) (d0 : 0 ≤ d) (d4 : d ≤ 4) (hd : d ≠ 0) (hr : Row (Is w n) w a l) (p : Prop) (hp : p ↔ ∀ (i : Nat) t, l[i]? = some t → ShapeT n (d - 1) t) :
    Calls Tryz.prog 25 #[.agg #[.int .i64 4, .int .i64 0, .int .u64 0, .string ⟨#[]⟩, .slice a l.length c], .int .i64 d] w (FP p w) := by
  obtain ⟨N, hN⟩ : ∃ N, N = l.length := ⟨_, rfl⟩
  obtain ⟨e, he⟩ : ∃ e : Int, e = d - 1 := ⟨_, rfl⟩
  have hw1 : wrap64 (d - 1) = e := by rw [he]; unfold wrap64; omega
  have hw2 : IntKind.i64.wrap (d - 1) = e := by rw [he, IntKind.wrap_i64]; omega
  rw [← hN]
  rw [← he] at hp
  have HP : Hid (p ↔ ∀ (i : Nat) t, l[i]? = some t → ShapeT n e t) := hp
  have HR : Hid (Row (Is w n) w a l) := hr
  have HN : Hid (N = l.length ∧ N ≤ 12) := ⟨hN, by omega⟩
  have HI : Hid (∀ (v : Value) (t : Tv) (w : World), Is w n v t → Calls Tryz.prog 25 #[v, .int .i64 e] w (FP (ShapeT n e t) w)) := fun v t w h => ih v t e w (by omega) (by omega) h
  have HC : Hid (∀ w, Calls Tryz.prog 27 #[.int .u64 0] w fun e w' => e = .returned (.int .u64 0) ∧ w' = w) := fun w => refCanon_calls 0 w
  have f1 : decide (12 < (N : Int)) = false := decide_eq_false (by omega)
  have f2 : decide (12 < N) = false := decide_eq_false (by omega)
  have f3 : (d == 0) = false := by simpa using hd
  clear hp hr hN hl d0 d4 hd he ih
  go_enter Tryz.func25, Tryz.ntmps25
  go_wp2_with fail
  refine wp_region_quiet_lit (by kernel_rfl) (by kernel_rfl) ?_
  repeat (go_big_quiet_step (first | (go_at_call 27; exact Calls.quiet_of_same (HC.out _))))
  refine wpQuiet_nil ?_
  intro _ hw'
  obtain ⟨nq, hw''⟩ := hw'
  subst hw''
  generalize hW0 : w.alloc (Obj.cells #[.int .i64 4, .int .i64 0, .int .u64 0, .string ⟨#[]⟩, .slice a N c] 29) = W0
  have hg : (W0.drewN nq).cell? ⟨w.heap.size, 4, none⟩ = some (.slice a N c) := by subst hW0; rw [World.cell?_drewN]; go_simp
  have HB : Hid (Below w.heap.size w (W0.drewN nq)) := by subst hW0; exact bel2 (bel1 _ _) (belN _ _)
  have HS : Hid (w.heap.size < (W0.drewN nq).heap.size) := by subst hW0; show _ < _; simp [World.drewN]
  generalize W0.drewN nq = W1 at hg HB HS ⊢
  clear hW0 f1 f2 f3
  have HG : Hid (W1.cell? ⟨w.heap.size, 4, none⟩ = some (.slice a N c)) := hg
  clear hg
  go_wp2_with fail
  go_loopw [5] (fun i wr => ∃ j : Nat, j ≤ N ∧ i = .int .i64 j ∧ Hid (∀ (i : Nat) t, i < j → l[i]? = some t → ShapeT n e t) ∧ Hid (Below W1.heap.size W1 wr)) (fun i _ => N - (intOf i).toNat)
  case atStart => exact ⟨0, Nat.zero_le _, rfl, fun i t hi => absurd hi (Nat.not_lt_zero i), Below.refl _ _⟩
  case round =>
    obtain ⟨j, hj, rfl, HE, HBr⟩ := hrel
    have g0 : wr.cell? ⟨w.heap.size, 4, none⟩ = some (.slice a N c) := (HBr.out.cell HS.out).trans HG.out
    by_cases hlt : j < N
    · have HT : Hid (j < l.length) := by have := HN.out.1; show _ < _; omega
      obtain ⟨B, o, c0, c1, c2, c3, c4, rfl, h5, hi⟩ := HR.out j _ (List.getElem?_eq_getElem HT.out)
      obtain ⟨k', x', b', s', a', m', c', rfl, rfl, rfl, rfl, rfl⟩ := hi.shape
      have HBw := bel2 HB.out HBr.out
      obtain ⟨e0, e1, e2, e3, e4⟩ := h5.below HBw
      have C0 : Hid (Calls Tryz.prog 25 #[_, .int .i64 e] wr _) := HI.out _ _ wr (hi.below HBw)
      have HW : Hid (wrap64 ((j : Int) + 1) = ((j + 1 : Nat) : Int)) := wr1 hlt (by have := HN.out.2; omega)
      have hjl : (j : Int) < (N : Int) := by omega
      clear hi h5 HBw
      go_wp2_with fail
      refine C0.out.mono ?_
      rintro x w1 ⟨⟨r1, rfl, hr1⟩, hb1⟩
      have HB1 : Hid (Below W1.heap.size W1 w1) := bel2 HBr.out hb1
      have HR1 : Hid (r1 = true ↔ ShapeT n e (l[j]'HT.out)) := hr1
      clear hb1 hr1
      cases r1
      · go_wp2_with fail
        go_ret
        exact FP.no (fun q => by cases HR1.out.2 (HP.out.1 q j _ (List.getElem?_eq_getElem HT.out))) (bel2 HB.out HB1.out)
      · go_wp2_with fail
        refine ⟨⟨j + 1, hlt, by rw [HW.out], fun i t hi ht => ?_, HB1⟩, meas hlt HW.out⟩
        by_cases hij : i = j
        · subst hij
          rw [List.getElem?_eq_getElem HT.out] at ht
          cases ht
          simpa using HR1.out
        · exact HE.out i t (by omega) ht
    · obtain rfl : j = N := by omega
      go_wp2_with fail
      go_ret
      exact FP.yes (HP.out.2 fun i t ht => HE.out i t (by have := (List.getElem?_eq_some_iff.1 ht).1; have := HN.out.1; omega) ht) (bel2 HB.out HBr.out)
theorem shape_calls : ∀ n, ShapeAt n := by
  intro n
  induction n with
  | zero => intro v t d w _ _ h; exact h.elim
  | succ n ih =>
    rintro v ⟨k, x, b, s, l⟩ d w d0 d4 ⟨a, c, rfl, hf, hr⟩
    obtain ⟨b, rfl⟩ : ∃ m : Nat, b = m := ⟨b.toNat, by have := hf.b0; omega⟩
    by_cases hP : Pre1 k x b s l.length
    · obtain ⟨k0, k4, hx, hb, hs, hn⟩ := hP
      have hcn0 : cn 0 = 0 := by decide
      have hz0 : (⟨#[]⟩ : ByteArray).toList = [] := by rw [Lib.toList_data]
      have hsz : ∀ s : ByteArray, s.toList = [] → s = ⟨#[]⟩ := fun s h => tl_inj (h.trans hz0.symm)
      rcases (by omega : k = 0 ∨ k = 1 ∨ k = 2 ∨ k = 3 ∨ k = 4) with rfl | rfl | rfl | rfl | rfl
      · obtain rfl : x = 0 := by omega
        obtain rfl : b = 0 := by omega
        obtain rfl := hsz s (hs.resolve_left (by decide))
        obtain rfl : l = [] := List.eq_nil_of_length_eq_zero (hn.resolve_left (by decide))
        exact shape_y0 a c d w _ ⟨⟨by decide, by decide, .inr rfl, .inr rfl, hcn0, .inr hz0, by decide, .inr rfl, by decide⟩, (fun h => by cases h), (fun i t h => by simp at h)⟩
      · obtain rfl : b = 0 := by omega
        obtain rfl := hsz s (hs.resolve_left (by decide))
        obtain rfl : l = [] := List.eq_nil_of_length_eq_zero (hn.resolve_left (by decide))
        exact shape_y1 x a c d w _ ⟨⟨by decide, by decide, .inl rfl, .inr rfl, hcn0, .inr hz0, by decide, .inr rfl, by decide⟩, (fun h => by cases h), (fun i t h => by simp at h)⟩
      · obtain rfl : x = 0 := by omega
        obtain rfl := hsz s (hs.resolve_left (by decide))
        obtain rfl : l = [] := List.eq_nil_of_length_eq_zero (hn.resolve_left (by decide))
        by_cases hc : cn b = b
        · exact shape_y2 b (cn b) (refCanon_calls b) hc a c d w _ ⟨⟨by decide, by decide, .inr rfl, .inl rfl, hc, .inr hz0, by decide, .inr rfl, by decide⟩, (fun h => by cases h), (fun i t h => by simp at h)⟩
        · exact shape_n2 b (cn b) (refCanon_calls b) hc a c d w _ (fun q => hc q.1.2.2.2.2.1)
      · obtain rfl : x = 0 := by omega
        obtain rfl : b = 0 := by omega
        obtain rfl : l = [] := List.eq_nil_of_length_eq_zero (hn.resolve_left (by decide))
        by_cases hc : s.size ≤ 200
        · exact shape_y3 s hc a c d w _ ⟨⟨by decide, by decide, .inr rfl, .inr rfl, hcn0, .inl rfl, hc, .inr rfl, by decide⟩, (fun h => by cases h), (fun i t h => by simp at h)⟩
        · exact shape_n3 s hc a c d w _ (fun q => hc q.1.2.2.2.2.2.2.1)
      · obtain rfl : x = 0 := by omega
        obtain rfl : b = 0 := by omega
        obtain rfl := hsz s (hs.resolve_left (by decide))
        by_cases hc : l.length ≤ 12
        · by_cases hd : d = 0
          · subst hd
            exact shape_d4 l.length hc a c w _ (fun q => q.2.1 rfl rfl)
          · exact shape_y4 n ih a c l d w hc d0 d4 hd hr _ ⟨fun q => q.2.2, fun q => ⟨⟨by decide, by decide, .inr rfl, .inr rfl, hcn0, .inr hz0, by decide, .inl rfl, hc⟩, (fun _ => hd), q⟩⟩
        · exact shape_n4 l.length hc a c d w _ (fun q => hc q.1.2.2.2.2.2.2.2.2)
    · refine shape_no1 k x b s a l.length c d w _ (fun q => hP ?_) hP
      obtain ⟨q1, q2, q3, q4, _, q6, _, q8, _⟩ := q.1
      exact ⟨q1, q2, q3, by simpa using q4, q6, q8⟩
end Go.Proofs.YtakaglfeeipeiaaGreat
namespace Go.Proofs.YtakaglfeeipeiaaGreat
open Go.ChangeShapes Go.WideShapes Go.ChangeAt Go.RowKit Go.BigFrame
def BD : Nat → Nat
  | 0 => 210
  | d + 1 => 210 + 13 * BD d
theorem flat_bd {n B : Nat} : ∀ (l : List Tv), (∀ (i : Nat) t, l[i]? = some t → (bytesT n t).length ≤ B) → ((l.map (bytesT n)).flatten).length ≤ l.length * B
  | [], _ => by simp
  | t :: l, h => by
    have h0 := h 0 t rfl
    have h1 := flat_bd l (fun i u hu => h (i + 1) u (by simpa using hu))
    simp only [List.map_cons, List.flatten_cons, List.length_append, List.length_cons]
    rw [Nat.succ_mul]
    omega
theorem bytes_bd : ∀ (n d : Nat) (t : Tv), ShapeT n (d : Int) t → (bytesT n t).length ≤ BD d
  | 0, _, _, h => h.elim
  | n + 1, d, .mk k x b s l, ⟨hf, hk, hl⟩ => by
    obtain ⟨k0, k4, _, _, _, _, hs, _, hn⟩ := hf
    have e1 : (enc k.toNat).length = 1 := enc_one (by omega)
    have e2 : (enc s.size).length = 1 := enc_small hs
    have e3 : (enc l.length).length = 1 := enc_one hn
    have hd : 210 ≤ BD d := by cases d <;> simp [BD]
    unfold bytesT
    rw [List.length_append, e1]
    split
    · rw [be_length]; omega
    · split
      · rw [be_length]; omega
      · split
        · rw [List.length_append, e2, str_len]; omega
        · split
          · rename_i h4
            rw [List.length_append, e3]
            have hd0 := hk h4
            obtain ⟨d', rfl⟩ : ∃ d', d = d' + 1 := ⟨d - 1, by omega⟩
            have := flat_bd l (B := BD d') (fun i t ht => bytes_bd n d' t (by have := hl i t ht; rwa [show (((d' + 1 : Nat) : Int) - 1) = (d' : Int) by omega] at this))
            have h12 : l.length * BD d' ≤ 12 * BD d' := Nat.mul_le_mul_right _ hn
            simp only [BD]
            omega
          · simp; omega
/-- What a writer of the reference gives. -/
def RH (w : World) (l : List UInt8) (e : Ending) (w' : World) : Prop := ∃ v', e = .returned v' ∧ Lib.HoldsBytes w' v' l ∧ Below w.heap.size w w'
def BytesAt (n : Nat) : Prop := ∀ (d : Nat) (v : Value) (t : Tv) (b : Value) (L : List UInt8) (w : World), Is w n v t → ShapeT n (d : Int) t → Lib.HoldsBytes w b L → L.length + BD d ≤ 70368744177663 → Calls Tryz.prog 26 #[b, v] w (RH w (L ++ bytesT n t))
theorem holds_sliceY {w : World} {v : Value} {l : List UInt8} (h : Lib.HoldsBytes w v l) : ∃ p m c, v = .slice p m c := by obtain ⟨p, c, rfl, _⟩ := h; exact ⟨_, _, _, rfl⟩
set_option maxHeartbeats 2000000 in
set_option maxRecDepth 100000 in
theorem bytes_flat (k x : Int) (b : Nat) (s : ByteArray) (a : Option Addr) (c : Nat) (bv : Value) (L : List UInt8) (w : World) (hk0 : 0 ≤ k) (hk : k ≤ 3) (hx : (Lit.int .i64 x).wf = true) (hb : b < 18446744073709551616) (hs : s.size ≤ 200) (hv : Lib.HoldsBytes w bv L) (hl : L.length + 210 ≤ 70368744177663) :
    Calls Tryz.prog 26 #[bv, .agg #[.int .i64 k, .int .i64 x, .int .u64 (b : Int), .string s, .slice a 0 c]] w (RH w (L ++ (enc k.toNat ++ (if k = 1 then be (tn x) 8 else if k = 2 then be b 8 else if k = 3 then enc s.size ++ s.data.toList else [])))) := by
  have he : (enc k.toNat).length = 1 := enc_one (by omega)
  have HN : Hid (∀ W, Below w.heap.size w W → Calls Tryz.prog 40 #[bv, .int .i64 k] W (RB W (L ++ enc k.toNat))) := fun W hB => refNum_calls bv L k (by omega) W (holds_below hv hB) (by omega)
  obtain ⟨bp, bm, bc, rfl⟩ := holds_sliceY hv
  obtain ⟨M, hM⟩ : ∃ M, M = L ++ enc k.toNat := ⟨_, rfl⟩
  have hml : M.length ≤ 70368744177463 := by rw [hM, List.length_append]; omega
  rw [← List.append_assoc]
  rw [← hM] at HN ⊢
  have H1 : Hid (∀ W v, Lib.HoldsBytes W v M → Calls Tryz.prog 41 #[v, .int .i64 x] W (RB W (M ++ be (tn x) 8))) := fun W v h => refInt_calls v M x hx W h (by omega)
  have H2 : Hid (∀ W v, Lib.HoldsBytes W v M → Calls Tryz.prog 42 #[v, .int .u64 (b : Int)] W (RB W (M ++ be b 8))) := fun W v h => refBits_calls v M b hb W h (by omega)
  have H3 : Hid (∀ W v, Lib.HoldsBytes W v M → Calls Tryz.prog 43 #[v, .string s] W (RB W (M ++ enc s.size ++ s.data.toList))) := fun W v h => refText_calls v M s W h (by omega) (by omega)
  clear hv hl he hM hml hx hb hs
  rcases (by omega : k = 0 ∨ k = 1 ∨ k = 2 ∨ k = 3) with rfl | rfl | rfl | rfl
  · rw [if_neg (by decide), if_neg (by decide), if_neg (by decide), List.append_nil]
    clear hk hk0
    go_enter Tryz.func26, Tryz.ntmps26
    go_wp2_with fail
    refine (HN.out _ (bel1 _ _)).mono ?_
    rintro e w1 ⟨v1, rfl, ho, hb⟩
    have HV : Hid (Lib.HoldsBytes w1 v1 M) := own_holds ho
    have HB : Hid (Below w.heap.size w w1) := bel2 (bel1 _ _) hb
    obtain ⟨p0, p1, p2, p3, p4⟩ := (box_at w (.int .i64 0) (.int .i64 x) (.int .u64 (b : Int)) (.string s) (.slice a 0 c)).below hb
    clear ho hb
    go_wp2_with fail
    go_ret
    exact ⟨_, rfl, HV.out, HB.out⟩
  · rw [if_pos rfl]
    clear hk hk0
    go_enter Tryz.func26, Tryz.ntmps26
    go_wp2_with fail
    refine (HN.out _ (bel1 _ _)).mono ?_
    rintro e w1 ⟨v1, rfl, ho, hb⟩
    have HV : Hid (Lib.HoldsBytes w1 v1 M) := own_holds ho
    have HB : Hid (Below w.heap.size w w1) := bel2 (bel1 _ _) hb
    obtain ⟨p0, p1, p2, p3, p4⟩ := (box_at w (.int .i64 1) (.int .i64 x) (.int .u64 (b : Int)) (.string s) (.slice a 0 c)).below hb
    clear ho hb
    go_wp2_with fail
    refine (H1.out _ _ HV.out).mono ?_
    rintro e w2 ⟨v2, rfl, ho, hb⟩
    have HV2 : Hid (Lib.HoldsBytes w2 v2 _) := own_holds ho
    have HB2 : Hid (Below w.heap.size w w2) := bel2 HB.out hb
    clear ho hb
    go_wp2_with fail
    go_ret
    exact ⟨_, rfl, HV2.out, HB2.out⟩
  · rw [if_neg (by decide), if_pos rfl]
    clear hk hk0
    go_enter Tryz.func26, Tryz.ntmps26
    go_wp2_with fail
    refine (HN.out _ (bel1 _ _)).mono ?_
    rintro e w1 ⟨v1, rfl, ho, hb⟩
    have HV : Hid (Lib.HoldsBytes w1 v1 M) := own_holds ho
    have HB : Hid (Below w.heap.size w w1) := bel2 (bel1 _ _) hb
    obtain ⟨p0, p1, p2, p3, p4⟩ := (box_at w (.int .i64 2) (.int .i64 x) (.int .u64 (b : Int)) (.string s) (.slice a 0 c)).below hb
    clear ho hb
    go_wp2_with fail
    refine (H2.out _ _ HV.out).mono ?_
    rintro e w2 ⟨v2, rfl, ho, hb⟩
    have HV2 : Hid (Lib.HoldsBytes w2 v2 _) := own_holds ho
    have HB2 : Hid (Below w.heap.size w w2) := bel2 HB.out hb
    clear ho hb
    go_wp2_with fail
    go_ret
    exact ⟨_, rfl, HV2.out, HB2.out⟩
  · rw [if_neg (by decide), if_neg (by decide), if_pos rfl, ← List.append_assoc]
    clear hk hk0
    go_enter Tryz.func26, Tryz.ntmps26
    go_wp2_with fail
    refine (HN.out _ (bel1 _ _)).mono ?_
    rintro e w1 ⟨v1, rfl, ho, hb⟩
    have HV : Hid (Lib.HoldsBytes w1 v1 M) := own_holds ho
    have HB : Hid (Below w.heap.size w w1) := bel2 (bel1 _ _) hb
    obtain ⟨p0, p1, p2, p3, p4⟩ := (box_at w (.int .i64 3) (.int .i64 x) (.int .u64 (b : Int)) (.string s) (.slice a 0 c)).below hb
    clear ho hb
    go_wp2_with fail
    refine (H3.out _ _ HV.out).mono ?_
    rintro e w2 ⟨v2, rfl, ho, hb⟩
    have HV2 : Hid (Lib.HoldsBytes w2 v2 _) := own_holds ho
    have HB2 : Hid (Below w.heap.size w w2) := bel2 HB.out hb
    clear ho hb
    go_wp2_with fail
    go_ret
    exact ⟨_, rfl, HV2.out, HB2.out⟩
end Go.Proofs.YtakaglfeeipeiaaGreat
namespace Go.Proofs.YtakaglfeeipeiaaGreat
open Go.ChangeShapes Go.WideShapes Go.ChangeAt Go.RowKit Go.BigFrame
set_option maxHeartbeats 2000000 in
set_option maxRecDepth 100000 in
theorem bytes_list (n d : Nat) (ih : BytesAt n) (x : Int) (b : Int) (s : ByteArray) (a : Option Addr) (c : Nat) (l : List Tv) (bv : Value) (L : List UInt8) (w : World) (hn : l.length ≤ 12) (hr : Row (Is w n) w a l) (hs : ∀ (i : Nat) t, l[i]? = some t → ShapeT n (d : Int) t) (hv : Lib.HoldsBytes w bv L) (hl : L.length + BD (d + 1) ≤ 70368744177663) :
    Calls Tryz.prog 26 #[bv, .agg #[.int .i64 4, .int .i64 x, .int .u64 b, .string s, .slice a l.length c]] w (RH w (L ++ enc 4 ++ enc l.length ++ (l.map (bytesT n)).flatten)) := by
  have hbd : ∀ (i : Nat) t, l[i]? = some t → (bytesT n t).length ≤ BD d := fun i t ht => bytes_bd n d t (hs i t ht)
  have hfl : ∀ j, (((l.take j).map (bytesT n)).flatten).length ≤ 12 * BD d := fun j => by
    have h1 := flat_le (n := n) (l := l) (j := j)
    have h2 := flat_bd l hbd
    have h3 : l.length * BD d ≤ 12 * BD d := Nat.mul_le_mul_right _ hn
    omega
  have e1 : (enc 4).length = 1 := enc_one (by omega)
  have e2 : (enc l.length).length = 1 := enc_one hn
  simp only [BD] at hl
  have HN : Hid (∀ W, Below w.heap.size w W → Calls Tryz.prog 40 #[bv, .int .i64 4] W (RB W (L ++ enc 4))) := fun W hB => refNum_calls bv L 4 (by omega) W (holds_below hv hB) (by omega)
  have HM : Hid (∀ W v, Lib.HoldsBytes W v (L ++ enc 4) → Calls Tryz.prog 40 #[v, .int .i64 (l.length : Int)] W (RB W (L ++ enc 4 ++ enc l.length))) := fun W v h => by
    have := refNum_calls v (L ++ enc 4) (l.length : Int) (by omega) W h (by rw [List.length_append]; omega)
    rwa [Int.toNat_natCast] at this
  obtain ⟨M, hM⟩ : ∃ M, M = L ++ enc 4 ++ enc l.length := ⟨_, rfl⟩
  have hml : M.length = L.length + 2 := by rw [hM, List.length_append, List.length_append]; omega
  rw [← hM] at HM ⊢
  obtain ⟨bp, bm, bc, rfl⟩ := holds_sliceY hv
  have HI : Hid (∀ (j : Nat) (hj : j < l.length) (v : Value) (bv : Value) (W : World), Is W n v (l[j]) → Lib.HoldsBytes W bv (M ++ ((l.take j).map (bytesT n)).flatten) → Calls Tryz.prog 26 #[bv, v] W (RH W (M ++ ((l.take (j + 1)).map (bytesT n)).flatten))) := fun j hj v bv W hi hb => by
    have := ih d v l[j] bv _ W hi (hs j _ (List.getElem?_eq_getElem hj)) hb (by rw [List.length_append]; have := hfl j; omega)
    rwa [List.append_assoc, ← flat_more hj] at this
  have HR : Hid (Row (Is w n) w a l) := hr
  obtain ⟨N, hN⟩ : ∃ N, N = l.length := ⟨_, rfl⟩
  rw [← hN] at HM ⊢
  have HNN : Hid (N = l.length ∧ N ≤ 12) := ⟨hN, by omega⟩
  clear hr hv hl hs hbd hfl e1 e2 hM hml hN hn ih
  go_enter Tryz.func26, Tryz.ntmps26
  go_wp2_with fail
  refine (HN.out _ (bel1 _ _)).mono ?_
  rintro e w1 ⟨v1, rfl, ho, hb⟩
  have HV : Hid (Lib.HoldsBytes w1 v1 _) := own_holds ho
  have HB : Hid (Below w.heap.size w w1) := bel2 (bel1 _ _) hb
  have HP : Hid (At5 w1 w.heap.size 0 (.int .i64 4) (.int .i64 x) (.int .u64 b) (.string s) (.slice a N c)) := (box_at w (.int .i64 4) (.int .i64 x) (.int .u64 b) (.string s) (.slice a N c)).below hb
  clear ho hb
  obtain ⟨p0, p1, p2, p3, p4⟩ := HP.out
  go_wp2_with fail
  refine (HM.out _ _ HV.out).mono ?_
  rintro e w2 ⟨v2, rfl, ho, hb⟩
  have HV2 : Hid (Lib.HoldsBytes w2 v2 M) := own_holds ho
  have HB2 : Hid (Below w.heap.size w w2) := bel2 HB.out hb
  have HP2 : Hid (At5 w2 w.heap.size 0 (.int .i64 4) (.int .i64 x) (.int .u64 b) (.string s) (.slice a N c)) := HP.out.below hb
  clear ho hb p0 p1 p2 p3 p4
  go_wp2_with fail
  go_loopw [0, 5] (fun bb i wr => ∃ j : Nat, j ≤ N ∧ i = .int .i64 j ∧ Hid (Lib.HoldsBytes wr bb (M ++ ((l.take j).map (bytesT n)).flatten)) ∧ Hid (Below w2.heap.size w2 wr)) (fun _ i _ => N - (intOf i).toNat)
  case atStart => exact ⟨0, Nat.zero_le _, rfl, by simpa using HV2, Below.refl _ _⟩
  case round =>
    obtain ⟨j, hj, rfl, HE, HBr⟩ := hrel
    obtain ⟨p0, p1, p2, p3, p4⟩ := HP2.out.below HBr.out
    by_cases hlt : j < N
    · have HT : Hid (j < l.length) := by have := HNN.out.1; show _ < _; omega
      obtain ⟨B, o, c0, c1, c2, c3, c4, rfl, h5, hi⟩ := HR.out j _ (List.getElem?_eq_getElem HT.out)
      obtain ⟨k', x', b', s', a', m', c', rfl, rfl, rfl, rfl, rfl⟩ := hi.shape
      have HBw := bel2 HB2.out HBr.out
      obtain ⟨e0, e1, e2, e3, e4⟩ := h5.below HBw
      have C0 : Hid (Calls Tryz.prog 26 #[_, _] wr _) := HI.out j HT.out _ _ wr (hi.below HBw) HE.out
      have HW : Hid (wrap64 ((j : Int) + 1) = ((j + 1 : Nat) : Int)) := wr1 hlt (by have := HNN.out.2; omega)
      have hjl : (j : Int) < (N : Int) := by omega
      clear hi h5 HBw
      go_wp2_with fail
      refine C0.out.mono ?_
      rintro x w3 ⟨v3, rfl, hv3, hb3⟩
      have HV3 : Hid (Lib.HoldsBytes w3 v3 _) := hv3
      have HB3 : Hid (Below w2.heap.size w2 w3) := bel2 HBr.out hb3
      clear hv3 hb3
      go_wp2_with fail
      exact ⟨⟨j + 1, hlt, by rw [HW.out], HV3, HB3⟩, meas hlt HW.out⟩
    · obtain rfl : j = N := by omega
      go_wp2_with fail
      go_ret
      refine ⟨_, rfl, ?_, bel2 HB2.out HBr.out⟩
      have := HE.out
      rwa [List.take_of_length_le (by have := HNN.out.1; omega)] at this
theorem bytes_calls45 : ∀ n, BytesAt n := by
  intro n
  induction n with
  | zero => intro d v t b L w h; exact h.elim
  | succ n ih =>
    rintro d v ⟨k, x, b, s, l⟩ bv L w ⟨a, c, rfl, hf, hr⟩ ⟨hfi, hk, hs⟩ hv hl
    obtain ⟨b, rfl⟩ : ∃ m : Nat, b = m := ⟨b.toNat, by have := hf.b0; omega⟩
    obtain ⟨k0, k4, _, _, _, _, hsz, hn0, hn⟩ := hfi
    have hd : 210 ≤ BD d := by cases d <;> simp [BD]
    by_cases h4 : k = 4
    · subst h4
      obtain ⟨d', rfl⟩ : ∃ d', d = d' + 1 := ⟨d - 1, by have := hk rfl; omega⟩
      have := bytes_list n d' ih x b s a c l bv L w hn hr (fun i t ht => by have := hs i t ht; rwa [show (((d' + 1 : Nat) : Int) - 1) = (d' : Int) by omega] at this) hv hl
      unfold bytesT
      rw [if_neg (by decide), if_neg (by decide), if_neg (by decide), if_pos rfl, ← List.append_assoc, ← List.append_assoc]
      exact this
    · obtain rfl : l = [] := List.eq_nil_of_length_eq_zero (hn0.resolve_left h4)
      have hx : (Lit.int .i64 x).wf = true := by
        have h1 := hf.x0
        have h2 := hf.x1
        simp only [Lit.wf, IntKind.min, IntKind.max, IntKind.signed, IntKind.bits, Bool.and_eq_true, decide_eq_true_eq, if_true]
        omega
      have := bytes_flat k x b s a c bv L w k0 (by omega) hx (by have := hf.b1; omega) hsz hv (by omega)
      unfold bytesT
      rw [if_neg (c := k = 4) h4, Int.toNat_natCast]
      exact this
end Go.Proofs.YtakaglfeeipeiaaGreat
namespace Go.Proofs.YtakaglfeeipeiaaGreat
open Go.ChangeShapes Go.WideShapes Go.ChangeAt Go.RowKit Go.BigFrame
/-- What a Check says. -/
def VkP (w : World) (p : Prop) (e : Ending) (w' : World) : Prop := (∃ r : Int, e = .returned (.int .i64 r) ∧ (p → r = 0) ∧ (¬ p → r = 1)) ∧ Below w.heap.size w w'
theorem holds_len {w : World} {v : Value} {l : List UInt8} (h : Lib.HoldsBytes w v l) : ∃ p c, v = .slice p l.length c := by obtain ⟨p, c, rfl, _⟩ := h; exact ⟨_, _, rfl⟩
set_option maxHeartbeats 2000000 in
set_option maxRecDepth 100000 in
theorem rcheck_calls (n : Nat) (v : Value) (t : Tv) (w : World) (h : Is w n v t) : Calls Tryz.prog 14 #[v] w (VkP w (May n t)) := by
  have HS : Hid (∀ W, Below w.heap.size w W → Calls Tryz.prog 25 #[v, .int .i64 4] W (FP (ShapeT n 4 t) W)) := fun W hB => shape_calls n v t 4 W (by omega) (by omega) (h.below hB)
  have HBy : Hid (ShapeT n 4 t → ∀ W, Below w.heap.size w W → Calls Tryz.prog 26 #[.slice none 0 0, v] W (RH W (bytesT n t))) := fun hs W hB => by
    have := bytes_calls45 n 4 v t (.slice none 0 0) [] W (h.below hB) hs (holds_nil W) (by simp [BD])
    rwa [List.nil_append] at this
  obtain ⟨k, x, b, s, a, m, c, rfl⟩ : ∃ k x b s a m c, v = .agg #[.int .i64 k, .int .i64 x, .int .u64 b, .string s, .slice a m c] := by
    cases n with
    | zero => exact h.elim
    | succ n => obtain ⟨k, x, b, s, l⟩ := t; obtain ⟨a, c, rfl, _⟩ := h; exact ⟨_, _, _, _, _, _, _, rfl⟩
  clear h
  go_enter Tryz.func14, Tryz.ntmps14
  go_wp2_with fail
  refine (HS.out _ (bel1 _ _)).mono ?_
  rintro e w1 ⟨⟨r1, rfl, hr1⟩, hb1⟩
  have HB1 : Hid (Below w.heap.size w w1) := bel2 (bel1 _ _) hb1
  have HR1 : Hid (r1 = true ↔ ShapeT n 4 t) := hr1
  obtain ⟨p0, p1, p2, p3, p4⟩ := (box_at w (.int .i64 k) (.int .i64 x) (.int .u64 b) (.string s) (.slice a m c)).below hb1
  clear hb1 hr1
  cases r1 with
  | false =>
    go_wp2_with fail
    go_ret
    exact ⟨⟨1, rfl, fun q => (by cases HR1.out.2 q.1), fun _ => rfl⟩, HB1.out⟩
  | true =>
    have HSh : Hid (ShapeT n 4 t) := HR1.out.1 rfl
    clear HR1
    go_wp2_with fail
    refine (HBy.out HSh.out w1 HB1.out).mono ?_
    rintro e w2 ⟨v2, rfl, hv2, hb2⟩
    have HB2 : Hid (Below w.heap.size w w2) := bel2 HB1.out hb2
    obtain ⟨vp, vc, rfl⟩ := holds_len hv2
    clear hb2 hv2 p0 p1 p2 p3 p4
    obtain ⟨Z, hZ⟩ : ∃ Z, Z = (bytesT n t).length := ⟨_, rfl⟩
    have HZ : Hid (Z = (bytesT n t).length) := hZ
    rw [← hZ]
    clear hZ
    by_cases hb : 1000 < Z
    · have f1 : decide (1000 < (Z : Int)) = true := decide_eq_true (by omega)
      have f2 : decide (1000 < Z) = true := decide_eq_true hb
      have HH : Hid (1000 < Z) := hb
      clear hb
      go_wp2_with fail
      go_ret
      exact ⟨⟨1, rfl, fun q => absurd q.2 (by have := HH.out; have := HZ.out; omega), fun _ => rfl⟩, HB2.out⟩
    · have f1 : decide (1000 < (Z : Int)) = false := decide_eq_false (by omega)
      have f2 : decide (1000 < Z) = false := decide_eq_false hb
      have HH : Hid (¬ 1000 < Z) := hb
      clear hb
      go_wp2_with fail
      go_ret
      exact ⟨⟨0, rfl, fun _ => rfl, fun q => absurd ⟨HSh.out, by have := HH.out; have := HZ.out; omega⟩ q⟩, HB2.out⟩
end Go.Proofs.YtakaglfeeipeiaaGreat
namespace Go.Proofs.YtakaglfeeipeiaaGreat
open Go.ChangeShapes Go.WideShapes Go.ChangeAt Go.RowKit
/-- Between two of Check's statements: what was found, and where the event lies. -/
def Jn (P : Prop) (w : World) (c0 c1 c2 c3 c4 c5 c6 c7 c8 c9 c10 c11 c12 : Value) (x : Value) (wx : World) : Prop := (∃ b : Bool, x = .bool b ∧ (b = true ↔ P)) ∧ Below w.heap.size w wx ∧ At13 wx w.heap.size c0 c1 c2 c3 c4 c5 c6 c7 c8 c9 c10 c11 c12
theorem wi_iff (n a b : Int) : wi n a b = true ↔ (a ≤ n ∧ n ≤ b) := by simp [wi]
set_option maxHeartbeats 4000000 in
set_option maxRecDepth 100000 in
theorem evrefcheck_calls (nn : Nat) (tv : Tv) (k t n d : Int) (s : ByteArray) (vk vx vb : Int) (vs : ByteArray) (la : Option Addr) (ll lc : Nat) (f : Int) (c : Nat) (m : Int) (w : World) (h : Is w (nn + 1) (.agg #[.int .i64 vk, .int .i64 vx, .int .u64 vb, .string vs, .slice la ll lc]) tv) :
    Calls Tryz.prog 20 #[(.agg #[.int .i64 k, .int .i64 t, .int .i64 n, .int .i64 d, .string s, .int .i64 vk, .int .i64 vx, .int .u64 vb, .string vs, .slice la ll lc, .int .i64 f, .int .u64 (c : Int), .int .i64 m])] w (CkP (MayE (nn + 1) ⟨k, t, n, d, s, tv, f, c, m⟩) w) := by
  have HX0 : Hid (At13 (w.alloc (.cells #[.int .i64 k, .int .i64 t, .int .i64 n, .int .i64 d, .string s, .int .i64 vk, .int .i64 vx, .int .u64 vb, .string vs, .slice la ll lc, .int .i64 f, .int .u64 (c : Int), .int .i64 m] 44)) w.heap.size (.int .i64 k) (.int .i64 t) (.int .i64 n) (.int .i64 d) (.string s) (.int .i64 vk) (.int .i64 vx) (.int .u64 vb) (.string vs) (.slice la ll lc) (.int .i64 f) (.int .u64 (c : Int)) (.int .i64 m)) := At13.box w (.int .i64 k) (.int .i64 t) (.int .i64 n) (.int .i64 d) (.string s) (.int .i64 vk) (.int .i64 vx) (.int .u64 vb) (.string vs) (.slice la ll lc) (.int .i64 f) (.int .u64 (c : Int)) (.int .i64 m)
  have NC : Hid (∀ W, _) := fun W => num_ok k t n d s vk vx vb vs la ll lc f c m W
  have MC : Hid (∀ W, _) := fun W => name_ok k t n d s vk vx vb vs la ll lc f c m W
  have DC : Hid (∀ W, _) := fun W => hasD_calls k W
  have VC : Hid (∀ W, _) := fun W => hasV_calls k W
  have PC : Hid (∀ W, _) := fun W => hasP_calls k W
  have RC : Hid (∀ W, Below w.heap.size w W → _) := fun W hB => rcheck_calls (nn + 1) (.agg #[.int .i64 vk, .int .i64 vx, .int .u64 vb, .string vs, .slice la ll lc]) tv W (h.below hB)
  have SC : Hid (∀ W, Below w.heap.size w W → _) := fun W hB => rsame_calls (nn + 1) (.agg #[.int .i64 vk, .int .i64 vx, .int .u64 vb, .string vs, .slice la ll lc]) tv (.agg #[.int .i64 0, .int .i64 0, .int .u64 0, .string ⟨#[]⟩, .slice none 0 0]) zE W (h.below hB) (zE_is W nn)
  have LC : Hid (∀ W, _) := fun W => refCheck_calls f c m W
  have HM : Hid (MayE (nn + 1) ⟨k, t, n, d, s, tv, f, c, m⟩ ↔ ((((((1 ≤ k ∧ k ≤ 19) ∧ (0 ≤ t ∧ t ≤ 1099511627776) ∧ wi n (nl k) (nm k) = true ∧ nmf k s = true)) ∧ (if hD k then (0 ≤ d ∧ d ≤ 2199023255552) else d = 0)) ∧ ((hV k = true ∧ May (nn + 1) tv) ∨ (hV k = false ∧ tv = zE))) ∧ (if hP k then may f c m = true else (f = 0 ∧ c = 0 ∧ m = 0)))) := by
    unfold MayE nf VF pf
    simp only [Bool.and_eq_true, wi_iff]
    cases hD k <;> cases hP k <;> simp <;> constructor <;> simp_all <;> omega
  have HF : Hid (∀ r w', (MayE (nn + 1) ⟨k, t, n, d, s, tv, f, c, m⟩ → r = 0) → (¬ MayE (nn + 1) ⟨k, t, n, d, s, tv, f, c, m⟩ → r = 1) → Below w.heap.size w w' → CkP (MayE (nn + 1) ⟨k, t, n, d, s, tv, f, c, m⟩) w (.returned (.int .i64 r)) w') := fun r w' h1 h2 h3 => ⟨r, rfl, h1, h2, h3⟩
  generalize CkP (MayE (nn + 1) ⟨k, t, n, d, s, tv, f, c, m⟩) w = Q at HF ⊢
  generalize MayE (nn + 1) ⟨k, t, n, d, s, tv, f, c, m⟩ = ME at HF HM
  generalize May (nn + 1) tv = MY at HM RC
  generalize hD k = qD at HM DC
  generalize hV k = qV at HM VC
  generalize hP k = qP at HM PC
  generalize may f c m = mp at HM LC
  generalize wi n (nl k) (nm k) = bn at HM NC
  generalize nmf k s = bm at HM MC
  clear h
  go_enter Tryz.func20, Tryz.ntmps20
  go_upto_region 1 with fail
  go_cut [3] (fun x wx => Jn (((1 ≤ k ∧ k ≤ 19) ∧ (0 ≤ t ∧ t ≤ 1099511627776) ∧ bn = true ∧ bm = true)) w (.int .i64 k) (.int .i64 t) (.int .i64 n) (.int .i64 d) (.string s) (.int .i64 vk) (.int .i64 vx) (.int .u64 vb) (.string vs) (.slice la ll lc) (.int .i64 f) (.int .u64 (c : Int)) (.int .i64 m) x wx)
  case first =>
    have HB : Hid (Below w.heap.size w (w.alloc (.cells #[.int .i64 k, .int .i64 t, .int .i64 n, .int .i64 d, .string s, .int .i64 vk, .int .i64 vx, .int .u64 vb, .string vs, .slice la ll lc, .int .i64 f, .int .u64 (c : Int), .int .i64 m] 44))) := bel1 _ _
    have HX := HX0
    obtain ⟨x0, x1, x2, x3, x4, x5, x6, x7, x8, x9, x10, x11, x12⟩ := HX.out
    by_cases k1 : 1 ≤ k
    rotate_left
    · go_wp2_with fail
      go_meet
      exact ⟨⟨false, rfl, ⟨nofun, fun h => by have := h.1.1; omega⟩⟩, HB.out, HX.out⟩
    by_cases k2 : k ≤ 19
    rotate_left
    · go_wp2_with fail
      go_meet
      exact ⟨⟨false, rfl, ⟨nofun, fun h => by have := h.1.2; omega⟩⟩, HB.out, HX.out⟩
    by_cases t1 : 0 ≤ t
    rotate_left
    · go_wp2_with fail
      go_meet
      exact ⟨⟨false, rfl, ⟨nofun, fun h => by have := h.2.1.1; omega⟩⟩, HB.out, HX.out⟩
    by_cases t2 : t ≤ 1099511627776
    rotate_left
    · go_wp2_with fail
      go_meet
      exact ⟨⟨false, rfl, ⟨nofun, fun h => by have := h.2.1.2; omega⟩⟩, HB.out, HX.out⟩
    cases bn with
    | false =>
      go_wp2_with fail
      refine (NC.out _).mono ?_
      rintro e w1 ⟨rfl, hb⟩
      clear x0 x1 x2 x3 x4 x5 x6 x7 x8 x9 x10 x11 x12
      replace HB : Hid (Below w.heap.size w w1) := bel2 HB.out hb
      replace HX : Hid (At13 w1 w.heap.size (.int .i64 k) (.int .i64 t) (.int .i64 n) (.int .i64 d) (.string s) (.int .i64 vk) (.int .i64 vx) (.int .u64 vb) (.string vs) (.slice la ll lc) (.int .i64 f) (.int .u64 (c : Int)) (.int .i64 m)) := HX.out.below hb
      clear hb
      obtain ⟨x0, x1, x2, x3, x4, x5, x6, x7, x8, x9, x10, x11, x12⟩ := HX.out
      go_wp2_with fail
      go_meet
      exact ⟨⟨false, rfl, by simp⟩, HB.out, HX.out⟩
    | true =>
      go_wp2_with fail
      refine (NC.out _).mono ?_
      rintro e w1 ⟨rfl, hb⟩
      clear x0 x1 x2 x3 x4 x5 x6 x7 x8 x9 x10 x11 x12
      replace HB : Hid (Below w.heap.size w w1) := bel2 HB.out hb
      replace HX : Hid (At13 w1 w.heap.size (.int .i64 k) (.int .i64 t) (.int .i64 n) (.int .i64 d) (.string s) (.int .i64 vk) (.int .i64 vx) (.int .u64 vb) (.string vs) (.slice la ll lc) (.int .i64 f) (.int .u64 (c : Int)) (.int .i64 m)) := HX.out.below hb
      clear hb
      obtain ⟨x0, x1, x2, x3, x4, x5, x6, x7, x8, x9, x10, x11, x12⟩ := HX.out
      go_wp2_with fail
      refine (MC.out _).mono ?_
      rintro e w1 ⟨rfl, hb⟩
      clear x0 x1 x2 x3 x4 x5 x6 x7 x8 x9 x10 x11 x12
      replace HB : Hid (Below w.heap.size w w1) := bel2 HB.out hb
      replace HX : Hid (At13 w1 w.heap.size (.int .i64 k) (.int .i64 t) (.int .i64 n) (.int .i64 d) (.string s) (.int .i64 vk) (.int .i64 vx) (.int .u64 vb) (.string vs) (.slice la ll lc) (.int .i64 f) (.int .u64 (c : Int)) (.int .i64 m)) := HX.out.below hb
      clear hb
      obtain ⟨x0, x1, x2, x3, x4, x5, x6, x7, x8, x9, x10, x11, x12⟩ := HX.out
      go_wp2_with fail
      go_meet
      exact ⟨⟨bm, rfl, by simp [k1, k2, t1, t2]⟩, HB.out, HX.out⟩
  case rest =>
  obtain ⟨⟨b, rfl, hbP⟩, HB, HX⟩ := hcut
  replace HB : Hid (Below w.heap.size w wc) := HB
  replace HX : Hid (At13 wc w.heap.size (.int .i64 k) (.int .i64 t) (.int .i64 n) (.int .i64 d) (.string s) (.int .i64 vk) (.int .i64 vx) (.int .u64 vb) (.string vs) (.slice la ll lc) (.int .i64 f) (.int .u64 (c : Int)) (.int .i64 m)) := HX
  generalize hP1 : (((1 ≤ k ∧ k ≤ 19) ∧ (0 ≤ t ∧ t ≤ 1099511627776) ∧ bn = true ∧ bm = true)) = P1 at hbP HM
  have HP : Hid (b = true ↔ P1) := hbP
  clear hbP hP1
  obtain ⟨x0, x1, x2, x3, x4, x5, x6, x7, x8, x9, x10, x11, x12⟩ := HX.out
  go_wp2_with fail
  refine (DC.out _).mono ?_
  rintro e w1 ⟨rfl, hb⟩
  clear x0 x1 x2 x3 x4 x5 x6 x7 x8 x9 x10 x11 x12
  replace HB : Hid (Below w.heap.size w w1) := bel2 HB.out hb
  replace HX : Hid (At13 w1 w.heap.size (.int .i64 k) (.int .i64 t) (.int .i64 n) (.int .i64 d) (.string s) (.int .i64 vk) (.int .i64 vx) (.int .u64 vb) (.string vs) (.slice la ll lc) (.int .i64 f) (.int .u64 (c : Int)) (.int .i64 m)) := HX.out.below hb
  clear hb
  go_upto_if 32 with fail
  go_cut [3] (fun x wx => Jn (P1 ∧ (if qD then (0 ≤ d ∧ d ≤ 2199023255552) else d = 0)) w (.int .i64 k) (.int .i64 t) (.int .i64 n) (.int .i64 d) (.string s) (.int .i64 vk) (.int .i64 vx) (.int .u64 vb) (.string vs) (.slice la ll lc) (.int .i64 f) (.int .u64 (c : Int)) (.int .i64 m) x wx)
  case first =>
    obtain ⟨x0, x1, x2, x3, x4, x5, x6, x7, x8, x9, x10, x11, x12⟩ := HX.out
    cases qD with
    | true =>
      cases b with
      | false =>
        go_wp2_with fail
        go_meet
        exact ⟨⟨false, rfl, by have := HP.out; simp at this; simp [this]⟩, HB.out, HX.out⟩
      | true =>
        have hP1 := HP.out.1 rfl
        clear HP
        by_cases d1 : 0 ≤ d
        rotate_left
        · go_wp2_with fail
          go_meet
          exact ⟨⟨false, rfl, ⟨nofun, fun h => by have := h.2; simp only [if_true] at this; have := this.1; omega⟩⟩, HB.out, HX.out⟩
        by_cases d2 : d ≤ 2199023255552
        rotate_left
        · go_wp2_with fail
          go_meet
          exact ⟨⟨false, rfl, ⟨nofun, fun h => by have := h.2; simp only [if_true] at this; have := this.2; omega⟩⟩, HB.out, HX.out⟩
        go_wp2_with fail
        go_meet
        exact ⟨⟨true, rfl, by simp [d1, d2, hP1]⟩, HB.out, HX.out⟩
    | false =>
      cases b with
      | false =>
        go_wp2_with fail
        go_meet
        exact ⟨⟨false, rfl, by have := HP.out; simp at this; simp [this]⟩, HB.out, HX.out⟩
      | true =>
        have hP1 := HP.out.1 rfl
        clear HP
        go_wp2_with fail
        go_meet
        exact ⟨⟨_, rfl, by simp [hP1]⟩, HB.out, HX.out⟩
  case rest =>
  obtain ⟨⟨b, rfl, hbP⟩, HB, HX⟩ := hcut
  replace HB : Hid (Below w.heap.size w wc) := HB
  replace HX : Hid (At13 wc w.heap.size (.int .i64 k) (.int .i64 t) (.int .i64 n) (.int .i64 d) (.string s) (.int .i64 vk) (.int .i64 vx) (.int .u64 vb) (.string vs) (.slice la ll lc) (.int .i64 f) (.int .u64 (c : Int)) (.int .i64 m)) := HX
  generalize hP1 : (P1 ∧ (if qD then (0 ≤ d ∧ d ≤ 2199023255552) else d = 0)) = P2 at hbP HM
  have HP : Hid (b = true ↔ P2) := hbP
  clear hbP hP1
  obtain ⟨x0, x1, x2, x3, x4, x5, x6, x7, x8, x9, x10, x11, x12⟩ := HX.out
  go_wp2_with fail
  refine (VC.out _).mono ?_
  rintro e w1 ⟨rfl, hb⟩
  clear x0 x1 x2 x3 x4 x5 x6 x7 x8 x9 x10 x11 x12
  replace HB : Hid (Below w.heap.size w w1) := bel2 HB.out hb
  replace HX : Hid (At13 w1 w.heap.size (.int .i64 k) (.int .i64 t) (.int .i64 n) (.int .i64 d) (.string s) (.int .i64 vk) (.int .i64 vx) (.int .u64 vb) (.string vs) (.slice la ll lc) (.int .i64 f) (.int .u64 (c : Int)) (.int .i64 m)) := HX.out.below hb
  clear hb
  go_upto_if 52 with fail
  go_cut [3] (fun x wx => Jn (P2 ∧ ((qV = true ∧ MY) ∨ (qV = false ∧ tv = zE))) w (.int .i64 k) (.int .i64 t) (.int .i64 n) (.int .i64 d) (.string s) (.int .i64 vk) (.int .i64 vx) (.int .u64 vb) (.string vs) (.slice la ll lc) (.int .i64 f) (.int .u64 (c : Int)) (.int .i64 m) x wx)
  case first =>
    obtain ⟨x0, x1, x2, x3, x4, x5, x6, x7, x8, x9, x10, x11, x12⟩ := HX.out
    cases qV with
    | true =>
      cases b with
      | false =>
        go_wp2_with fail
        go_meet
        exact ⟨⟨false, rfl, by have := HP.out; simp at this; simp [this]⟩, HB.out, HX.out⟩
      | true =>
        have hP1 := HP.out.1 rfl
        clear HP
        go_wp2_with fail
        refine Calls.mono (RC.out _ ?_) ?_
        · exact HB.out
        rintro e w1 ⟨⟨r, rfl, r1, r2⟩, hb⟩
        clear x0 x1 x2 x3 x4 x5 x6 x7 x8 x9 x10 x11 x12
        replace HB : Hid (Below w.heap.size w w1) := bel2 HB.out hb
        replace HX : Hid (At13 w1 w.heap.size (.int .i64 k) (.int .i64 t) (.int .i64 n) (.int .i64 d) (.string s) (.int .i64 vk) (.int .i64 vx) (.int .u64 vb) (.string vs) (.slice la ll lc) (.int .i64 f) (.int .u64 (c : Int)) (.int .i64 m)) := HX.out.below hb
        clear hb
        have HR : Hid ((MY → r = 0) ∧ (¬ MY → r = 1)) := ⟨r1, r2⟩
        clear r1 r2
        go_wp2_with fail
        go_meet
        refine ⟨⟨_, rfl, ?_⟩, HB.out, HX.out⟩
        by_cases hm : MY
        · have := HR.out.1 hm; simp [hm, this, hP1]
        · have := HR.out.2 hm; simp [hm, this]
    | false =>
      cases b with
      | false =>
        go_wp2_with fail
        go_meet
        exact ⟨⟨false, rfl, by have := HP.out; simp at this; simp [this]⟩, HB.out, HX.out⟩
      | true =>
        have hP1 := HP.out.1 rfl
        clear HP
        go_wp2_with fail
        refine Calls.mono (SC.out _ ?_) ?_
        · exact HB.out
        rintro e w1 ⟨⟨r, rfl, r1⟩, hb⟩
        clear x0 x1 x2 x3 x4 x5 x6 x7 x8 x9 x10 x11 x12
        replace HB : Hid (Below w.heap.size w w1) := bel2 HB.out hb
        replace HX : Hid (At13 w1 w.heap.size (.int .i64 k) (.int .i64 t) (.int .i64 n) (.int .i64 d) (.string s) (.int .i64 vk) (.int .i64 vx) (.int .u64 vb) (.string vs) (.slice la ll lc) (.int .i64 f) (.int .u64 (c : Int)) (.int .i64 m)) := HX.out.below hb
        clear hb
        have HR : Hid (r = true ↔ tv = zE) := r1
        clear r1
        go_wp2_with fail
        go_meet
        refine ⟨⟨_, rfl, ?_⟩, HB.out, HX.out⟩
        rw [HR.out]
        simp [hP1]
  case rest =>
  obtain ⟨⟨b, rfl, hbP⟩, HB, HX⟩ := hcut
  replace HB : Hid (Below w.heap.size w wc) := HB
  replace HX : Hid (At13 wc w.heap.size (.int .i64 k) (.int .i64 t) (.int .i64 n) (.int .i64 d) (.string s) (.int .i64 vk) (.int .i64 vx) (.int .u64 vb) (.string vs) (.slice la ll lc) (.int .i64 f) (.int .u64 (c : Int)) (.int .i64 m)) := HX
  generalize hP1 : (P2 ∧ ((qV = true ∧ MY) ∨ (qV = false ∧ tv = zE))) = P3 at hbP HM
  have HP : Hid (b = true ↔ P3) := hbP
  clear hbP hP1
  obtain ⟨x0, x1, x2, x3, x4, x5, x6, x7, x8, x9, x10, x11, x12⟩ := HX.out
  go_wp2_with fail
  refine (PC.out _).mono ?_
  rintro e w1 ⟨rfl, e1⟩
  have e2 := e1.symm
  subst e2
  clear e1
  cases qP with
  | true =>
    cases b with
    | false =>
      have hP1 : ¬ P3 := fun h => by have := HP.out.2 h; cases this
      clear HP
      go_wp2_with fail
      refine HF.out 1 _ (fun hm => ?_) (fun _ => rfl) HB.out
      exact absurd (HM.out.1 hm).1 hP1
    | true =>
      have hP1 := HP.out.1 rfl
      clear HP
      go_wp2_with fail
      refine (LC.out _).mono ?_
      rintro e w1 ⟨rfl, hb⟩
      replace HB : Hid (Below w.heap.size w w1) := bel2 HB.out hb
      clear hb x0 x1 x2 x3 x4 x5 x6 x7 x8 x9 x10 x11 x12
      cases mp with
      | true =>
        simp only [ce, if_true]
        go_wp2_with fail
        exact HF.out 0 _ (fun _ => rfl) (fun hn => absurd (HM.out.2 ⟨hP1, by simp⟩) hn) HB.out
      | false =>
        simp only [ce, Bool.false_eq_true, if_false]
        go_wp2_with fail
        exact HF.out 1 _ (fun hm => absurd (HM.out.1 hm).2 (by simp)) (fun _ => rfl) HB.out
  | false =>
    cases b with
    | false =>
      have hP1 : ¬ P3 := fun h => by have := HP.out.2 h; cases this
      clear HP
      go_wp2_with fail
      refine HF.out 1 _ (fun hm => ?_) (fun _ => rfl) HB.out
      exact absurd (HM.out.1 hm).1 hP1
    | true =>
      have hP1 := HP.out.1 rfl
      clear HP
      have HM2 : Hid (ME ↔ (f = 0 ∧ c = 0 ∧ m = 0)) := show ME ↔ (f = 0 ∧ c = 0 ∧ m = 0) from by
        rw [HM.out]
        simp [hP1]
      clear HM hP1
      by_cases q1 : f = 0
      · subst q1
        by_cases q2 : c = 0
        · subst q2
          by_cases q3 : m = 0
          · subst q3
            go_wp2_with fail
            exact HF.out 0 _ (fun _ => rfl) (fun hn => absurd (HM2.out.2 (by simp)) hn) HB.out
          · have HQ : Hid (¬ m = 0) := q3
            have q4 : (m == 0) = false := by simpa using q3
            clear q3
            go_wp2_with fail
            exact HF.out 1 _ (fun hm => absurd (HM2.out.1 hm).2.2 HQ.out) (fun _ => rfl) HB.out
        · have HQ : Hid (¬ c = 0) := q2
          have q4 : ((c : Int) == 0) = false := by simpa using q2
          clear q2
          go_wp2_with fail
          exact HF.out 1 _ (fun hm => absurd (HM2.out.1 hm).2.1 HQ.out) (fun _ => rfl) HB.out
      · have HQ : Hid (¬ f = 0) := q1
        have q4 : (f == 0) = false := by simpa using q1
        clear q1
        go_wp2_with fail
        exact HF.out 1 _ (fun hm => absurd (HM2.out.1 hm).1 HQ.out) (fun _ => rfl) HB.out
end Go.Proofs.YtakaglfeeipeiaaGreat
namespace Go.Proofs.YtakaglfeeipeiaaGreat
open Go.ChangeShapes Go.WideShapes Go.ChangeAt Go.RowKit
/-- What says yes. -/
def YesP (w : World) (e : Ending) (w' : World) : Prop := e = .returned (.bool true) ∧ Below w.heap.size w w'
theorem wb_le {n lo hi : Int} (h : wb n lo hi = true) : lo ≤ n ∧ n ≤ hi := by simpa [wb] using h
theorem vcheck_yes (n : Nat) (v : Value) (t : Tv) (w : World) (h : Is w n v t) (hm : May n t) : Calls Tryz.prog 14 #[v] w fun e w' => e = .returned (.int .i64 0) ∧ Below w.heap.size w w' := by
  refine (rcheck_calls n v t w h).mono ?_
  rintro e w' ⟨⟨r, rfl, h1, _⟩, hb⟩
  rw [h1 hm]
  exact ⟨rfl, hb⟩
theorem vsame_yes (n : Nat) (v v2 : Value) (t : Tv) (w : World) (h : Is w n v t) (h2 : Is w n v2 t) : Calls Tryz.prog 18 #[v, v2] w (YesP w) := by
  refine (rsame_calls n v t v2 t w h h2).mono ?_
  rintro e w' ⟨⟨r, rfl, hr⟩, hb⟩
  have : r = true := hr.2 rfl
  subst this
  exact ⟨rfl, hb⟩
theorem zE_may0 (n : Nat) : May (n + 1) zE := by
  refine ⟨?_, by rw [show bytesT (n + 1) zE = bytesT 1 zE from rfl]; decide +kernel⟩
  refine ⟨?_, by decide, fun i t h => by simp at h⟩
  unfold Fits FitsB
  exact ⟨by decide, by decide, .inr rfl, .inr rfl, by decide +kernel, .inr (by decide +kernel), by decide, .inr rfl, by decide⟩
set_option maxHeartbeats 1000000 in
theorem rwithin_calls (n lo hi : Int) (w : World) (h : wb n lo hi = true) : Calls Tryz.prog 12 #[.int .i64 n, .int .i64 lo, .int .i64 hi] w fun e w' => e = .returned (.bool true) ∧ w' = w := by
  obtain ⟨h1, h2⟩ := wb_le h
  have d1 : decide (lo ≤ n) = true := decide_eq_true h1
  have d2 : decide (n ≤ hi) = true := decide_eq_true h2
  clear h
  go_enter Tryz.func12, Tryz.ntmps12
  go_wp2_with fail
  go_ret
  exact ⟨rfl, rfl⟩
set_option maxHeartbeats 4000000 in
set_option maxRecDepth 100000 in
theorem rupdate_calls (n : Nat) (us : Array Value) (u : Up) (w : World) (h : IsU (Is w (n + 1)) us u) (hf : FU (n + 1) u) : Calls Tryz.prog 29 #[.agg us] w (YesP w) := by
  have c0 := h.c0
  have c6 := h.c6
  obtain ⟨k0, x0, b0, s0, a0, m0, n0, h1, h2, h3, h4, h5, hv⟩ := h.v
  obtain ⟨k1, x1, b1, s1, a1, m1, n1, h7, h8, h9, h10, h11, ho⟩ := h.o
  obtain ⟨f1, f2, f3⟩ := hf
  have K1 : Hid (∀ W, Calls Tryz.prog 13 #[.string u.s] W fun e w' => e = .returned (.bool true) ∧ w' = W) := fun W => by
    have := rname_calls u.s W
    rwa [(name_iff _ _).1 f1] at this
  have K2 : Hid (∀ W, Below w.heap.size w W → Calls Tryz.prog 14 #[.agg #[.int .i64 k0, .int .i64 x0, .int .u64 b0, .string s0, .slice a0 m0 n0]] W fun e w' => e = .returned (.int .i64 0) ∧ Below W.heap.size W w') := fun W hb => vcheck_yes (n + 1) _ u.v W (hv.below hb) f2
  have r0 : (w.alloc (.cells us 67)).heap[w.heap.size]? = some (.cells us 67 (0, 0)) := heap_alloc_new _ _
  unfold OutP at f3
  by_cases hg : u.g = 1
  · rw [if_pos hg] at f3
    rw [hg] at c6
    have K3 : Hid (∀ W, Below w.heap.size w W → Calls Tryz.prog 18 #[.agg #[.int .i64 k1, .int .i64 x1, .int .u64 b1, .string s1, .slice a1 m1 n1], .agg #[.int .i64 0, .int .i64 0, .int .u64 0, .string ⟨#[]⟩, .slice none 0 0]] W (YesP W)) := fun W hb => vsame_yes (n + 1) _ _ u.o W (ho.below hb) (by rw [f3]; exact zE_is W n)
    clear h hv ho f1 f2 f3 hg
    go_enter Tryz.func29, Tryz.ntmps29
    go_wp2_with fail
    refine (K1.out _).mono ?_
    rintro e w1 ⟨rfl, hw⟩
    have hw' := hw.symm
    subst hw'
    clear hw K1
    go_wp2_with fail
    refine (K2.out _ (bel1 _ _)).mono ?_
    rintro e w2 ⟨rfl, hb⟩
    have HB2 : Hid (Below w.heap.size w w2) := bel2 (bel1 _ _) hb
    have g2 : ∀ j, w2.cell? ⟨w.heap.size, j, none⟩ = us[j]? := fun j => cell_of_row w2 _ j us 67 (0, 0) (row_below hb r0)
    clear hb K2 r0
    go_wp2_with fail
    refine (K3.out _ HB2.out).mono ?_
    rintro e w3 ⟨rfl, hb⟩
    have HB3 : Hid (Below w.heap.size w w3) := bel2 HB2.out hb
    clear hb K3
    go_wp2_with fail
    go_ret
    exact ⟨rfl, HB3.out⟩
  · rw [if_neg hg] at f3
    have hg2 : u.g = 2 := by
      by_cases h2 : u.g = 2
      · exact h2
      · rw [if_neg h2] at f3; exact f3.elim
    rw [if_pos hg2] at f3
    rw [hg2] at c6
    have K3 : Hid (∀ W, Below w.heap.size w W → Calls Tryz.prog 14 #[.agg #[.int .i64 k1, .int .i64 x1, .int .u64 b1, .string s1, .slice a1 m1 n1]] W fun e w' => e = .returned (.int .i64 0) ∧ Below W.heap.size W w') := fun W hb => vcheck_yes (n + 1) _ u.o W (ho.below hb) f3
    clear h hv ho f1 f2 f3 hg hg2
    go_enter Tryz.func29, Tryz.ntmps29
    go_wp2_with fail
    refine (K1.out _).mono ?_
    rintro e w1 ⟨rfl, hw⟩
    have hw' := hw.symm
    subst hw'
    clear hw K1
    go_wp2_with fail
    refine (K2.out _ (bel1 _ _)).mono ?_
    rintro e w2 ⟨rfl, hb⟩
    have HB2 : Hid (Below w.heap.size w w2) := bel2 (bel1 _ _) hb
    have g2 : ∀ j, w2.cell? ⟨w.heap.size, j, none⟩ = us[j]? := fun j => cell_of_row w2 _ j us 67 (0, 0) (row_below hb r0)
    clear hb K2 r0
    go_wp2_with fail
    refine (K3.out _ HB2.out).mono ?_
    rintro e w3 ⟨rfl, hb⟩
    have HB3 : Hid (Below w.heap.size w w3) := bel2 HB2.out hb
    clear hb K3
    go_wp2_with fail
    go_ret
    exact ⟨rfl, HB3.out⟩
set_option maxHeartbeats 4000000 in
set_option maxRecDepth 100000 in
theorem rtask_calls (n : Nat) (cs : Array Value) (s : Sta) (w : World) (h : Rs w (n + 1) cs s) (ht : TaskP s) : Calls Tryz.prog 16 #[.agg cs] w (YesP w) := by
  have c2 := h.c2
  have c16 := h.c16
  have c17 := h.c17
  have c18 := h.c18
  have c19 := h.c19
  have c20 := h.c20
  clear h
  rcases ht with ⟨e0, e1, e2, e3, e4⟩ | ⟨e0, e1, e2, e3⟩ | ⟨e0, e1, e2, e3⟩
  · rw [e0] at c16
    rw [e1] at c17
    rw [e2] at c18
    rw [e3] at c19
    rw [e4] at c20
    clear e0 e1 e2 e3 e4
    go_enter Tryz.func16, Tryz.ntmps16
    go_wp2_with fail
    go_ret
    exact ⟨by first | rfl | simp, bel2 (bel1 _ _) (bel1 _ _)⟩
  · rw [e0] at c16
    rw [e2] at c19
    rw [e3] at c20
    unfold tryB at e1
    rw [Bool.and_eq_true] at e1
    have K1 : Hid (∀ W, Calls Tryz.prog 12 #[.int .i64 1, .int .i64 1, .int .i64 2] W fun e w' => e = .returned (.bool true) ∧ w' = W) := fun W => rwithin_calls _ _ _ W (by decide)
    have K2 : Hid (∀ W, Calls Tryz.prog 12 #[.int .i64 s.ta, .int .i64 1, .int .i64 2147483648] W fun e w' => e = .returned (.bool true) ∧ w' = W) := fun W => rwithin_calls _ _ _ W e1.1
    have K3 : Hid (∀ W, Calls Tryz.prog 12 #[.int .i64 s.td, .int .i64 0, .int .i64 2199023255552] W fun e w' => e = .returned (.bool true) ∧ w' = W) := fun W => rwithin_calls _ _ _ W e1.2
    clear e0 e1 e2 e3
    go_enter Tryz.func16, Tryz.ntmps16
    go_wp2_with fail
    refine (K1.out _).mono ?_
    rintro e w1 ⟨rfl, hw⟩
    have hw' := hw.symm
    subst hw'
    clear hw K1
    go_wp2_with fail
    refine (K2.out _).mono ?_
    rintro e w2 ⟨rfl, hw⟩
    have hw' := hw.symm
    subst hw'
    clear hw K2
    go_wp2_with fail
    refine (K3.out _).mono ?_
    rintro e w3 ⟨rfl, hw⟩
    have hw' := hw.symm
    subst hw'
    clear hw K3
    go_wp2_with fail
    go_ret
    exact ⟨by first | rfl | simp, bel2 (bel1 _ _) (bel1 _ _)⟩
  · rw [e0] at c16
    rw [e3] at c20
    unfold tryB at e1
    rw [Bool.and_eq_true] at e1
    have K1 : Hid (∀ W, Calls Tryz.prog 12 #[.int .i64 2, .int .i64 1, .int .i64 2] W fun e w' => e = .returned (.bool true) ∧ w' = W) := fun W => rwithin_calls _ _ _ W (by decide)
    have K2 : Hid (∀ W, Calls Tryz.prog 12 #[.int .i64 s.ta, .int .i64 1, .int .i64 2147483648] W fun e w' => e = .returned (.bool true) ∧ w' = W) := fun W => rwithin_calls _ _ _ W e1.1
    have K3 : Hid (∀ W, Calls Tryz.prog 12 #[.int .i64 s.td, .int .i64 0, .int .i64 2199023255552] W fun e w' => e = .returned (.bool true) ∧ w' = W) := fun W => rwithin_calls _ _ _ W e1.2
    have K4 : Hid (∀ W, Calls Tryz.prog 12 #[.int .i64 s.te, .int .i64 1, .int .i64 s.count] W fun e w' => e = .returned (.bool true) ∧ w' = W) := fun W => rwithin_calls _ _ _ W e2
    clear e0 e1 e2 e3
    go_enter Tryz.func16, Tryz.ntmps16
    go_wp2_with fail
    refine (K1.out _).mono ?_
    rintro e w1 ⟨rfl, hw⟩
    have hw' := hw.symm
    subst hw'
    clear hw K1
    go_wp2_with fail
    refine (K2.out _).mono ?_
    rintro e w2 ⟨rfl, hw⟩
    have hw' := hw.symm
    subst hw'
    clear hw K2
    go_wp2_with fail
    refine (K3.out _).mono ?_
    rintro e w3 ⟨rfl, hw⟩
    have hw' := hw.symm
    subst hw'
    clear hw K3
    go_wp2_with fail
    refine (K4.out _).mono ?_
    rintro e w4 ⟨rfl, hw⟩
    have hw' := hw.symm
    subst hw'
    clear hw K4
    go_wp2_with fail
    go_ret
    exact ⟨rfl, bel2 (bel1 _ _) (bel1 _ _)⟩
end Go.Proofs.YtakaglfeeipeiaaGreat
namespace Go.Proofs.YtakaglfeeipeiaaGreat
open Go.ChangeShapes Go.WideShapes Go.ChangeAt Go.RowKit
theorem rows_belowK {w w' : World} {a : Option Addr} {k : Nat} {rows : List (Array Value)} (hk : 0 < k) (h : RowS (fun _ => True) w a k rows) (hb : Below w.heap.size w w') : RowS (fun _ => True) w' a k rows := h.map (fun _ _ h => h) (fun _ _ _ hv => cell_below hv hb) hk
theorem tm_lies {w : World} {a : Option Addr} {l : List Tm} (h : RowS (fun _ => True) w a 2 (l.map Tm.cells)) {j : Nat} {t : Tm} (hj : l[j]? = some t) : ∃ B o, a = some ⟨B, o, none⟩ ∧ w.cell? ⟨B, o + j * 2, none⟩ = some (.string t.s) ∧ w.cell? ⟨B, o + j * 2 + 1, none⟩ = some (.int .i64 t.d) := by
  obtain ⟨_, _, B, o, ha, _, hl⟩ := h j t.cells (by rw [List.getElem?_map, hj]; rfl)
  exact ⟨B, o, ha, hl 0 _ rfl, hl 1 _ rfl⟩
theorem Rz.at {α : Type} {nm : α → ByteArray} {F : α → Prop} : ∀ {l : List α} {last : ByteArray} {j : Nat} {x : α}, Rz nm F last l → l[j]? = some x → F x
  | [], _, _, _, _, hx => by simp at hx
  | t :: l, last, 0, x, h, hx => by
    simp at hx
    subst hx
    exact h.1.2
  | t :: l, last, j + 1, x, h, hx => Rz.at h.2 (by simpa using hx)
theorem Rz.next {α : Type} {nm : α → ByteArray} {F : α → Prop} : ∀ {l : List α} {last : ByteArray} {j : Nat} {x y : α}, Rz nm F last l → l[j]? = some x → l[j + 1]? = some y → leS (nm y) (nm x) = false
  | [], _, _, _, _, _, hx, _ => by simp at hx
  | t :: [], last, 0, x, y, h, hx, hy => by simp at hy
  | t :: u :: l, last, 0, x, y, h, hx, hy => by
    simp at hx hy
    subst hx
    subst hy
    exact h.2.1.1
  | t :: l, last, j + 1, x, y, h, hx, hy => Rz.next (j := j) h.2 (by simpa using hx) (by simpa using hy)
theorem ge_no {a b : ByteArray} (h : leS b a = false) : Op.bytesLess b.toList a.toList = false ∧ (a.toList == b.toList) = false ∧ Op.bytesLess a.toList b.toList = true := by
  have hl := lt_of_le h
  refine ⟨bl_asymm _ _ hl, ?_, hl⟩
  unfold leS at h
  rw [Bool.or_eq_false_iff] at h
  have := h.2
  rw [beq_eq_false_iff_ne] at this ⊢
  exact fun e => this e.symm
theorem subj {j : Nat} (h : 0 < j) (hj : j ≤ 1000) : ∃ i : Nat, j = i + 1 ∧ IntKind.i64.wrap (i : Int) = (i : Int) := ⟨j - 1, by omega, by rw [IntKind.wrap_i64]; omega⟩
set_option maxHeartbeats 8000000 in
set_option maxRecDepth 100000 in
theorem rlists_calls (n : Nat) (cs : Array Value) (s : Sta) (w : World) (h : Rs w (n + 1) cs s) (ht : TimP (n + 1) s.tm) (hu : UpdP (n + 1) s.up) : Calls Tryz.prog 17 #[.agg cs] w (YesP w) := by
  obtain ⟨ta, tc, c23, hT⟩ := h.tm
  obtain ⟨ua, uc, us, c24, hul, hur, huu⟩ := h.up
  have HT : Hid (RowS (fun _ => True) w ta 2 (s.tm.map Tm.cells)) := hT
  have HU : Hid (us.length = s.up.length ∧ RowS (fun _ => True) w ua 12 us ∧ ∀ (i : Nat) r u, us[i]? = some r → s.up[i]? = some u → IsU (Is w (n + 1)) r u) := ⟨hul, hur, huu⟩
  have HRT : Hid (Rz Tm.s (FT (n + 1)) ⟨#[]⟩ s.tm) := (rzT_iff _ _ _).1 ht.2
  have HRU : Hid (Rz Up.s (FU (n + 1)) ⟨#[]⟩ s.up) := (rzU_iff _ _ _).1 hu.2
  have HL1 : Hid (s.tm.length ≤ 10) := ht.1
  have HL2 : Hid (s.up.length ≤ 10) := hu.1
  generalize hm : s.tm.length = m at c23 HL1
  generalize hp : s.up.length = p at c24 HL2
  have HM : Hid (s.tm.length = m) := hm
  have HP : Hid (s.up.length = p) := hp
  have d1 : decide ((10 : Int) < (m : Int)) = false := decide_eq_false (by have := HL1.out; omega)
  have d2 : decide ((10 : Int) < (p : Int)) = false := decide_eq_false (by have := HL2.out; omega)
  have d3 : decide (10 < m) = false := decide_eq_false (by have := HL1.out; omega)
  have d4 : decide (10 < p) = false := decide_eq_false (by have := HL2.out; omega)
  have r0 : (w.alloc (.cells cs 37)).heap[w.heap.size]? = some (.cells cs 37 (0, 0)) := heap_alloc_new _ _
  have HR0 : Hid ((w.alloc (.cells cs 37)).heap[w.heap.size]? = some (.cells cs 37 (0, 0))) := r0
  clear h ht hu hT hul hur huu hm hp r0
  go_enter Tryz.func17, Tryz.ntmps17
  go_wp2_with fail
  generalize hW0 : w.alloc (.cells cs 37) = W0 at HR0 ⊢
  have HB0 : Hid (Below w.heap.size w W0) := by rw [← hW0]; exact bel1 _ _
  clear hW0 d1 d2 d3 d4
  go_loopw [3, 4] (fun i _ wr => ∃ j : Nat, j ≤ m ∧ i = .int .i64 (j : Int) ∧ Hid (Below W0.heap.size W0 wr)) (fun i _ _ => m - (intOf i).toNat)
  case atStart => exact ⟨0, Nat.zero_le _, rfl, Below.refl _ _⟩
  case round =>
    obtain ⟨j, hj, rfl, HB⟩ := hrel
    have z23 : wr.cell? ⟨w.heap.size, 23, none⟩ = some (.slice ta m tc) := row_cell (row_below HB.out HR0.out) c23
    have HBw : Hid (Below w.heap.size w wr) := bel2 HB0.out HB.out
    by_cases hlt : j < m
    · obtain ⟨d, hd⟩ : ∃ d, s.tm[j]? = some d := ⟨_, List.getElem?_eq_getElem (by rw [HM.out]; exact hlt)⟩
      obtain ⟨B, o, rfl, q0, q1⟩ := tm_lies (rows_belowK (by decide) HT.out HBw.out) hd
      have hfd := Rz.at HRT.out hd
      have KN : Hid (∀ W, Calls Tryz.prog 13 #[.string d.s] W fun e w' => e = .returned (.bool true) ∧ w' = W) := fun W => by
        have := rname_calls d.s W
        rwa [(name_iff _ _).1 hfd.1] at this
      have KW : Hid (∀ W, Calls Tryz.prog 12 #[.int .i64 d.d, .int .i64 0, .int .i64 2199023255552] W fun e w' => e = .returned (.bool true) ∧ w' = W) := fun W => rwithin_calls _ _ _ W hfd.2
      have HW : Hid (wrap64 ((j : Int) + 1) = ((j + 1 : Nat) : Int)) := wr1 hlt (by have := HL1.out; omega)
      have hjn : (j : Int) < (m : Int) := by omega
      have HD : Hid (s.tm[j]? = some d) := hd
      clear hd hfd
      go_upto_region 7 with fail
      have a0 : (wr.alloc (.cells #[.string d.s, .int .i64 d.d] 64)).heap[wr.heap.size]? = some (.cells #[.string d.s, .int .i64 d.d] 64 (0, 0)) := heap_alloc_new _ _
      have HBa : Hid (Below W0.heap.size W0 (wr.alloc (.cells #[.string d.s, .int .i64 d.d] 64))) := bel2 HB.out (bel1 _ _)
      generalize wr.alloc (.cells #[.string d.s, .int .i64 d.d] 64) = W4 at a0 HBa ⊢
      generalize wr.heap.size = G4 at a0 ⊢
      have x0 : W4.cell? ⟨G4, 0, none⟩ = some (.string d.s) := row_cell a0 rfl
      have x1 : W4.cell? ⟨G4, 1, none⟩ = some (.int .i64 d.d) := row_cell a0 rfl
      by_cases hj0 : 0 < j
      · obtain ⟨i, rfl, hwi⟩ := subj hj0 (by have := HL1.out; omega)
        obtain ⟨p', hp'⟩ : ∃ d, s.tm[i]? = some d := ⟨_, List.getElem?_eq_getElem (by rw [HM.out]; omega)⟩
        obtain ⟨B2, o2, e2, y0, _⟩ := tm_lies (rows_belowK (by decide) HT.out (bel2 HB0.out HBa.out)) hp'
        cases e2
        obtain ⟨k1, k2, k3⟩ := ge_no (Rz.next HRT.out hp' HD.out)
        have x2 : W4.cell? ⟨w.heap.size, 23, none⟩ = some (.slice (some ⟨B, o, none⟩) m tc) := row_cell (row_below HBa.out HR0.out) c23
        have hd0 : decide ((0 : Int) < ((i + 1 : Nat) : Int)) = true := decide_eq_true (by omega)
        have hin : (i : Int) < (m : Int) := by omega
        have h0i : (0 : Int) ≤ (i : Int) + 1 := by omega
        have HW2 : Hid (wrap64 ((i : Int) + 1 + 1) = ((i + 1 + 1 : Nat) : Int)) := by show _ = _; have := HL1.out; unfold wrap64; omega
        have x3 := y0
        generalize p' = p at x3 k1 k2 k3
        clear hp' y0 hj0 q0 q1 z23 a0
        refine wp_region_held_drew (S := (fun w' => w'.cell? ⟨G4, 0, none⟩ = some (.string d.s) ∧ w'.cell? ⟨G4, 1, none⟩ = some (.int .i64 d.d) ∧ w'.cell? ⟨w.heap.size, 23, none⟩ = some (.slice (some ⟨B, o, none⟩) m tc) ∧ w'.cell? ⟨B, o + i * 2, none⟩ = some (.string p.s))) (by kernel_rfl) ⟨x0, x1, x2, x3⟩ (fun hHeld => ?_)
        change wpAnyH _ _ _ _ _ _ _ _ (World.drew _)
        refine wpAnyH_take (i := 0) (oi := { dst := some 28, op := Go.Op.fieldAddr 64 (Go.Operand.tmp 4) 0, type := 0, pos := "ref.go:45", after := #[], guard := none }) (v := ?_) rfl (by kernel_rfl) (by kernel_rfl) (by kernel_rfl) (fun _ _ _ h => h) (Or.inl ⟨by rfl, ?_⟩) hHeld ?_
        rotate_left 1
        · (intro w hSw; (try dsimp only at hSw); go_simp <;> with_reducible rfl)
        simp only [Act.put, List.setIfInBounds_toArray, List.set_cons_zero, List.set_cons_succ]
        refine wpAnyH_take (i := 1) (oi := { dst := some 29, op := Go.Op.load 9 (Go.Operand.tmp 28), type := 9, pos := "ref.go:45", after := #[{ on := 0, ground := Go.Ground.data }], guard := none }) (v := ?_) rfl (by kernel_rfl) (by kernel_rfl) (by kernel_rfl) (fun _ _ _ h => h) (Or.inl ⟨by rfl, ?_⟩) hHeld ?_
        rotate_left 1
        · (intro w hSw; (try dsimp only at hSw); go_simp <;> with_reducible rfl)
        simp only [Act.put, List.setIfInBounds_toArray, List.set_cons_zero, List.set_cons_succ]
        refine wpAnyH_ready (rs := [2]) (by kernel_rfl) (by simp) ?_
        refine AllReadyH.cons (o := { dst := some 30, op := Go.Op.call { callee := Go.Callee.value (Go.Operand.func 13), args := #[Go.Operand.tmp 29], argTypes := #[9] }, type := 4, pos := "ref.go:45", after := #[{ on := 1, ground := Go.Ground.data }], guard := none }) rfl (fun K hK => ?_) AllReadyH.nil
        go_simp
        refine (KN.out _).mono ?_
        rintro e w5 ⟨rfl, hw⟩
        have hw' := hw.symm
        subst hw'
        clear hw
        refine hK.out _ _ ⟨x0, x1, x2, x3⟩ (fun hHeld => ?_)
        clear hK K
        refine wpAnyH_take (i := 3) (oi := { dst := some 31, op := Go.Op.unOp Go.UnOp.not 4 (Go.Operand.tmp 30), type := 4, pos := "ref.go:45", after := #[{ on := 2, ground := Go.Ground.data }], guard := none }) (v := ?_) rfl (by kernel_rfl) (by kernel_rfl) (by kernel_rfl) (fun _ _ _ h => h) (Or.inl ⟨by rfl, ?_⟩) hHeld ?_
        rotate_left 1
        · (intro w hSw; (try dsimp only at hSw); go_simp <;> with_reducible rfl)
        simp only [Act.put, List.setIfInBounds_toArray, List.set_cons_zero, List.set_cons_succ]
        refine wpAnyH_take (i := 4) (oi := { dst := some 32, op := Go.Op.move (Go.Operand.tmp 31), type := 4, pos := "ref.go:45", after := #[{ on := 3, ground := Go.Ground.data }, { on := 2, ground := Go.Ground.chain }], guard := none }) (v := ?_) rfl (by kernel_rfl) (by kernel_rfl) (by kernel_rfl) (fun _ _ _ h => h) (Or.inl ⟨by rfl, ?_⟩) hHeld ?_
        rotate_left 1
        · (intro w hSw; (try dsimp only at hSw); go_simp <;> with_reducible rfl)
        simp only [Act.put, List.setIfInBounds_toArray, List.set_cons_zero, List.set_cons_succ]
        refine wpAnyH_take (i := 5) (oi := { dst := some 33, op := Go.Op.fieldAddr 64 (Go.Operand.tmp 4) 1, type := 0, pos := "ref.go:45", after := #[{ on := 4, ground := Go.Ground.guard }], guard := some (4, false) }) (v := ?_) rfl (by kernel_rfl) (by kernel_rfl) (by kernel_rfl) (fun _ _ _ h => h) (Or.inl ⟨by rfl, ?_⟩) hHeld ?_
        rotate_left 1
        · (intro w hSw; (try dsimp only at hSw); go_simp <;> with_reducible rfl)
        simp only [Act.put, List.setIfInBounds_toArray, List.set_cons_zero, List.set_cons_succ]
        refine wpAnyH_take (i := 6) (oi := { dst := some 34, op := Go.Op.load 3 (Go.Operand.tmp 33), type := 3, pos := "ref.go:45", after := #[{ on := 5, ground := Go.Ground.data }, { on := 4, ground := Go.Ground.guard }], guard := some (4, false) }) (v := ?_) rfl (by kernel_rfl) (by kernel_rfl) (by kernel_rfl) (fun _ _ _ h => h) (Or.inl ⟨by rfl, ?_⟩) hHeld ?_
        rotate_left 1
        · (intro w hSw; (try dsimp only at hSw); go_simp <;> with_reducible rfl)
        simp only [Act.put, List.setIfInBounds_toArray, List.set_cons_zero, List.set_cons_succ]
        refine wpAnyH_ready (rs := [7]) (by kernel_rfl) (by simp) ?_
        refine AllReadyH.cons (o := { dst := some 35, op := Go.Op.call { callee := Go.Callee.value (Go.Operand.func 12), args := #[Go.Operand.tmp 34, Go.Operand.const (Go.Value.int Go.IntKind.i64 0), Go.Operand.const (Go.Value.int Go.IntKind.i64 2199023255552)], argTypes := #[3, 3, 3] }, type := 4, pos := "ref.go:45", after := #[{ on := 6, ground := Go.Ground.data }, { on := 4, ground := Go.Ground.chain }, { on := 4, ground := Go.Ground.guard }], guard := some (4, false) }) rfl (fun K hK => ?_) AllReadyH.nil
        go_simp
        refine (KW.out _).mono ?_
        rintro e w6 ⟨rfl, hw⟩
        have hw' := hw.symm
        subst hw'
        clear hw
        refine hK.out _ _ ⟨x0, x1, x2, x3⟩ (fun hHeld => ?_)
        clear hK K
        refine wpAnyH_take (i := 8) (oi := { dst := some 36, op := Go.Op.unOp Go.UnOp.not 4 (Go.Operand.tmp 35), type := 4, pos := "ref.go:45", after := #[{ on := 7, ground := Go.Ground.data }, { on := 4, ground := Go.Ground.guard }], guard := some (4, false) }) (v := ?_) rfl (by kernel_rfl) (by kernel_rfl) (by kernel_rfl) (fun _ _ _ h => h) (Or.inl ⟨by rfl, ?_⟩) hHeld ?_
        rotate_left 1
        · (intro w hSw; (try dsimp only at hSw); go_simp <;> with_reducible rfl)
        simp only [Act.put, List.setIfInBounds_toArray, List.set_cons_zero, List.set_cons_succ]
        refine wpAnyH_take (i := 9) (oi := { dst := some 37, op := Go.Op.pick (Go.Operand.tmp 32) (Go.Operand.const (Go.Value.bool true)) (Go.Operand.tmp 36), type := 4, pos := "ref.go:45", after := #[{ on := 4, ground := Go.Ground.data }, { on := 8, ground := Go.Ground.data }], guard := none }) (v := ?_) rfl (by kernel_rfl) (by kernel_rfl) (by kernel_rfl) (fun _ _ _ h => h) (Or.inl ⟨by rfl, ?_⟩) hHeld ?_
        rotate_left 1
        · (intro w hSw; (try dsimp only at hSw); go_simp <;> with_reducible rfl)
        simp only [Act.put, List.setIfInBounds_toArray, List.set_cons_zero, List.set_cons_succ]
        refine wpAnyH_take (i := 10) (oi := { dst := some 38, op := Go.Op.move (Go.Operand.tmp 37), type := 4, pos := "ref.go:45", after := #[{ on := 9, ground := Go.Ground.data }, { on := 7, ground := Go.Ground.chain }], guard := none }) (v := ?_) rfl (by kernel_rfl) (by kernel_rfl) (by kernel_rfl) (fun _ _ _ h => h) (Or.inl ⟨by rfl, ?_⟩) hHeld ?_
        rotate_left 1
        · (intro w hSw; (try dsimp only at hSw); go_simp <;> with_reducible rfl)
        simp only [Act.put, List.setIfInBounds_toArray, List.set_cons_zero, List.set_cons_succ]
        refine wpAnyH_take (i := 11) (oi := { dst := some 39, op := Go.Op.move (Go.Operand.tmp 3), type := 3, pos := "ref.go:45", after := #[{ on := 10, ground := Go.Ground.guard }], guard := some (10, false) }) (v := ?_) rfl (by kernel_rfl) (by kernel_rfl) (by kernel_rfl) (fun _ _ _ h => h) (Or.inl ⟨by rfl, ?_⟩) hHeld ?_
        rotate_left 1
        · (intro w hSw; (try dsimp only at hSw); go_simp <;> with_reducible rfl)
        simp only [Act.put, List.setIfInBounds_toArray, List.set_cons_zero, List.set_cons_succ]
        refine wpAnyH_take (i := 12) (oi := { dst := some 40, op := Go.Op.binOp Go.BinOp.gtr 3 (Go.Operand.tmp 39) (Go.Operand.const (Go.Value.int Go.IntKind.i64 0)) 3, type := 4, pos := "ref.go:45", after := #[{ on := 11, ground := Go.Ground.data }, { on := 10, ground := Go.Ground.guard }], guard := some (10, false) }) (v := ?_) rfl (by kernel_rfl) (by kernel_rfl) (by kernel_rfl) (fun _ _ _ h => h) (Or.inl ⟨by rfl, ?_⟩) hHeld ?_
        rotate_left 1
        · (intro w hSw; (try dsimp only at hSw); go_simp <;> with_reducible rfl)
        simp only [Act.put, List.setIfInBounds_toArray, List.set_cons_zero, List.set_cons_succ]
        refine wpAnyH_take (i := 13) (oi := { dst := some 41, op := Go.Op.move (Go.Operand.tmp 40), type := 4, pos := "ref.go:45", after := #[{ on := 12, ground := Go.Ground.data }, { on := 10, ground := Go.Ground.chain }, { on := 10, ground := Go.Ground.guard }], guard := some (10, false) }) (v := ?_) rfl (by kernel_rfl) (by kernel_rfl) (by kernel_rfl) (fun _ _ _ h => h) (Or.inl ⟨by rfl, ?_⟩) hHeld ?_
        rotate_left 1
        · (intro w hSw; (try dsimp only at hSw); go_simp <;> with_reducible rfl)
        simp only [Act.put, List.setIfInBounds_toArray, List.set_cons_zero, List.set_cons_succ]
        refine wpAnyH_take (i := 14) (oi := { dst := some 42, op := Go.Op.fieldAddr 37 (Go.Operand.tmp 1) 13, type := 0, pos := "ref.go:45", after := #[{ on := 13, ground := Go.Ground.guard }], guard := some (13, true) }) (v := ?_) rfl (by kernel_rfl) (by kernel_rfl) (by kernel_rfl) (fun _ _ _ h => h) (Or.inl ⟨by rfl, ?_⟩) hHeld ?_
        rotate_left 1
        · (intro w hSw; (try dsimp only at hSw); go_simp <;> with_reducible rfl)
        simp only [Act.put, List.setIfInBounds_toArray, List.set_cons_zero, List.set_cons_succ]
        refine wpAnyH_take (i := 15) (oi := { dst := some 43, op := Go.Op.load 34 (Go.Operand.tmp 42), type := 34, pos := "ref.go:45", after := #[{ on := 14, ground := Go.Ground.data }, { on := 13, ground := Go.Ground.guard }], guard := some (13, true) }) (v := ?_) rfl (by kernel_rfl) (by kernel_rfl) (by kernel_rfl) (fun _ _ _ h => h) (Or.inl ⟨by rfl, ?_⟩) hHeld ?_
        rotate_left 1
        · (intro w hSw; (try dsimp only at hSw); go_simp <;> with_reducible rfl)
        simp only [Act.put, List.setIfInBounds_toArray, List.set_cons_zero, List.set_cons_succ]
        refine wpAnyH_take (i := 16) (oi := { dst := some 44, op := Go.Op.move (Go.Operand.tmp 3), type := 3, pos := "ref.go:45", after := #[{ on := 13, ground := Go.Ground.guard }], guard := some (13, true) }) (v := ?_) rfl (by kernel_rfl) (by kernel_rfl) (by kernel_rfl) (fun _ _ _ h => h) (Or.inl ⟨by rfl, ?_⟩) hHeld ?_
        rotate_left 1
        · (intro w hSw; (try dsimp only at hSw); go_simp <;> with_reducible rfl)
        simp only [Act.put, List.setIfInBounds_toArray, List.set_cons_zero, List.set_cons_succ]
        refine wpAnyH_take (i := 17) (oi := { dst := some 45, op := Go.Op.binOp Go.BinOp.sub 3 (Go.Operand.tmp 44) (Go.Operand.const (Go.Value.int Go.IntKind.i64 1)) 3, type := 3, pos := "ref.go:45", after := #[{ on := 16, ground := Go.Ground.data }, { on := 13, ground := Go.Ground.guard }], guard := some (13, true) }) (v := ?_) rfl (by kernel_rfl) (by kernel_rfl) (by kernel_rfl) (fun _ _ _ h => h) (Or.inl ⟨by rfl, ?_⟩) hHeld ?_
        rotate_left 1
        · (intro w hSw; (try dsimp only at hSw); go_simp <;> with_reducible rfl)
        simp only [Act.put, List.setIfInBounds_toArray, List.set_cons_zero, List.set_cons_succ]
        refine wpAnyH_take (i := 18) (oi := { dst := some 46, op := Go.Op.indexAddr 34 (Go.Operand.tmp 43) (Go.Operand.tmp 45), type := 0, pos := "ref.go:45", after := #[{ on := 15, ground := Go.Ground.data }, { on := 17, ground := Go.Ground.data }, { on := 13, ground := Go.Ground.guard }], guard := some (13, true) }) (v := ?_) rfl (by kernel_rfl) (by kernel_rfl) (by kernel_rfl) (fun _ _ _ h => h) (Or.inl ⟨by rfl, ?_⟩) hHeld ?_
        rotate_left 1
        · (intro w hSw; (try dsimp only at hSw); go_simp <;> with_reducible rfl)
        simp only [Act.put, List.setIfInBounds_toArray, List.set_cons_zero, List.set_cons_succ]
        refine wpAnyH_take (i := 19) (oi := { dst := some 47, op := Go.Op.fieldAddr 64 (Go.Operand.tmp 46) 0, type := 0, pos := "ref.go:45", after := #[{ on := 18, ground := Go.Ground.data }, { on := 13, ground := Go.Ground.guard }], guard := some (13, true) }) (v := ?_) rfl (by kernel_rfl) (by kernel_rfl) (by kernel_rfl) (fun _ _ _ h => h) (Or.inl ⟨by rfl, ?_⟩) hHeld ?_
        rotate_left 1
        · (intro w hSw; (try dsimp only at hSw); go_simp <;> with_reducible rfl)
        simp only [Act.put, List.setIfInBounds_toArray, List.set_cons_zero, List.set_cons_succ]
        refine wpAnyH_take (i := 20) (oi := { dst := some 48, op := Go.Op.load 9 (Go.Operand.tmp 47), type := 9, pos := "ref.go:45", after := #[{ on := 19, ground := Go.Ground.data }, { on := 13, ground := Go.Ground.guard }], guard := some (13, true) }) (v := ?_) rfl (by kernel_rfl) (by kernel_rfl) (by kernel_rfl) (fun _ _ _ h => h) (Or.inl ⟨by rfl, ?_⟩) hHeld ?_
        rotate_left 1
        · (intro w hSw; (try dsimp only at hSw); go_simp <;> with_reducible rfl)
        simp only [Act.put, List.setIfInBounds_toArray, List.set_cons_zero, List.set_cons_succ]
        refine wpAnyH_take (i := 21) (oi := { dst := some 49, op := Go.Op.fieldAddr 64 (Go.Operand.tmp 4) 0, type := 0, pos := "ref.go:45", after := #[{ on := 13, ground := Go.Ground.guard }], guard := some (13, true) }) (v := ?_) rfl (by kernel_rfl) (by kernel_rfl) (by kernel_rfl) (fun _ _ _ h => h) (Or.inl ⟨by rfl, ?_⟩) hHeld ?_
        rotate_left 1
        · (intro w hSw; (try dsimp only at hSw); go_simp <;> with_reducible rfl)
        simp only [Act.put, List.setIfInBounds_toArray, List.set_cons_zero, List.set_cons_succ]
        refine wpAnyH_take (i := 22) (oi := { dst := some 50, op := Go.Op.load 9 (Go.Operand.tmp 49), type := 9, pos := "ref.go:45", after := #[{ on := 21, ground := Go.Ground.data }, { on := 13, ground := Go.Ground.guard }], guard := some (13, true) }) (v := ?_) rfl (by kernel_rfl) (by kernel_rfl) (by kernel_rfl) (fun _ _ _ h => h) (Or.inl ⟨by rfl, ?_⟩) hHeld ?_
        rotate_left 1
        · (intro w hSw; (try dsimp only at hSw); go_simp <;> with_reducible rfl)
        simp only [Act.put, List.setIfInBounds_toArray, List.set_cons_zero, List.set_cons_succ]
        refine wpAnyH_take (i := 23) (oi := { dst := some 51, op := Go.Op.binOp Go.BinOp.geq 9 (Go.Operand.tmp 48) (Go.Operand.tmp 50) 9, type := 4, pos := "ref.go:45", after := #[{ on := 20, ground := Go.Ground.data }, { on := 22, ground := Go.Ground.data }, { on := 13, ground := Go.Ground.guard }], guard := some (13, true) }) (v := ?_) rfl (by kernel_rfl) (by kernel_rfl) (by kernel_rfl) (fun _ _ _ h => h) (Or.inl ⟨by rfl, ?_⟩) hHeld ?_
        rotate_left 1
        · (intro w hSw; (try dsimp only at hSw); go_simp <;> with_reducible rfl)
        simp only [Act.put, List.setIfInBounds_toArray, List.set_cons_zero, List.set_cons_succ]
        refine wpAnyH_take (i := 24) (oi := { dst := some 52, op := Go.Op.pick (Go.Operand.tmp 41) (Go.Operand.tmp 51) (Go.Operand.const (Go.Value.bool false)), type := 4, pos := "ref.go:45", after := #[{ on := 13, ground := Go.Ground.data }, { on := 23, ground := Go.Ground.data }, { on := 10, ground := Go.Ground.guard }], guard := some (10, false) }) (v := ?_) rfl (by kernel_rfl) (by kernel_rfl) (by kernel_rfl) (fun _ _ _ h => h) (Or.inl ⟨by rfl, ?_⟩) hHeld ?_
        rotate_left 1
        · (intro w hSw; (try dsimp only at hSw); go_simp <;> with_reducible rfl)
        simp only [Act.put, List.setIfInBounds_toArray, List.set_cons_zero, List.set_cons_succ]
        refine wpAnyH_take (i := 25) (oi := { dst := some 53, op := Go.Op.pick (Go.Operand.tmp 38) (Go.Operand.const (Go.Value.bool true)) (Go.Operand.tmp 52), type := 4, pos := "ref.go:45", after := #[{ on := 10, ground := Go.Ground.data }, { on := 24, ground := Go.Ground.data }], guard := none }) (v := ?_) rfl (by kernel_rfl) (by kernel_rfl) (by kernel_rfl) (fun _ _ _ h => h) (Or.inl ⟨by rfl, ?_⟩) hHeld ?_
        rotate_left 1
        · (intro w hSw; (try dsimp only at hSw); go_simp <;> with_reducible rfl)
        simp only [Act.put, List.setIfInBounds_toArray, List.set_cons_zero, List.set_cons_succ]
        refine wpAnyH_done (by kernel_rfl) ?_ _
        go_wp2_with fail
        exact ⟨⟨i + 1 + 1, hlt, by first | rw [HW.out] | rw [HW2.out] | exact congrArg _ (Int.natCast_succ (i + 1)).symm, HBa.out.drew⟩, by first | exact meas hlt HW.out | exact meas hlt HW2.out | exact meas hlt (Int.natCast_succ (i + 1)).symm⟩
      · obtain rfl : j = 0 := by omega
        clear q0 q1 z23 a0 hj0
        refine wp_region_held_drew (S := (fun w' => w'.cell? ⟨G4, 0, none⟩ = some (.string d.s) ∧ w'.cell? ⟨G4, 1, none⟩ = some (.int .i64 d.d))) (by kernel_rfl) ⟨x0, x1⟩ (fun hHeld => ?_)
        change wpAnyH _ _ _ _ _ _ _ _ (World.drew _)
        refine wpAnyH_take (i := 0) (oi := { dst := some 28, op := Go.Op.fieldAddr 64 (Go.Operand.tmp 4) 0, type := 0, pos := "ref.go:45", after := #[], guard := none }) (v := ?_) rfl (by kernel_rfl) (by kernel_rfl) (by kernel_rfl) (fun _ _ _ h => h) (Or.inl ⟨by rfl, ?_⟩) hHeld ?_
        rotate_left 1
        · (intro w hSw; (try dsimp only at hSw); go_simp <;> with_reducible rfl)
        simp only [Act.put, List.setIfInBounds_toArray, List.set_cons_zero, List.set_cons_succ]
        refine wpAnyH_take (i := 1) (oi := { dst := some 29, op := Go.Op.load 9 (Go.Operand.tmp 28), type := 9, pos := "ref.go:45", after := #[{ on := 0, ground := Go.Ground.data }], guard := none }) (v := ?_) rfl (by kernel_rfl) (by kernel_rfl) (by kernel_rfl) (fun _ _ _ h => h) (Or.inl ⟨by rfl, ?_⟩) hHeld ?_
        rotate_left 1
        · (intro w hSw; (try dsimp only at hSw); go_simp <;> with_reducible rfl)
        simp only [Act.put, List.setIfInBounds_toArray, List.set_cons_zero, List.set_cons_succ]
        refine wpAnyH_ready (rs := [2]) (by kernel_rfl) (by simp) ?_
        refine AllReadyH.cons (o := { dst := some 30, op := Go.Op.call { callee := Go.Callee.value (Go.Operand.func 13), args := #[Go.Operand.tmp 29], argTypes := #[9] }, type := 4, pos := "ref.go:45", after := #[{ on := 1, ground := Go.Ground.data }], guard := none }) rfl (fun K hK => ?_) AllReadyH.nil
        go_simp
        refine (KN.out _).mono ?_
        rintro e w5 ⟨rfl, hw⟩
        have hw' := hw.symm
        subst hw'
        clear hw
        refine hK.out _ _ ⟨x0, x1⟩ (fun hHeld => ?_)
        clear hK K
        refine wpAnyH_take (i := 3) (oi := { dst := some 31, op := Go.Op.unOp Go.UnOp.not 4 (Go.Operand.tmp 30), type := 4, pos := "ref.go:45", after := #[{ on := 2, ground := Go.Ground.data }], guard := none }) (v := ?_) rfl (by kernel_rfl) (by kernel_rfl) (by kernel_rfl) (fun _ _ _ h => h) (Or.inl ⟨by rfl, ?_⟩) hHeld ?_
        rotate_left 1
        · (intro w hSw; (try dsimp only at hSw); go_simp <;> with_reducible rfl)
        simp only [Act.put, List.setIfInBounds_toArray, List.set_cons_zero, List.set_cons_succ]
        refine wpAnyH_take (i := 4) (oi := { dst := some 32, op := Go.Op.move (Go.Operand.tmp 31), type := 4, pos := "ref.go:45", after := #[{ on := 3, ground := Go.Ground.data }, { on := 2, ground := Go.Ground.chain }], guard := none }) (v := ?_) rfl (by kernel_rfl) (by kernel_rfl) (by kernel_rfl) (fun _ _ _ h => h) (Or.inl ⟨by rfl, ?_⟩) hHeld ?_
        rotate_left 1
        · (intro w hSw; (try dsimp only at hSw); go_simp <;> with_reducible rfl)
        simp only [Act.put, List.setIfInBounds_toArray, List.set_cons_zero, List.set_cons_succ]
        refine wpAnyH_take (i := 5) (oi := { dst := some 33, op := Go.Op.fieldAddr 64 (Go.Operand.tmp 4) 1, type := 0, pos := "ref.go:45", after := #[{ on := 4, ground := Go.Ground.guard }], guard := some (4, false) }) (v := ?_) rfl (by kernel_rfl) (by kernel_rfl) (by kernel_rfl) (fun _ _ _ h => h) (Or.inl ⟨by rfl, ?_⟩) hHeld ?_
        rotate_left 1
        · (intro w hSw; (try dsimp only at hSw); go_simp <;> with_reducible rfl)
        simp only [Act.put, List.setIfInBounds_toArray, List.set_cons_zero, List.set_cons_succ]
        refine wpAnyH_take (i := 6) (oi := { dst := some 34, op := Go.Op.load 3 (Go.Operand.tmp 33), type := 3, pos := "ref.go:45", after := #[{ on := 5, ground := Go.Ground.data }, { on := 4, ground := Go.Ground.guard }], guard := some (4, false) }) (v := ?_) rfl (by kernel_rfl) (by kernel_rfl) (by kernel_rfl) (fun _ _ _ h => h) (Or.inl ⟨by rfl, ?_⟩) hHeld ?_
        rotate_left 1
        · (intro w hSw; (try dsimp only at hSw); go_simp <;> with_reducible rfl)
        simp only [Act.put, List.setIfInBounds_toArray, List.set_cons_zero, List.set_cons_succ]
        refine wpAnyH_ready (rs := [7]) (by kernel_rfl) (by simp) ?_
        refine AllReadyH.cons (o := { dst := some 35, op := Go.Op.call { callee := Go.Callee.value (Go.Operand.func 12), args := #[Go.Operand.tmp 34, Go.Operand.const (Go.Value.int Go.IntKind.i64 0), Go.Operand.const (Go.Value.int Go.IntKind.i64 2199023255552)], argTypes := #[3, 3, 3] }, type := 4, pos := "ref.go:45", after := #[{ on := 6, ground := Go.Ground.data }, { on := 4, ground := Go.Ground.chain }, { on := 4, ground := Go.Ground.guard }], guard := some (4, false) }) rfl (fun K hK => ?_) AllReadyH.nil
        go_simp
        refine (KW.out _).mono ?_
        rintro e w6 ⟨rfl, hw⟩
        have hw' := hw.symm
        subst hw'
        clear hw
        refine hK.out _ _ ⟨x0, x1⟩ (fun hHeld => ?_)
        clear hK K
        refine wpAnyH_take (i := 8) (oi := { dst := some 36, op := Go.Op.unOp Go.UnOp.not 4 (Go.Operand.tmp 35), type := 4, pos := "ref.go:45", after := #[{ on := 7, ground := Go.Ground.data }, { on := 4, ground := Go.Ground.guard }], guard := some (4, false) }) (v := ?_) rfl (by kernel_rfl) (by kernel_rfl) (by kernel_rfl) (fun _ _ _ h => h) (Or.inl ⟨by rfl, ?_⟩) hHeld ?_
        rotate_left 1
        · (intro w hSw; (try dsimp only at hSw); go_simp <;> with_reducible rfl)
        simp only [Act.put, List.setIfInBounds_toArray, List.set_cons_zero, List.set_cons_succ]
        refine wpAnyH_take (i := 9) (oi := { dst := some 37, op := Go.Op.pick (Go.Operand.tmp 32) (Go.Operand.const (Go.Value.bool true)) (Go.Operand.tmp 36), type := 4, pos := "ref.go:45", after := #[{ on := 4, ground := Go.Ground.data }, { on := 8, ground := Go.Ground.data }], guard := none }) (v := ?_) rfl (by kernel_rfl) (by kernel_rfl) (by kernel_rfl) (fun _ _ _ h => h) (Or.inl ⟨by rfl, ?_⟩) hHeld ?_
        rotate_left 1
        · (intro w hSw; (try dsimp only at hSw); go_simp <;> with_reducible rfl)
        simp only [Act.put, List.setIfInBounds_toArray, List.set_cons_zero, List.set_cons_succ]
        refine wpAnyH_take (i := 10) (oi := { dst := some 38, op := Go.Op.move (Go.Operand.tmp 37), type := 4, pos := "ref.go:45", after := #[{ on := 9, ground := Go.Ground.data }, { on := 7, ground := Go.Ground.chain }], guard := none }) (v := ?_) rfl (by kernel_rfl) (by kernel_rfl) (by kernel_rfl) (fun _ _ _ h => h) (Or.inl ⟨by rfl, ?_⟩) hHeld ?_
        rotate_left 1
        · (intro w hSw; (try dsimp only at hSw); go_simp <;> with_reducible rfl)
        simp only [Act.put, List.setIfInBounds_toArray, List.set_cons_zero, List.set_cons_succ]
        refine wpAnyH_take (i := 11) (oi := { dst := some 39, op := Go.Op.move (Go.Operand.tmp 3), type := 3, pos := "ref.go:45", after := #[{ on := 10, ground := Go.Ground.guard }], guard := some (10, false) }) (v := ?_) rfl (by kernel_rfl) (by kernel_rfl) (by kernel_rfl) (fun _ _ _ h => h) (Or.inl ⟨by rfl, ?_⟩) hHeld ?_
        rotate_left 1
        · (intro w hSw; (try dsimp only at hSw); go_simp <;> with_reducible rfl)
        simp only [Act.put, List.setIfInBounds_toArray, List.set_cons_zero, List.set_cons_succ]
        refine wpAnyH_take (i := 12) (oi := { dst := some 40, op := Go.Op.binOp Go.BinOp.gtr 3 (Go.Operand.tmp 39) (Go.Operand.const (Go.Value.int Go.IntKind.i64 0)) 3, type := 4, pos := "ref.go:45", after := #[{ on := 11, ground := Go.Ground.data }, { on := 10, ground := Go.Ground.guard }], guard := some (10, false) }) (v := ?_) rfl (by kernel_rfl) (by kernel_rfl) (by kernel_rfl) (fun _ _ _ h => h) (Or.inl ⟨by rfl, ?_⟩) hHeld ?_
        rotate_left 1
        · (intro w hSw; (try dsimp only at hSw); go_simp <;> with_reducible rfl)
        simp only [Act.put, List.setIfInBounds_toArray, List.set_cons_zero, List.set_cons_succ]
        refine wpAnyH_take (i := 13) (oi := { dst := some 41, op := Go.Op.move (Go.Operand.tmp 40), type := 4, pos := "ref.go:45", after := #[{ on := 12, ground := Go.Ground.data }, { on := 10, ground := Go.Ground.chain }, { on := 10, ground := Go.Ground.guard }], guard := some (10, false) }) (v := ?_) rfl (by kernel_rfl) (by kernel_rfl) (by kernel_rfl) (fun _ _ _ h => h) (Or.inl ⟨by rfl, ?_⟩) hHeld ?_
        rotate_left 1
        · (intro w hSw; (try dsimp only at hSw); go_simp <;> with_reducible rfl)
        simp only [Act.put, List.setIfInBounds_toArray, List.set_cons_zero, List.set_cons_succ]
        refine wpAnyH_take (i := 14) (oi := { dst := some 42, op := Go.Op.fieldAddr 37 (Go.Operand.tmp 1) 13, type := 0, pos := "ref.go:45", after := #[{ on := 13, ground := Go.Ground.guard }], guard := some (13, true) }) (v := undef) rfl (by kernel_rfl) (by kernel_rfl) (by kernel_rfl) (fun _ _ _ h => h) (Or.inr ⟨by rfl, rfl⟩) hHeld ?_
        simp only [Act.put, List.setIfInBounds_toArray, List.set_cons_zero, List.set_cons_succ]
        refine wpAnyH_take (i := 15) (oi := { dst := some 43, op := Go.Op.load 34 (Go.Operand.tmp 42), type := 34, pos := "ref.go:45", after := #[{ on := 14, ground := Go.Ground.data }, { on := 13, ground := Go.Ground.guard }], guard := some (13, true) }) (v := undef) rfl (by kernel_rfl) (by kernel_rfl) (by kernel_rfl) (fun _ _ _ h => h) (Or.inr ⟨by rfl, rfl⟩) hHeld ?_
        simp only [Act.put, List.setIfInBounds_toArray, List.set_cons_zero, List.set_cons_succ]
        refine wpAnyH_take (i := 16) (oi := { dst := some 44, op := Go.Op.move (Go.Operand.tmp 3), type := 3, pos := "ref.go:45", after := #[{ on := 13, ground := Go.Ground.guard }], guard := some (13, true) }) (v := undef) rfl (by kernel_rfl) (by kernel_rfl) (by kernel_rfl) (fun _ _ _ h => h) (Or.inr ⟨by rfl, rfl⟩) hHeld ?_
        simp only [Act.put, List.setIfInBounds_toArray, List.set_cons_zero, List.set_cons_succ]
        refine wpAnyH_take (i := 17) (oi := { dst := some 45, op := Go.Op.binOp Go.BinOp.sub 3 (Go.Operand.tmp 44) (Go.Operand.const (Go.Value.int Go.IntKind.i64 1)) 3, type := 3, pos := "ref.go:45", after := #[{ on := 16, ground := Go.Ground.data }, { on := 13, ground := Go.Ground.guard }], guard := some (13, true) }) (v := undef) rfl (by kernel_rfl) (by kernel_rfl) (by kernel_rfl) (fun _ _ _ h => h) (Or.inr ⟨by rfl, rfl⟩) hHeld ?_
        simp only [Act.put, List.setIfInBounds_toArray, List.set_cons_zero, List.set_cons_succ]
        refine wpAnyH_take (i := 18) (oi := { dst := some 46, op := Go.Op.indexAddr 34 (Go.Operand.tmp 43) (Go.Operand.tmp 45), type := 0, pos := "ref.go:45", after := #[{ on := 15, ground := Go.Ground.data }, { on := 17, ground := Go.Ground.data }, { on := 13, ground := Go.Ground.guard }], guard := some (13, true) }) (v := undef) rfl (by kernel_rfl) (by kernel_rfl) (by kernel_rfl) (fun _ _ _ h => h) (Or.inr ⟨by rfl, rfl⟩) hHeld ?_
        simp only [Act.put, List.setIfInBounds_toArray, List.set_cons_zero, List.set_cons_succ]
        refine wpAnyH_take (i := 19) (oi := { dst := some 47, op := Go.Op.fieldAddr 64 (Go.Operand.tmp 46) 0, type := 0, pos := "ref.go:45", after := #[{ on := 18, ground := Go.Ground.data }, { on := 13, ground := Go.Ground.guard }], guard := some (13, true) }) (v := undef) rfl (by kernel_rfl) (by kernel_rfl) (by kernel_rfl) (fun _ _ _ h => h) (Or.inr ⟨by rfl, rfl⟩) hHeld ?_
        simp only [Act.put, List.setIfInBounds_toArray, List.set_cons_zero, List.set_cons_succ]
        refine wpAnyH_take (i := 20) (oi := { dst := some 48, op := Go.Op.load 9 (Go.Operand.tmp 47), type := 9, pos := "ref.go:45", after := #[{ on := 19, ground := Go.Ground.data }, { on := 13, ground := Go.Ground.guard }], guard := some (13, true) }) (v := undef) rfl (by kernel_rfl) (by kernel_rfl) (by kernel_rfl) (fun _ _ _ h => h) (Or.inr ⟨by rfl, rfl⟩) hHeld ?_
        simp only [Act.put, List.setIfInBounds_toArray, List.set_cons_zero, List.set_cons_succ]
        refine wpAnyH_take (i := 21) (oi := { dst := some 49, op := Go.Op.fieldAddr 64 (Go.Operand.tmp 4) 0, type := 0, pos := "ref.go:45", after := #[{ on := 13, ground := Go.Ground.guard }], guard := some (13, true) }) (v := undef) rfl (by kernel_rfl) (by kernel_rfl) (by kernel_rfl) (fun _ _ _ h => h) (Or.inr ⟨by rfl, rfl⟩) hHeld ?_
        simp only [Act.put, List.setIfInBounds_toArray, List.set_cons_zero, List.set_cons_succ]
        refine wpAnyH_take (i := 22) (oi := { dst := some 50, op := Go.Op.load 9 (Go.Operand.tmp 49), type := 9, pos := "ref.go:45", after := #[{ on := 21, ground := Go.Ground.data }, { on := 13, ground := Go.Ground.guard }], guard := some (13, true) }) (v := undef) rfl (by kernel_rfl) (by kernel_rfl) (by kernel_rfl) (fun _ _ _ h => h) (Or.inr ⟨by rfl, rfl⟩) hHeld ?_
        simp only [Act.put, List.setIfInBounds_toArray, List.set_cons_zero, List.set_cons_succ]
        refine wpAnyH_take (i := 23) (oi := { dst := some 51, op := Go.Op.binOp Go.BinOp.geq 9 (Go.Operand.tmp 48) (Go.Operand.tmp 50) 9, type := 4, pos := "ref.go:45", after := #[{ on := 20, ground := Go.Ground.data }, { on := 22, ground := Go.Ground.data }, { on := 13, ground := Go.Ground.guard }], guard := some (13, true) }) (v := undef) rfl (by kernel_rfl) (by kernel_rfl) (by kernel_rfl) (fun _ _ _ h => h) (Or.inr ⟨by rfl, rfl⟩) hHeld ?_
        simp only [Act.put, List.setIfInBounds_toArray, List.set_cons_zero, List.set_cons_succ]
        refine wpAnyH_take (i := 24) (oi := { dst := some 52, op := Go.Op.pick (Go.Operand.tmp 41) (Go.Operand.tmp 51) (Go.Operand.const (Go.Value.bool false)), type := 4, pos := "ref.go:45", after := #[{ on := 13, ground := Go.Ground.data }, { on := 23, ground := Go.Ground.data }, { on := 10, ground := Go.Ground.guard }], guard := some (10, false) }) (v := ?_) rfl (by kernel_rfl) (by kernel_rfl) (by kernel_rfl) (fun _ _ _ h => h) (Or.inl ⟨by rfl, ?_⟩) hHeld ?_
        rotate_left 1
        · (intro w hSw; (try dsimp only at hSw); go_simp <;> with_reducible rfl)
        simp only [Act.put, List.setIfInBounds_toArray, List.set_cons_zero, List.set_cons_succ]
        refine wpAnyH_take (i := 25) (oi := { dst := some 53, op := Go.Op.pick (Go.Operand.tmp 38) (Go.Operand.const (Go.Value.bool true)) (Go.Operand.tmp 52), type := 4, pos := "ref.go:45", after := #[{ on := 10, ground := Go.Ground.data }, { on := 24, ground := Go.Ground.data }], guard := none }) (v := ?_) rfl (by kernel_rfl) (by kernel_rfl) (by kernel_rfl) (fun _ _ _ h => h) (Or.inl ⟨by rfl, ?_⟩) hHeld ?_
        rotate_left 1
        · (intro w hSw; (try dsimp only at hSw); go_simp <;> with_reducible rfl)
        simp only [Act.put, List.setIfInBounds_toArray, List.set_cons_zero, List.set_cons_succ]
        refine wpAnyH_done (by kernel_rfl) ?_ _
        go_wp2_with fail
        exact ⟨⟨0 + 1, hlt, by first | rw [HW.out] | rfl, HBa.out.drew⟩, by first | exact meas hlt HW.out | exact meas hlt rfl⟩
    · obtain rfl : j = m := by omega
      have hjn : decide ((j : Int) < (j : Int)) = false := decide_eq_false (by omega)
      go_wp2_with fail
      have HB5 := HB
      clear HB z23
      generalize hWr : wr = W5 at HB5 HBw ⊢
      clear hWr
      go_loopw [5] (fun i wr => ∃ j : Nat, j ≤ p ∧ i = .int .i64 (j : Int) ∧ Hid (Below W5.heap.size W5 wr)) (fun i _ => p - (intOf i).toNat)
      case atStart => exact ⟨0, Nat.zero_le _, rfl, Below.refl _ _⟩
      case round =>
        obtain ⟨j, hj, rfl, HB⟩ := hrel
        have z24 : wr.cell? ⟨w.heap.size, 24, none⟩ = some (.slice ua p uc) := row_cell (row_below HB.out (row_below HB5.out HR0.out)) c24
        have HBr : Hid (Below w.heap.size w wr) := bel2 HBw.out HB.out
        by_cases hlt : j < p
        · obtain ⟨d, hd⟩ : ∃ d, s.up[j]? = some d := ⟨_, List.getElem?_eq_getElem (by rw [HP.out]; exact hlt)⟩
          obtain ⟨r, hr⟩ : ∃ r, us[j]? = some r := ⟨_, List.getElem?_eq_getElem (by rw [HU.out.1, HP.out]; exact hlt)⟩
          have hiu := HU.out.2.2 j r d hr hd
          obtain ⟨hsz, _, B, o, rfl, _, hli⟩ := (rows_belowK (by decide) HU.out.2.1 HBr.out) j r hr
          have hrng := lies_range hli
          have hi40 : (Tryz.prog.info? 67).map (·.size) = some r.toList.length := by rw [Array.length_toList]; exact info40s r hsz
          have KU : Hid (∀ W, Below wr.heap.size wr W → Calls Tryz.prog 29 #[.agg r] W (YesP W)) := fun W hb => rupdate_calls n r d W (hiu.map fun v t h => h.below (bel2 HBr.out hb)) (Rz.at HRU.out hd)
          have HW : Hid (wrap64 ((j : Int) + 1) = ((j + 1 : Nat) : Int)) := wr1 hlt (by have := HL2.out; omega)
          have hjn : (j : Int) < (p : Int) := by omega
          have HR : Hid (wr.rangeAt B (o + j * 12) r.toList ∧ wr.cell? ⟨w.heap.size, 24, none⟩ = some (.slice (some ⟨B, o, none⟩) p uc)) := ⟨hrng, z24⟩
          have s0' : wr.cell? ⟨B, o + j * 12, none⟩ = some (.string d.s) := hli 0 _ hiu.c0
          have HD : Hid (s.up[j]? = some d) := hd
          generalize hpm : p = m2 at *
          by_cases hj0 : 0 < j
          · obtain ⟨i, rfl, hwi⟩ := subj hj0 (by have := HL2.out; omega)
            obtain ⟨p', hp'⟩ : ∃ d, s.up[i]? = some d := ⟨_, List.getElem?_eq_getElem (by rw [HP.out]; omega)⟩
            obtain ⟨r', hr'⟩ : ∃ r, us[i]? = some r := ⟨_, List.getElem?_eq_getElem (by rw [HU.out.1, HP.out]; omega)⟩
            obtain ⟨_, _, B2, o2, e2, _, hl2⟩ := (rows_belowK (by decide) HU.out.2.1 HBr.out) i r' hr'
            cases e2
            have y0 : wr.cell? ⟨B, o + i * 12, none⟩ = some (.string p'.s) := hl2 0 _ (HU.out.2.2 i r' p' hr' hp').c0
            obtain ⟨k1, k2, k3⟩ := ge_no (Rz.next HRU.out hp' HD.out)
            have hd0 : decide ((0 : Int) < ((i + 1 : Nat) : Int)) = true := decide_eq_true (by omega)
            have hin : (i : Int) < (m2 : Int) := by omega
            have h0i : (0 : Int) ≤ (i : Int) + 1 := by omega
            have HW2 : Hid (wrap64 ((i : Int) + 1 + 1) = ((i + 1 + 1 : Nat) : Int)) := by show _ = _; have := HL2.out; unfold wrap64; omega
            generalize p' = pp at y0 k1 k2 k3 hp'
            have HX : Hid (∀ W, Below wr.heap.size wr W → W.cell? ⟨w.heap.size, 24, none⟩ = some (.slice (some ⟨B, o, none⟩) m2 uc) ∧ W.rangeAt B (o + (i + 1) * 12) r.toList ∧ W.cell? ⟨B, o + i * 12, none⟩ = some (.string pp.s) ∧ W.cell? ⟨B, o + (i + 1) * 12, none⟩ = some (.string d.s)) := fun W hb => ⟨cell_below HR.out.2 hb, fun i v hv => cellW (HR.out.1 i v hv) hb, cell_below y0 hb, cell_below s0' hb⟩
            clear hp' hr' hl2 hj0 hrng hli hiu hr hsz hd
            go_wp2_with fail
            refine wp_region_held_drew (S := (fun w' => w'.cell? ⟨w.heap.size, 24, none⟩ = some (.slice (some ⟨B, o, none⟩) m2 uc) ∧ w'.rangeAt B (o + (i + 1) * 12) r.toList ∧ w'.cell? ⟨B, o + i * 12, none⟩ = some (.string pp.s) ∧ w'.cell? ⟨B, o + (i + 1) * 12, none⟩ = some (.string d.s))) (by kernel_rfl) (HX.out wr.drew (Below.refl _ wr).drew) (fun hHeld => ?_)
            change wpAnyH _ _ _ _ _ _ _ _ (World.drew _)
            refine wpAnyH_take (i := 0) (oi := { dst := some 61, op := Go.Op.fieldAddr 37 (Go.Operand.tmp 1) 14, type := 0, pos := "ref.go:50", after := #[], guard := none }) (v := ?_) rfl (by kernel_rfl) (by kernel_rfl) (by kernel_rfl) (fun _ _ _ h => h) (Or.inl ⟨by rfl, ?_⟩) hHeld ?_
            rotate_left 1
            · (intro w hSw; (try dsimp only at hSw); go_simp <;> with_reducible rfl)
            simp only [Act.put, List.setIfInBounds_toArray, List.set_cons_zero, List.set_cons_succ]
            refine wpAnyH_take (i := 1) (oi := { dst := some 62, op := Go.Op.load 35 (Go.Operand.tmp 61), type := 35, pos := "ref.go:50", after := #[{ on := 0, ground := Go.Ground.data }], guard := none }) (v := ?_) rfl (by kernel_rfl) (by kernel_rfl) (by kernel_rfl) (fun _ _ _ h => h) (Or.inl ⟨by rfl, ?_⟩) hHeld ?_
            rotate_left 1
            · (intro w hSw; (try dsimp only at hSw); go_simp <;> with_reducible rfl)
            simp only [Act.put, List.setIfInBounds_toArray, List.set_cons_zero, List.set_cons_succ]
            refine wpAnyH_take (i := 2) (oi := { dst := some 63, op := Go.Op.move (Go.Operand.tmp 5), type := 3, pos := "ref.go:50", after := #[], guard := none }) (v := ?_) rfl (by kernel_rfl) (by kernel_rfl) (by kernel_rfl) (fun _ _ _ h => h) (Or.inl ⟨by rfl, ?_⟩) hHeld ?_
            rotate_left 1
            · (intro w hSw; (try dsimp only at hSw); go_simp <;> with_reducible rfl)
            simp only [Act.put, List.setIfInBounds_toArray, List.set_cons_zero, List.set_cons_succ]
            refine wpAnyH_take (i := 3) (oi := { dst := some 64, op := Go.Op.indexAddr 35 (Go.Operand.tmp 62) (Go.Operand.tmp 63), type := 0, pos := "ref.go:50", after := #[{ on := 1, ground := Go.Ground.data }, { on := 2, ground := Go.Ground.data }], guard := none }) (v := ?_) rfl (by kernel_rfl) (by kernel_rfl) (by kernel_rfl) (fun _ _ _ h => h) (Or.inl ⟨by rfl, ?_⟩) hHeld ?_
            rotate_left 1
            · (intro w hSw; (try dsimp only at hSw); go_simp <;> with_reducible rfl)
            simp only [Act.put, List.setIfInBounds_toArray, List.set_cons_zero, List.set_cons_succ]
            refine wpAnyH_take (i := 4) (oi := { dst := some 65, op := Go.Op.load 67 (Go.Operand.tmp 64), type := 67, pos := "ref.go:50", after := #[{ on := 3, ground := Go.Ground.data }], guard := none }) (v := _) rfl (by kernel_rfl) (by kernel_rfl) (by kernel_rfl) (fun _ _ _ h => h) (yieldsIf_load_mid rfl 67 _ rfl B (o + (i + 1) * 12) rfl r.toList _ (fun w h => h.2.1) Tryz.underlying67 rfl hi40) hHeld ?_
            simp only [Act.put, List.setIfInBounds_toArray, List.set_cons_zero, List.set_cons_succ]
            refine wpAnyH_ready (rs := [5]) (by kernel_rfl) (by simp) ?_
            refine AllReadyH.cons (o := { dst := some 66, op := Go.Op.call { callee := Go.Callee.value (Go.Operand.func 29), args := #[Go.Operand.tmp 65], argTypes := #[67] }, type := 4, pos := "ref.go:50", after := #[{ on := 4, ground := Go.Ground.data }], guard := none }) rfl (fun K hK => ?_) AllReadyH.nil
            go_simp
            refine (KU.out _ (Below.refl _ wr).drew).mono ?_
            rintro e w5 ⟨rfl, hb⟩
            have HB5' : Hid (Below wr.heap.size wr w5) := bel2 ((Below.refl _ wr).drew) hb
            clear hb
            refine hK.out _ _ (HX.out w5 HB5'.out) (fun hHeld => ?_)
            clear hK K
            refine wpAnyH_take (i := 6) (oi := { dst := some 67, op := Go.Op.unOp Go.UnOp.not 4 (Go.Operand.tmp 66), type := 4, pos := "ref.go:50", after := #[{ on := 5, ground := Go.Ground.data }], guard := none }) (v := ?_) rfl (by kernel_rfl) (by kernel_rfl) (by kernel_rfl) (fun _ _ _ h => h) (Or.inl ⟨by rfl, ?_⟩) hHeld ?_
            rotate_left 1
            · (intro w hSw; (try dsimp only at hSw); go_simp <;> with_reducible rfl)
            simp only [Act.put, List.setIfInBounds_toArray, List.set_cons_zero, List.set_cons_succ]
            refine wpAnyH_take (i := 7) (oi := { dst := some 68, op := Go.Op.move (Go.Operand.tmp 67), type := 4, pos := "ref.go:50", after := #[{ on := 6, ground := Go.Ground.data }, { on := 5, ground := Go.Ground.chain }], guard := none }) (v := ?_) rfl (by kernel_rfl) (by kernel_rfl) (by kernel_rfl) (fun _ _ _ h => h) (Or.inl ⟨by rfl, ?_⟩) hHeld ?_
            rotate_left 1
            · (intro w hSw; (try dsimp only at hSw); go_simp <;> with_reducible rfl)
            simp only [Act.put, List.setIfInBounds_toArray, List.set_cons_zero, List.set_cons_succ]
            refine wpAnyH_take (i := 8) (oi := { dst := some 69, op := Go.Op.move (Go.Operand.tmp 5), type := 3, pos := "ref.go:50", after := #[{ on := 7, ground := Go.Ground.guard }], guard := some (7, false) }) (v := ?_) rfl (by kernel_rfl) (by kernel_rfl) (by kernel_rfl) (fun _ _ _ h => h) (Or.inl ⟨by rfl, ?_⟩) hHeld ?_
            rotate_left 1
            · (intro w hSw; (try dsimp only at hSw); go_simp <;> with_reducible rfl)
            simp only [Act.put, List.setIfInBounds_toArray, List.set_cons_zero, List.set_cons_succ]
            refine wpAnyH_take (i := 9) (oi := { dst := some 70, op := Go.Op.binOp Go.BinOp.gtr 3 (Go.Operand.tmp 69) (Go.Operand.const (Go.Value.int Go.IntKind.i64 0)) 3, type := 4, pos := "ref.go:50", after := #[{ on := 8, ground := Go.Ground.data }, { on := 7, ground := Go.Ground.guard }], guard := some (7, false) }) (v := ?_) rfl (by kernel_rfl) (by kernel_rfl) (by kernel_rfl) (fun _ _ _ h => h) (Or.inl ⟨by rfl, ?_⟩) hHeld ?_
            rotate_left 1
            · (intro w hSw; (try dsimp only at hSw); go_simp <;> with_reducible rfl)
            simp only [Act.put, List.setIfInBounds_toArray, List.set_cons_zero, List.set_cons_succ]
            refine wpAnyH_take (i := 10) (oi := { dst := some 71, op := Go.Op.move (Go.Operand.tmp 70), type := 4, pos := "ref.go:50", after := #[{ on := 9, ground := Go.Ground.data }, { on := 7, ground := Go.Ground.chain }, { on := 7, ground := Go.Ground.guard }], guard := some (7, false) }) (v := ?_) rfl (by kernel_rfl) (by kernel_rfl) (by kernel_rfl) (fun _ _ _ h => h) (Or.inl ⟨by rfl, ?_⟩) hHeld ?_
            rotate_left 1
            · (intro w hSw; (try dsimp only at hSw); go_simp <;> with_reducible rfl)
            simp only [Act.put, List.setIfInBounds_toArray, List.set_cons_zero, List.set_cons_succ]
            refine wpAnyH_take (i := 11) (oi := { dst := some 72, op := Go.Op.fieldAddr 37 (Go.Operand.tmp 1) 14, type := 0, pos := "ref.go:50", after := #[{ on := 10, ground := Go.Ground.guard }], guard := some (10, true) }) (v := ?_) rfl (by kernel_rfl) (by kernel_rfl) (by kernel_rfl) (fun _ _ _ h => h) (Or.inl ⟨by rfl, ?_⟩) hHeld ?_
            rotate_left 1
            · (intro w hSw; (try dsimp only at hSw); go_simp <;> with_reducible rfl)
            simp only [Act.put, List.setIfInBounds_toArray, List.set_cons_zero, List.set_cons_succ]
            refine wpAnyH_take (i := 12) (oi := { dst := some 73, op := Go.Op.load 35 (Go.Operand.tmp 72), type := 35, pos := "ref.go:50", after := #[{ on := 11, ground := Go.Ground.data }, { on := 10, ground := Go.Ground.guard }], guard := some (10, true) }) (v := ?_) rfl (by kernel_rfl) (by kernel_rfl) (by kernel_rfl) (fun _ _ _ h => h) (Or.inl ⟨by rfl, ?_⟩) hHeld ?_
            rotate_left 1
            · (intro w hSw; (try dsimp only at hSw); go_simp <;> with_reducible rfl)
            simp only [Act.put, List.setIfInBounds_toArray, List.set_cons_zero, List.set_cons_succ]
            refine wpAnyH_take (i := 13) (oi := { dst := some 74, op := Go.Op.move (Go.Operand.tmp 5), type := 3, pos := "ref.go:50", after := #[{ on := 10, ground := Go.Ground.guard }], guard := some (10, true) }) (v := ?_) rfl (by kernel_rfl) (by kernel_rfl) (by kernel_rfl) (fun _ _ _ h => h) (Or.inl ⟨by rfl, ?_⟩) hHeld ?_
            rotate_left 1
            · (intro w hSw; (try dsimp only at hSw); go_simp <;> with_reducible rfl)
            simp only [Act.put, List.setIfInBounds_toArray, List.set_cons_zero, List.set_cons_succ]
            refine wpAnyH_take (i := 14) (oi := { dst := some 75, op := Go.Op.binOp Go.BinOp.sub 3 (Go.Operand.tmp 74) (Go.Operand.const (Go.Value.int Go.IntKind.i64 1)) 3, type := 3, pos := "ref.go:50", after := #[{ on := 13, ground := Go.Ground.data }, { on := 10, ground := Go.Ground.guard }], guard := some (10, true) }) (v := ?_) rfl (by kernel_rfl) (by kernel_rfl) (by kernel_rfl) (fun _ _ _ h => h) (Or.inl ⟨by rfl, ?_⟩) hHeld ?_
            rotate_left 1
            · (intro w hSw; (try dsimp only at hSw); go_simp <;> with_reducible rfl)
            simp only [Act.put, List.setIfInBounds_toArray, List.set_cons_zero, List.set_cons_succ]
            refine wpAnyH_take (i := 15) (oi := { dst := some 76, op := Go.Op.indexAddr 35 (Go.Operand.tmp 73) (Go.Operand.tmp 75), type := 0, pos := "ref.go:50", after := #[{ on := 12, ground := Go.Ground.data }, { on := 14, ground := Go.Ground.data }, { on := 10, ground := Go.Ground.guard }], guard := some (10, true) }) (v := ?_) rfl (by kernel_rfl) (by kernel_rfl) (by kernel_rfl) (fun _ _ _ h => h) (Or.inl ⟨by rfl, ?_⟩) hHeld ?_
            rotate_left 1
            · (intro w hSw; (try dsimp only at hSw); go_simp <;> with_reducible rfl)
            simp only [Act.put, List.setIfInBounds_toArray, List.set_cons_zero, List.set_cons_succ]
            refine wpAnyH_take (i := 16) (oi := { dst := some 77, op := Go.Op.fieldAddr 67 (Go.Operand.tmp 76) 0, type := 0, pos := "ref.go:50", after := #[{ on := 15, ground := Go.Ground.data }, { on := 10, ground := Go.Ground.guard }], guard := some (10, true) }) (v := ?_) rfl (by kernel_rfl) (by kernel_rfl) (by kernel_rfl) (fun _ _ _ h => h) (Or.inl ⟨by rfl, ?_⟩) hHeld ?_
            rotate_left 1
            · (intro w hSw; (try dsimp only at hSw); go_simp <;> with_reducible rfl)
            simp only [Act.put, List.setIfInBounds_toArray, List.set_cons_zero, List.set_cons_succ]
            refine wpAnyH_take (i := 17) (oi := { dst := some 78, op := Go.Op.load 9 (Go.Operand.tmp 77), type := 9, pos := "ref.go:50", after := #[{ on := 16, ground := Go.Ground.data }, { on := 10, ground := Go.Ground.guard }], guard := some (10, true) }) (v := ?_) rfl (by kernel_rfl) (by kernel_rfl) (by kernel_rfl) (fun _ _ _ h => h) (Or.inl ⟨by rfl, ?_⟩) hHeld ?_
            rotate_left 1
            · (intro w hSw; (try dsimp only at hSw); go_simp <;> with_reducible rfl)
            simp only [Act.put, List.setIfInBounds_toArray, List.set_cons_zero, List.set_cons_succ]
            refine wpAnyH_take (i := 18) (oi := { dst := some 79, op := Go.Op.fieldAddr 37 (Go.Operand.tmp 1) 14, type := 0, pos := "ref.go:50", after := #[{ on := 10, ground := Go.Ground.guard }], guard := some (10, true) }) (v := ?_) rfl (by kernel_rfl) (by kernel_rfl) (by kernel_rfl) (fun _ _ _ h => h) (Or.inl ⟨by rfl, ?_⟩) hHeld ?_
            rotate_left 1
            · (intro w hSw; (try dsimp only at hSw); go_simp <;> with_reducible rfl)
            simp only [Act.put, List.setIfInBounds_toArray, List.set_cons_zero, List.set_cons_succ]
            refine wpAnyH_take (i := 19) (oi := { dst := some 80, op := Go.Op.load 35 (Go.Operand.tmp 79), type := 35, pos := "ref.go:50", after := #[{ on := 18, ground := Go.Ground.data }, { on := 10, ground := Go.Ground.guard }], guard := some (10, true) }) (v := ?_) rfl (by kernel_rfl) (by kernel_rfl) (by kernel_rfl) (fun _ _ _ h => h) (Or.inl ⟨by rfl, ?_⟩) hHeld ?_
            rotate_left 1
            · (intro w hSw; (try dsimp only at hSw); go_simp <;> with_reducible rfl)
            simp only [Act.put, List.setIfInBounds_toArray, List.set_cons_zero, List.set_cons_succ]
            refine wpAnyH_take (i := 20) (oi := { dst := some 81, op := Go.Op.move (Go.Operand.tmp 5), type := 3, pos := "ref.go:50", after := #[{ on := 10, ground := Go.Ground.guard }], guard := some (10, true) }) (v := ?_) rfl (by kernel_rfl) (by kernel_rfl) (by kernel_rfl) (fun _ _ _ h => h) (Or.inl ⟨by rfl, ?_⟩) hHeld ?_
            rotate_left 1
            · (intro w hSw; (try dsimp only at hSw); go_simp <;> with_reducible rfl)
            simp only [Act.put, List.setIfInBounds_toArray, List.set_cons_zero, List.set_cons_succ]
            refine wpAnyH_take (i := 21) (oi := { dst := some 82, op := Go.Op.indexAddr 35 (Go.Operand.tmp 80) (Go.Operand.tmp 81), type := 0, pos := "ref.go:50", after := #[{ on := 19, ground := Go.Ground.data }, { on := 20, ground := Go.Ground.data }, { on := 10, ground := Go.Ground.guard }], guard := some (10, true) }) (v := ?_) rfl (by kernel_rfl) (by kernel_rfl) (by kernel_rfl) (fun _ _ _ h => h) (Or.inl ⟨by rfl, ?_⟩) hHeld ?_
            rotate_left 1
            · (intro w hSw; (try dsimp only at hSw); go_simp <;> with_reducible rfl)
            simp only [Act.put, List.setIfInBounds_toArray, List.set_cons_zero, List.set_cons_succ]
            refine wpAnyH_take (i := 22) (oi := { dst := some 83, op := Go.Op.fieldAddr 67 (Go.Operand.tmp 82) 0, type := 0, pos := "ref.go:50", after := #[{ on := 21, ground := Go.Ground.data }, { on := 10, ground := Go.Ground.guard }], guard := some (10, true) }) (v := ?_) rfl (by kernel_rfl) (by kernel_rfl) (by kernel_rfl) (fun _ _ _ h => h) (Or.inl ⟨by rfl, ?_⟩) hHeld ?_
            rotate_left 1
            · (intro w hSw; (try dsimp only at hSw); go_simp <;> with_reducible rfl)
            simp only [Act.put, List.setIfInBounds_toArray, List.set_cons_zero, List.set_cons_succ]
            refine wpAnyH_take (i := 23) (oi := { dst := some 84, op := Go.Op.load 9 (Go.Operand.tmp 83), type := 9, pos := "ref.go:50", after := #[{ on := 22, ground := Go.Ground.data }, { on := 10, ground := Go.Ground.guard }], guard := some (10, true) }) (v := ?_) rfl (by kernel_rfl) (by kernel_rfl) (by kernel_rfl) (fun _ _ _ h => h) (Or.inl ⟨by rfl, ?_⟩) hHeld ?_
            rotate_left 1
            · (intro w hSw; (try dsimp only at hSw); go_simp <;> with_reducible rfl)
            simp only [Act.put, List.setIfInBounds_toArray, List.set_cons_zero, List.set_cons_succ]
            refine wpAnyH_take (i := 24) (oi := { dst := some 85, op := Go.Op.binOp Go.BinOp.geq 9 (Go.Operand.tmp 78) (Go.Operand.tmp 84) 9, type := 4, pos := "ref.go:50", after := #[{ on := 17, ground := Go.Ground.data }, { on := 23, ground := Go.Ground.data }, { on := 10, ground := Go.Ground.guard }], guard := some (10, true) }) (v := ?_) rfl (by kernel_rfl) (by kernel_rfl) (by kernel_rfl) (fun _ _ _ h => h) (Or.inl ⟨by rfl, ?_⟩) hHeld ?_
            rotate_left 1
            · (intro w hSw; (try dsimp only at hSw); go_simp <;> with_reducible rfl)
            simp only [Act.put, List.setIfInBounds_toArray, List.set_cons_zero, List.set_cons_succ]
            refine wpAnyH_take (i := 25) (oi := { dst := some 86, op := Go.Op.pick (Go.Operand.tmp 71) (Go.Operand.tmp 85) (Go.Operand.const (Go.Value.bool false)), type := 4, pos := "ref.go:50", after := #[{ on := 10, ground := Go.Ground.data }, { on := 24, ground := Go.Ground.data }, { on := 7, ground := Go.Ground.guard }], guard := some (7, false) }) (v := ?_) rfl (by kernel_rfl) (by kernel_rfl) (by kernel_rfl) (fun _ _ _ h => h) (Or.inl ⟨by rfl, ?_⟩) hHeld ?_
            rotate_left 1
            · (intro w hSw; (try dsimp only at hSw); go_simp <;> with_reducible rfl)
            simp only [Act.put, List.setIfInBounds_toArray, List.set_cons_zero, List.set_cons_succ]
            refine wpAnyH_take (i := 26) (oi := { dst := some 87, op := Go.Op.pick (Go.Operand.tmp 68) (Go.Operand.const (Go.Value.bool true)) (Go.Operand.tmp 86), type := 4, pos := "ref.go:50", after := #[{ on := 7, ground := Go.Ground.data }, { on := 25, ground := Go.Ground.data }], guard := none }) (v := ?_) rfl (by kernel_rfl) (by kernel_rfl) (by kernel_rfl) (fun _ _ _ h => h) (Or.inl ⟨by rfl, ?_⟩) hHeld ?_
            rotate_left 1
            · (intro w hSw; (try dsimp only at hSw); go_simp <;> with_reducible rfl)
            simp only [Act.put, List.setIfInBounds_toArray, List.set_cons_zero, List.set_cons_succ]
            refine wpAnyH_done (by kernel_rfl) ?_ _
            go_wp2_with fail
            exact ⟨⟨i + 1 + 1, hlt, by first | rw [HW.out] | rw [HW2.out] | exact congrArg _ (Int.natCast_succ (i + 1)).symm, bel2 HB.out HB5'.out⟩, by first | exact meas hlt HW.out | exact meas hlt HW2.out | exact meas hlt (Int.natCast_succ (i + 1)).symm⟩
          · obtain rfl : j = 0 := by omega
            have HX : Hid (∀ W, Below wr.heap.size wr W → W.cell? ⟨w.heap.size, 24, none⟩ = some (.slice (some ⟨B, o, none⟩) m2 uc) ∧ W.rangeAt B (o + 0 * 12) r.toList) := fun W hb => ⟨cell_below HR.out.2 hb, fun i v hv => cellW (HR.out.1 i v hv) hb⟩
            clear hj0 hrng hli hiu hr hsz hd
            go_wp2_with fail
            refine wp_region_held_drew (S := (fun w' => w'.cell? ⟨w.heap.size, 24, none⟩ = some (.slice (some ⟨B, o, none⟩) m2 uc) ∧ w'.rangeAt B (o + 0 * 12) r.toList)) (by kernel_rfl) (HX.out wr.drew (Below.refl _ wr).drew) (fun hHeld => ?_)
            change wpAnyH _ _ _ _ _ _ _ _ (World.drew _)
            refine wpAnyH_take (i := 0) (oi := { dst := some 61, op := Go.Op.fieldAddr 37 (Go.Operand.tmp 1) 14, type := 0, pos := "ref.go:50", after := #[], guard := none }) (v := ?_) rfl (by kernel_rfl) (by kernel_rfl) (by kernel_rfl) (fun _ _ _ h => h) (Or.inl ⟨by rfl, ?_⟩) hHeld ?_
            rotate_left 1
            · (intro w hSw; (try dsimp only at hSw); go_simp <;> with_reducible rfl)
            simp only [Act.put, List.setIfInBounds_toArray, List.set_cons_zero, List.set_cons_succ]
            refine wpAnyH_take (i := 1) (oi := { dst := some 62, op := Go.Op.load 35 (Go.Operand.tmp 61), type := 35, pos := "ref.go:50", after := #[{ on := 0, ground := Go.Ground.data }], guard := none }) (v := ?_) rfl (by kernel_rfl) (by kernel_rfl) (by kernel_rfl) (fun _ _ _ h => h) (Or.inl ⟨by rfl, ?_⟩) hHeld ?_
            rotate_left 1
            · (intro w hSw; (try dsimp only at hSw); go_simp <;> with_reducible rfl)
            simp only [Act.put, List.setIfInBounds_toArray, List.set_cons_zero, List.set_cons_succ]
            refine wpAnyH_take (i := 2) (oi := { dst := some 63, op := Go.Op.move (Go.Operand.tmp 5), type := 3, pos := "ref.go:50", after := #[], guard := none }) (v := ?_) rfl (by kernel_rfl) (by kernel_rfl) (by kernel_rfl) (fun _ _ _ h => h) (Or.inl ⟨by rfl, ?_⟩) hHeld ?_
            rotate_left 1
            · (intro w hSw; (try dsimp only at hSw); go_simp <;> with_reducible rfl)
            simp only [Act.put, List.setIfInBounds_toArray, List.set_cons_zero, List.set_cons_succ]
            refine wpAnyH_take (i := 3) (oi := { dst := some 64, op := Go.Op.indexAddr 35 (Go.Operand.tmp 62) (Go.Operand.tmp 63), type := 0, pos := "ref.go:50", after := #[{ on := 1, ground := Go.Ground.data }, { on := 2, ground := Go.Ground.data }], guard := none }) (v := ?_) rfl (by kernel_rfl) (by kernel_rfl) (by kernel_rfl) (fun _ _ _ h => h) (Or.inl ⟨by rfl, ?_⟩) hHeld ?_
            rotate_left 1
            · (intro w hSw; (try dsimp only at hSw); go_simp <;> with_reducible rfl)
            simp only [Act.put, List.setIfInBounds_toArray, List.set_cons_zero, List.set_cons_succ]
            refine wpAnyH_take (i := 4) (oi := { dst := some 65, op := Go.Op.load 67 (Go.Operand.tmp 64), type := 67, pos := "ref.go:50", after := #[{ on := 3, ground := Go.Ground.data }], guard := none }) (v := _) rfl (by kernel_rfl) (by kernel_rfl) (by kernel_rfl) (fun _ _ _ h => h) (yieldsIf_load_mid rfl 67 _ rfl B (o + 0 * 12) rfl r.toList _ (fun w h => h.2) Tryz.underlying67 rfl hi40) hHeld ?_
            simp only [Act.put, List.setIfInBounds_toArray, List.set_cons_zero, List.set_cons_succ]
            refine wpAnyH_ready (rs := [5]) (by kernel_rfl) (by simp) ?_
            refine AllReadyH.cons (o := { dst := some 66, op := Go.Op.call { callee := Go.Callee.value (Go.Operand.func 29), args := #[Go.Operand.tmp 65], argTypes := #[67] }, type := 4, pos := "ref.go:50", after := #[{ on := 4, ground := Go.Ground.data }], guard := none }) rfl (fun K hK => ?_) AllReadyH.nil
            go_simp
            refine (KU.out _ (Below.refl _ wr).drew).mono ?_
            rintro e w5 ⟨rfl, hb⟩
            have HB5' : Hid (Below wr.heap.size wr w5) := bel2 ((Below.refl _ wr).drew) hb
            clear hb
            refine hK.out _ _ (HX.out w5 HB5'.out) (fun hHeld => ?_)
            clear hK K
            refine wpAnyH_take (i := 6) (oi := { dst := some 67, op := Go.Op.unOp Go.UnOp.not 4 (Go.Operand.tmp 66), type := 4, pos := "ref.go:50", after := #[{ on := 5, ground := Go.Ground.data }], guard := none }) (v := ?_) rfl (by kernel_rfl) (by kernel_rfl) (by kernel_rfl) (fun _ _ _ h => h) (Or.inl ⟨by rfl, ?_⟩) hHeld ?_
            rotate_left 1
            · (intro w hSw; (try dsimp only at hSw); go_simp <;> with_reducible rfl)
            simp only [Act.put, List.setIfInBounds_toArray, List.set_cons_zero, List.set_cons_succ]
            refine wpAnyH_take (i := 7) (oi := { dst := some 68, op := Go.Op.move (Go.Operand.tmp 67), type := 4, pos := "ref.go:50", after := #[{ on := 6, ground := Go.Ground.data }, { on := 5, ground := Go.Ground.chain }], guard := none }) (v := ?_) rfl (by kernel_rfl) (by kernel_rfl) (by kernel_rfl) (fun _ _ _ h => h) (Or.inl ⟨by rfl, ?_⟩) hHeld ?_
            rotate_left 1
            · (intro w hSw; (try dsimp only at hSw); go_simp <;> with_reducible rfl)
            simp only [Act.put, List.setIfInBounds_toArray, List.set_cons_zero, List.set_cons_succ]
            refine wpAnyH_take (i := 8) (oi := { dst := some 69, op := Go.Op.move (Go.Operand.tmp 5), type := 3, pos := "ref.go:50", after := #[{ on := 7, ground := Go.Ground.guard }], guard := some (7, false) }) (v := ?_) rfl (by kernel_rfl) (by kernel_rfl) (by kernel_rfl) (fun _ _ _ h => h) (Or.inl ⟨by rfl, ?_⟩) hHeld ?_
            rotate_left 1
            · (intro w hSw; (try dsimp only at hSw); go_simp <;> with_reducible rfl)
            simp only [Act.put, List.setIfInBounds_toArray, List.set_cons_zero, List.set_cons_succ]
            refine wpAnyH_take (i := 9) (oi := { dst := some 70, op := Go.Op.binOp Go.BinOp.gtr 3 (Go.Operand.tmp 69) (Go.Operand.const (Go.Value.int Go.IntKind.i64 0)) 3, type := 4, pos := "ref.go:50", after := #[{ on := 8, ground := Go.Ground.data }, { on := 7, ground := Go.Ground.guard }], guard := some (7, false) }) (v := ?_) rfl (by kernel_rfl) (by kernel_rfl) (by kernel_rfl) (fun _ _ _ h => h) (Or.inl ⟨by rfl, ?_⟩) hHeld ?_
            rotate_left 1
            · (intro w hSw; (try dsimp only at hSw); go_simp <;> with_reducible rfl)
            simp only [Act.put, List.setIfInBounds_toArray, List.set_cons_zero, List.set_cons_succ]
            refine wpAnyH_take (i := 10) (oi := { dst := some 71, op := Go.Op.move (Go.Operand.tmp 70), type := 4, pos := "ref.go:50", after := #[{ on := 9, ground := Go.Ground.data }, { on := 7, ground := Go.Ground.chain }, { on := 7, ground := Go.Ground.guard }], guard := some (7, false) }) (v := ?_) rfl (by kernel_rfl) (by kernel_rfl) (by kernel_rfl) (fun _ _ _ h => h) (Or.inl ⟨by rfl, ?_⟩) hHeld ?_
            rotate_left 1
            · (intro w hSw; (try dsimp only at hSw); go_simp <;> with_reducible rfl)
            simp only [Act.put, List.setIfInBounds_toArray, List.set_cons_zero, List.set_cons_succ]
            refine wpAnyH_take (i := 11) (oi := { dst := some 72, op := Go.Op.fieldAddr 37 (Go.Operand.tmp 1) 14, type := 0, pos := "ref.go:50", after := #[{ on := 10, ground := Go.Ground.guard }], guard := some (10, true) }) (v := undef) rfl (by kernel_rfl) (by kernel_rfl) (by kernel_rfl) (fun _ _ _ h => h) (Or.inr ⟨by rfl, rfl⟩) hHeld ?_
            simp only [Act.put, List.setIfInBounds_toArray, List.set_cons_zero, List.set_cons_succ]
            refine wpAnyH_take (i := 12) (oi := { dst := some 73, op := Go.Op.load 35 (Go.Operand.tmp 72), type := 35, pos := "ref.go:50", after := #[{ on := 11, ground := Go.Ground.data }, { on := 10, ground := Go.Ground.guard }], guard := some (10, true) }) (v := undef) rfl (by kernel_rfl) (by kernel_rfl) (by kernel_rfl) (fun _ _ _ h => h) (Or.inr ⟨by rfl, rfl⟩) hHeld ?_
            simp only [Act.put, List.setIfInBounds_toArray, List.set_cons_zero, List.set_cons_succ]
            refine wpAnyH_take (i := 13) (oi := { dst := some 74, op := Go.Op.move (Go.Operand.tmp 5), type := 3, pos := "ref.go:50", after := #[{ on := 10, ground := Go.Ground.guard }], guard := some (10, true) }) (v := undef) rfl (by kernel_rfl) (by kernel_rfl) (by kernel_rfl) (fun _ _ _ h => h) (Or.inr ⟨by rfl, rfl⟩) hHeld ?_
            simp only [Act.put, List.setIfInBounds_toArray, List.set_cons_zero, List.set_cons_succ]
            refine wpAnyH_take (i := 14) (oi := { dst := some 75, op := Go.Op.binOp Go.BinOp.sub 3 (Go.Operand.tmp 74) (Go.Operand.const (Go.Value.int Go.IntKind.i64 1)) 3, type := 3, pos := "ref.go:50", after := #[{ on := 13, ground := Go.Ground.data }, { on := 10, ground := Go.Ground.guard }], guard := some (10, true) }) (v := undef) rfl (by kernel_rfl) (by kernel_rfl) (by kernel_rfl) (fun _ _ _ h => h) (Or.inr ⟨by rfl, rfl⟩) hHeld ?_
            simp only [Act.put, List.setIfInBounds_toArray, List.set_cons_zero, List.set_cons_succ]
            refine wpAnyH_take (i := 15) (oi := { dst := some 76, op := Go.Op.indexAddr 35 (Go.Operand.tmp 73) (Go.Operand.tmp 75), type := 0, pos := "ref.go:50", after := #[{ on := 12, ground := Go.Ground.data }, { on := 14, ground := Go.Ground.data }, { on := 10, ground := Go.Ground.guard }], guard := some (10, true) }) (v := undef) rfl (by kernel_rfl) (by kernel_rfl) (by kernel_rfl) (fun _ _ _ h => h) (Or.inr ⟨by rfl, rfl⟩) hHeld ?_
            simp only [Act.put, List.setIfInBounds_toArray, List.set_cons_zero, List.set_cons_succ]
            refine wpAnyH_take (i := 16) (oi := { dst := some 77, op := Go.Op.fieldAddr 67 (Go.Operand.tmp 76) 0, type := 0, pos := "ref.go:50", after := #[{ on := 15, ground := Go.Ground.data }, { on := 10, ground := Go.Ground.guard }], guard := some (10, true) }) (v := undef) rfl (by kernel_rfl) (by kernel_rfl) (by kernel_rfl) (fun _ _ _ h => h) (Or.inr ⟨by rfl, rfl⟩) hHeld ?_
            simp only [Act.put, List.setIfInBounds_toArray, List.set_cons_zero, List.set_cons_succ]
            refine wpAnyH_take (i := 17) (oi := { dst := some 78, op := Go.Op.load 9 (Go.Operand.tmp 77), type := 9, pos := "ref.go:50", after := #[{ on := 16, ground := Go.Ground.data }, { on := 10, ground := Go.Ground.guard }], guard := some (10, true) }) (v := undef) rfl (by kernel_rfl) (by kernel_rfl) (by kernel_rfl) (fun _ _ _ h => h) (Or.inr ⟨by rfl, rfl⟩) hHeld ?_
            simp only [Act.put, List.setIfInBounds_toArray, List.set_cons_zero, List.set_cons_succ]
            refine wpAnyH_take (i := 18) (oi := { dst := some 79, op := Go.Op.fieldAddr 37 (Go.Operand.tmp 1) 14, type := 0, pos := "ref.go:50", after := #[{ on := 10, ground := Go.Ground.guard }], guard := some (10, true) }) (v := undef) rfl (by kernel_rfl) (by kernel_rfl) (by kernel_rfl) (fun _ _ _ h => h) (Or.inr ⟨by rfl, rfl⟩) hHeld ?_
            simp only [Act.put, List.setIfInBounds_toArray, List.set_cons_zero, List.set_cons_succ]
            refine wpAnyH_take (i := 19) (oi := { dst := some 80, op := Go.Op.load 35 (Go.Operand.tmp 79), type := 35, pos := "ref.go:50", after := #[{ on := 18, ground := Go.Ground.data }, { on := 10, ground := Go.Ground.guard }], guard := some (10, true) }) (v := undef) rfl (by kernel_rfl) (by kernel_rfl) (by kernel_rfl) (fun _ _ _ h => h) (Or.inr ⟨by rfl, rfl⟩) hHeld ?_
            simp only [Act.put, List.setIfInBounds_toArray, List.set_cons_zero, List.set_cons_succ]
            refine wpAnyH_take (i := 20) (oi := { dst := some 81, op := Go.Op.move (Go.Operand.tmp 5), type := 3, pos := "ref.go:50", after := #[{ on := 10, ground := Go.Ground.guard }], guard := some (10, true) }) (v := undef) rfl (by kernel_rfl) (by kernel_rfl) (by kernel_rfl) (fun _ _ _ h => h) (Or.inr ⟨by rfl, rfl⟩) hHeld ?_
            simp only [Act.put, List.setIfInBounds_toArray, List.set_cons_zero, List.set_cons_succ]
            refine wpAnyH_take (i := 21) (oi := { dst := some 82, op := Go.Op.indexAddr 35 (Go.Operand.tmp 80) (Go.Operand.tmp 81), type := 0, pos := "ref.go:50", after := #[{ on := 19, ground := Go.Ground.data }, { on := 20, ground := Go.Ground.data }, { on := 10, ground := Go.Ground.guard }], guard := some (10, true) }) (v := undef) rfl (by kernel_rfl) (by kernel_rfl) (by kernel_rfl) (fun _ _ _ h => h) (Or.inr ⟨by rfl, rfl⟩) hHeld ?_
            simp only [Act.put, List.setIfInBounds_toArray, List.set_cons_zero, List.set_cons_succ]
            refine wpAnyH_take (i := 22) (oi := { dst := some 83, op := Go.Op.fieldAddr 67 (Go.Operand.tmp 82) 0, type := 0, pos := "ref.go:50", after := #[{ on := 21, ground := Go.Ground.data }, { on := 10, ground := Go.Ground.guard }], guard := some (10, true) }) (v := undef) rfl (by kernel_rfl) (by kernel_rfl) (by kernel_rfl) (fun _ _ _ h => h) (Or.inr ⟨by rfl, rfl⟩) hHeld ?_
            simp only [Act.put, List.setIfInBounds_toArray, List.set_cons_zero, List.set_cons_succ]
            refine wpAnyH_take (i := 23) (oi := { dst := some 84, op := Go.Op.load 9 (Go.Operand.tmp 83), type := 9, pos := "ref.go:50", after := #[{ on := 22, ground := Go.Ground.data }, { on := 10, ground := Go.Ground.guard }], guard := some (10, true) }) (v := undef) rfl (by kernel_rfl) (by kernel_rfl) (by kernel_rfl) (fun _ _ _ h => h) (Or.inr ⟨by rfl, rfl⟩) hHeld ?_
            simp only [Act.put, List.setIfInBounds_toArray, List.set_cons_zero, List.set_cons_succ]
            refine wpAnyH_take (i := 24) (oi := { dst := some 85, op := Go.Op.binOp Go.BinOp.geq 9 (Go.Operand.tmp 78) (Go.Operand.tmp 84) 9, type := 4, pos := "ref.go:50", after := #[{ on := 17, ground := Go.Ground.data }, { on := 23, ground := Go.Ground.data }, { on := 10, ground := Go.Ground.guard }], guard := some (10, true) }) (v := undef) rfl (by kernel_rfl) (by kernel_rfl) (by kernel_rfl) (fun _ _ _ h => h) (Or.inr ⟨by rfl, rfl⟩) hHeld ?_
            simp only [Act.put, List.setIfInBounds_toArray, List.set_cons_zero, List.set_cons_succ]
            refine wpAnyH_take (i := 25) (oi := { dst := some 86, op := Go.Op.pick (Go.Operand.tmp 71) (Go.Operand.tmp 85) (Go.Operand.const (Go.Value.bool false)), type := 4, pos := "ref.go:50", after := #[{ on := 10, ground := Go.Ground.data }, { on := 24, ground := Go.Ground.data }, { on := 7, ground := Go.Ground.guard }], guard := some (7, false) }) (v := ?_) rfl (by kernel_rfl) (by kernel_rfl) (by kernel_rfl) (fun _ _ _ h => h) (Or.inl ⟨by rfl, ?_⟩) hHeld ?_
            rotate_left 1
            · (intro w hSw; (try dsimp only at hSw); go_simp <;> with_reducible rfl)
            simp only [Act.put, List.setIfInBounds_toArray, List.set_cons_zero, List.set_cons_succ]
            refine wpAnyH_take (i := 26) (oi := { dst := some 87, op := Go.Op.pick (Go.Operand.tmp 68) (Go.Operand.const (Go.Value.bool true)) (Go.Operand.tmp 86), type := 4, pos := "ref.go:50", after := #[{ on := 7, ground := Go.Ground.data }, { on := 25, ground := Go.Ground.data }], guard := none }) (v := ?_) rfl (by kernel_rfl) (by kernel_rfl) (by kernel_rfl) (fun _ _ _ h => h) (Or.inl ⟨by rfl, ?_⟩) hHeld ?_
            rotate_left 1
            · (intro w hSw; (try dsimp only at hSw); go_simp <;> with_reducible rfl)
            simp only [Act.put, List.setIfInBounds_toArray, List.set_cons_zero, List.set_cons_succ]
            refine wpAnyH_done (by kernel_rfl) ?_ _
            go_wp2_with fail
            exact ⟨⟨0 + 1, hlt, by first | rw [HW.out] | rfl, bel2 HB.out HB5'.out⟩, by first | exact meas hlt HW.out | exact meas hlt rfl⟩
        · obtain rfl : j = p := by omega
          have hjn : decide ((j : Int) < (j : Int)) = false := decide_eq_false (by omega)
          go_wp2_with fail
          go_ret
          exact ⟨rfl, HBr.out⟩
end Go.Proofs.YtakaglfeeipeiaaGreat
namespace Go.Proofs.YtakaglfeeipeiaaGreat
open Go.ChangeShapes Go.WideShapes Go.ChangeAt Go.RowKit
theorem chg_run (s : Sta) (x : Ev) : (chg s x).run = s.run := by
  simp only [chg, apply_ite Sta.run, ch1, ch2, ch3, ch4, ch5, ch7, ch8, ch9, ch10, ch11, ch12, ch13, ch14, ch15, ch16, ch17, ch18, ch19, ite_self]
theorem chg_ct (s : Sta) (x : Ev) : (chg s x).count = wrap64 (s.count + 1) ∧ (chg s x).time = x.t := by
  constructor
  · simp only [chg, apply_ite Sta.count, ch1, ch2, ch3, ch4, ch5, ch7, ch8, ch9, ch10, ch11, ch12, ch13, ch14, ch15, ch16, ch17, ch18, ch19, ite_self]
  · simp only [chg, apply_ite Sta.time, ch1, ch2, ch3, ch4, ch5, ch7, ch8, ch9, ch10, ch11, ch12, ch13, ch14, ch15, ch16, ch17, ch18, ch19, ite_self]
/-- What a run of events behind s tells. -/
structure Rn (n : Nat) (l : List Ev) (s s' : Sta) : Prop where
  can : CanP n s'
  run : s'.run = s.run
  count : s'.count = s.count + (l.length : Int)
  may : ∀ e ∈ l, MayE n e
  first : ∀ e, l[0]? = some e → s.time ≤ e.t
  next : ∀ (i : Nat) e f, l[i]? = some e → l[i + 1]? = some f → e.t ≤ f.t
theorem step_one {n : Nat} {s s1 : Sta} {x : Ev} (h : StR n s x s1 0) : MayE n x ∧ refC s x = 0 ∧ s1 = chg s x := by
  obtain ⟨h1, h2, h3⟩ := h
  have hm : MayE n x := by
    by_cases hm : MayE n x
    · exact hm
    · exact absurd (h2 hm) (by decide)
  exact ⟨hm, (h1 hm).symm, by rw [h3, if_pos rfl]⟩
theorem rn_of {n : Nat} : ∀ {l : List Ev} {s s' : Sta}, CanP n s → RunR n l s s' → Rn n l s s'
  | [], s, s', hc, h => by
    cases h
    exact ⟨hc, rfl, (by simp), fun e he => (by cases he), fun e he => (by simp at he), fun i e f he => (by simp at he)⟩
  | x :: l, s, s', hc, h => by
    obtain ⟨s1, h1, h2⟩ := h
    obtain ⟨hm, hr, rfl⟩ := step_one h1
    obtain ⟨_, _, hcnt, _, htm⟩ := refC_fits hr
    have hn := (numB_iff s).1 hc.num
    have R := rn_of (can_stays hc hm hr) h2
    have e1 : (chg s x).count = s.count + 1 := (chg_ct s x).1.trans (wr_add (by omega) (by omega))
    refine ⟨R.can, R.run.trans (chg_run s x), by rw [R.count, e1]; simp; omega, fun e he => ?_, fun e he => ?_, fun i e f he hf => ?_⟩
    · rcases List.mem_cons.1 he with rfl | he
      · exact hm
      · exact R.may e he
    · simp at he
      subst he
      exact htm
    · cases i with
      | zero =>
        simp only [List.getElem?_cons_zero, Option.some.injEq] at he
        subst he
        have := R.first f (by simpa using hf)
        rw [(chg_ct s x).2] at this
        exact this
      | succ i => exact R.next i e f (by simpa using he) (by simpa using hf)
theorem rn_all {n : Nat} {r : Int} (h1 : 1 ≤ r) (h2 : r ≤ 10) {l : List Ev} {s' : Sta} (hl : 0 < l.length) (h : RunR n l (s0 r) s') : CanP n s' ∧ s'.run = r ∧ s'.count = (l.length : Int) ∧ (∀ e ∈ l, MayE n e) ∧ (∀ (i : Nat) e f, l[i]? = some e → l[i + 1]? = some f → e.t ≤ f.t) := by
  cases l with
  | nil => cases hl
  | cons x l =>
    obtain ⟨s1, g1, g2⟩ := h
    obtain ⟨hm, hr, rfl⟩ := step_one g1
    have hc : CanP n (chg (s0 r) x) := can_begins h1 h2 hm hr
    have R := rn_of hc g2
    have e1 : (chg (s0 r) x).count = 1 := (chg_ct _ x).1.trans (wr_add (by show (0 : Int) ≤ 0; decide) (by show (0 : Int) ≤ 1000; decide))
    refine ⟨R.can, R.run.trans (chg_run _ x), by rw [R.count, e1]; simp; omega, fun e he => ?_, fun i e f he hf => ?_⟩
    · rcases List.mem_cons.1 he with rfl | he
      · exact hm
      · exact R.may e he
    · cases i with
      | zero =>
        simp only [List.getElem?_cons_zero, Option.some.injEq] at he
        subst he
        have := R.first f (by simpa using hf)
        rw [(chg_ct _ x).2] at this
        exact this
      | succ i => exact R.next i e f (by simpa using he) (by simpa using hf)
theorem evcheck_yes (n : Nat) (es : Array Value) (x : Ev) (w : World) (he : IsEv (Is w (n + 1)) es x) (hm : MayE (n + 1) x) : Calls Tryz.prog 20 #[.agg es] w fun e w' => e = .returned (.int .i64 0) ∧ Below w.heap.size w w' := by
  obtain ⟨vk, vx, vb, vs, la, ll, lc, rfl, hv⟩ := he.lit
  refine (evrefcheck_calls n x.v x.k x.t x.n x.d x.s vk vx vb vs la ll lc x.f x.c x.m w hv).mono ?_
  rintro e w' ⟨r, rfl, h1, _, hb⟩
  rw [h1 hm]
  exact ⟨rfl, hb⟩
/-- The events of a history, read. -/
def Hr (w : World) (n : Nat) (a : Option Addr) (l : List Ev) : Prop := ∃ rows : List (Array Value), rows.length = l.length ∧ RowS (fun _ => True) w a 13 rows ∧ ∀ (i : Nat) r e, rows[i]? = some r → l[i]? = some e → IsEv (Is w n) r e
theorem IsL.hr {lo : Nat} {w : World} {n : Nat} {a : Option Addr} {l : List Ev} (h : IsL lo w n a l) : Hr w n a l := by
  obtain ⟨rows, h1, h2, h3⟩ := h
  exact ⟨rows, h1, h2.map (fun _ _ _ => trivial) (fun _ _ _ hv => hv) (by decide), fun i r e hr he => (h3 i r e hr he).map fun v t hv => hv.is⟩
theorem Hr.below {w w' : World} {n : Nat} {a : Option Addr} {l : List Ev} (h : Hr w n a l) (hb : Below w.heap.size w w') : Hr w' n a l := by
  obtain ⟨rows, h1, h2, h3⟩ := h
  exact ⟨rows, h1, rows_belowK (by decide) h2 hb, fun i r e hr he => (h3 i r e hr he).map fun v t h => h.below hb⟩
theorem Hr.at {w : World} {n j : Nat} {a : Option Addr} {l : List Ev} {d : Ev} (h : Hr w n a l) (hd : l[j]? = some d) : ∃ r B o, a = some ⟨B, o, none⟩ ∧ w.rangeAt B (o + j * 13) r.toList ∧ r.size = 13 ∧ IsEv (Is w n) r d ∧ w.cell? ⟨B, o + j * 13 + 1, none⟩ = some (.int .i64 d.t) := by
  obtain ⟨rows, h1, h2, h3⟩ := h
  have hj := (List.getElem?_eq_some_iff.1 hd).1
  obtain ⟨r, hr⟩ : ∃ r, rows[j]? = some r := ⟨_, List.getElem?_eq_getElem (by rw [h1]; exact hj)⟩
  obtain ⟨hsz, _, B, o, e, _, hl⟩ := h2 j r hr
  have hi := h3 j r d hr hd
  exact ⟨r, B, o, e, lies_range hl, hsz, hi, hl 1 _ hi.c1⟩
set_option maxHeartbeats 8000000 in
set_option maxRecDepth 100000 in
theorem rcheckH_calls (n : Nat) (l : List Ev) (a : Option Addr) (m c : Nat) (hm : l.length = m) (hl : m ≤ 120) (w : World) (h : Hr w (n + 1) a l) (hy : ∀ e ∈ l, MayE (n + 1) e) (ht : ∀ (i : Nat) e f, l[i]? = some e → l[i + 1]? = some f → e.t ≤ f.t) : Calls Tryz.prog 9 #[.slice a m c] w fun e w' => e = .returned (.int .i64 0) ∧ Below w.heap.size w w' := by
  have HH : Hid (Hr w (n + 1) a l) := h
  have HM : Hid (l.length = m) := hm
  have HL : Hid (m ≤ 120) := hl
  have HY : Hid ((∀ e ∈ l, MayE (n + 1) e) ∧ ∀ (i : Nat) e f, l[i]? = some e → l[i + 1]? = some f → e.t ≤ f.t) := ⟨hy, ht⟩
  have d1 : decide ((120 : Int) < (m : Int)) = false := decide_eq_false (by omega)
  have d2 : decide (120 < m) = false := decide_eq_false (by omega)
  clear h hm hl hy ht
  go_enter Tryz.func9, Tryz.ntmps9
  go_wp2_with fail
  clear d1 d2
  go_loopw [3] (fun i wr => ∃ j : Nat, j ≤ m ∧ i = .int .i64 (j : Int) ∧ Hid (Below w.heap.size w wr)) (fun i _ => m - (intOf i).toNat)
  case atStart => exact ⟨0, Nat.zero_le _, rfl, Below.refl _ _⟩
  case round =>
    obtain ⟨j, hj, rfl, HB⟩ := hrel
    by_cases hlt : j < m
    · obtain ⟨d, hd⟩ : ∃ d, l[j]? = some d := ⟨_, List.getElem?_eq_getElem (by rw [HM.out]; exact hlt)⟩
      obtain ⟨r, B, o, rfl, hrng, hsz, hiu, s1'⟩ := (HH.out.below HB.out).at hd
      have hi44 : (Tryz.prog.info? 44).map (·.size) = some r.toList.length := by rw [Array.length_toList]; exact info46s r hsz
      have KU : Hid (∀ W, Below wr.heap.size wr W → Calls Tryz.prog 20 #[.agg r] W fun e w' => e = .returned (.int .i64 0) ∧ Below W.heap.size W w') := fun W hb => evcheck_yes n r d W (hiu.map fun v t h => h.below hb) (HY.out.1 d (List.mem_of_getElem? hd))
      have HW : Hid (wrap64 ((j : Int) + 1) = ((j + 1 : Nat) : Int)) := wr1 hlt (by have := HL.out; omega)
      have hjn : (j : Int) < (m : Int) := by omega
      have HR : Hid (wr.rangeAt B (o + j * 13) r.toList ∧ wr.cell? ⟨B, o + j * 13 + 1, none⟩ = some (.int .i64 d.t)) := ⟨hrng, s1'⟩
      by_cases hj0 : 0 < j
      · obtain ⟨i, rfl, hwi⟩ := subj hj0 (by have := HL.out; omega)
        obtain ⟨pp, hp'⟩ : ∃ d, l[i]? = some d := ⟨_, List.getElem?_eq_getElem (by rw [HM.out]; omega)⟩
        obtain ⟨_, B2, o2, e2, _, _, _, y1⟩ := (HH.out.below HB.out).at hp'
        cases e2
        have htt : decide (d.t < pp.t) = false := decide_eq_false (by have := HY.out.2 i pp d hp' hd; omega)
        have hd0 : decide ((0 : Int) < ((i + 1 : Nat) : Int)) = true := decide_eq_true (by omega)
        have hin : (i : Int) < (m : Int) := by omega
        have h0i : (0 : Int) ≤ (i : Int) + 1 := by omega
        have HW2 : Hid (wrap64 ((i : Int) + 1 + 1) = ((i + 1 + 1 : Nat) : Int)) := by show _ = _; have := HL.out; unfold wrap64; omega
        have HX : Hid (∀ W, Below wr.heap.size wr W → W.rangeAt B (o + (i + 1) * 13) r.toList ∧ W.cell? ⟨B, o + (i + 1) * 13 + 1, none⟩ = some (.int .i64 d.t) ∧ W.cell? ⟨B, o + i * 13 + 1, none⟩ = some (.int .i64 pp.t)) := fun W hb => ⟨fun i v hv => cellW (HR.out.1 i v hv) hb, cell_below HR.out.2 hb, cell_below y1 hb⟩
        clear hp' hj0 hrng hiu hsz hd s1' y1
        go_wp2_with fail
        refine wp_region_held_drew (S := (fun w' => w'.rangeAt B (o + (i + 1) * 13) r.toList ∧ w'.cell? ⟨B, o + (i + 1) * 13 + 1, none⟩ = some (.int .i64 d.t) ∧ w'.cell? ⟨B, o + i * 13 + 1, none⟩ = some (.int .i64 pp.t))) (by kernel_rfl) (HX.out wr.drew (Below.refl _ wr).drew) (fun hHeld => ?_)
        change wpAnyH _ _ _ _ _ _ _ _ (World.drew _)
        refine wpAnyH_take (i := 0) (oi := { dst := some 13, op := Go.Op.move (Go.Operand.tmp 0), type := 22, pos := "ref.go:15", after := #[], guard := none }) (v := ?_) rfl (by kernel_rfl) (by kernel_rfl) (by kernel_rfl) (fun _ _ _ h => h) (Or.inl ⟨by rfl, ?_⟩) hHeld ?_
        rotate_left 1
        · (intro w hSw; (try dsimp only at hSw); go_simp <;> with_reducible rfl)
        simp only [Act.put, List.setIfInBounds_toArray, List.set_cons_zero, List.set_cons_succ]
        refine wpAnyH_take (i := 1) (oi := { dst := some 14, op := Go.Op.move (Go.Operand.tmp 3), type := 3, pos := "ref.go:15", after := #[], guard := none }) (v := ?_) rfl (by kernel_rfl) (by kernel_rfl) (by kernel_rfl) (fun _ _ _ h => h) (Or.inl ⟨by rfl, ?_⟩) hHeld ?_
        rotate_left 1
        · (intro w hSw; (try dsimp only at hSw); go_simp <;> with_reducible rfl)
        simp only [Act.put, List.setIfInBounds_toArray, List.set_cons_zero, List.set_cons_succ]
        refine wpAnyH_take (i := 2) (oi := { dst := some 15, op := Go.Op.indexAddr 22 (Go.Operand.tmp 13) (Go.Operand.tmp 14), type := 0, pos := "ref.go:15", after := #[{ on := 0, ground := Go.Ground.data }, { on := 1, ground := Go.Ground.data }], guard := none }) (v := ?_) rfl (by kernel_rfl) (by kernel_rfl) (by kernel_rfl) (fun _ _ _ h => h) (Or.inl ⟨by rfl, ?_⟩) hHeld ?_
        rotate_left 1
        · (intro w hSw; (try dsimp only at hSw); go_simp <;> with_reducible rfl)
        simp only [Act.put, List.setIfInBounds_toArray, List.set_cons_zero, List.set_cons_succ]
        refine wpAnyH_take (i := 3) (oi := { dst := some 16, op := Go.Op.load 44 (Go.Operand.tmp 15), type := 44, pos := "ref.go:15", after := #[{ on := 2, ground := Go.Ground.data }], guard := none }) (v := _) rfl (by kernel_rfl) (by kernel_rfl) (by kernel_rfl) (fun _ _ _ h => h) (yieldsIf_load_mid rfl 44 _ rfl B (o + (i + 1) * 13) rfl r.toList _ (fun w h => h.1) Tryz.underlying44 rfl hi44) hHeld ?_
        simp only [Act.put, List.setIfInBounds_toArray, List.set_cons_zero, List.set_cons_succ]
        refine wpAnyH_ready (rs := [4]) (by kernel_rfl) (by simp) ?_
        refine AllReadyH.cons (o := { dst := some 17, op := Go.Op.call { callee := Go.Callee.value (Go.Operand.func 20), args := #[Go.Operand.tmp 16], argTypes := #[44] }, type := 38, pos := "ref.go:15", after := #[{ on := 3, ground := Go.Ground.data }], guard := none }) rfl (fun K hK => ?_) AllReadyH.nil
        go_simp
        refine (KU.out _ (Below.refl _ wr).drew).mono ?_
        rintro e w5 ⟨rfl, hb⟩
        have HB5 : Hid (Below wr.heap.size wr w5) := bel2 ((Below.refl _ wr).drew) hb
        clear hb
        refine hK.out _ _ (HX.out w5 HB5.out) (fun hHeld => ?_)
        clear hK K
        refine wpAnyH_take (i := 5) (oi := { dst := some 18, op := Go.Op.binOp Go.BinOp.neq 38 (Go.Operand.tmp 17) (Go.Operand.const (Go.Value.int Go.IntKind.i64 0)) 38, type := 4, pos := "ref.go:15", after := #[{ on := 4, ground := Go.Ground.data }], guard := none }) (v := ?_) rfl (by kernel_rfl) (by kernel_rfl) (by kernel_rfl) (fun _ _ _ h => h) (Or.inl ⟨by rfl, ?_⟩) hHeld ?_
        rotate_left 1
        · (intro w hSw; (try dsimp only at hSw); go_simp <;> with_reducible rfl)
        simp only [Act.put, List.setIfInBounds_toArray, List.set_cons_zero, List.set_cons_succ]
        refine wpAnyH_take (i := 6) (oi := { dst := some 19, op := Go.Op.move (Go.Operand.tmp 18), type := 4, pos := "ref.go:15", after := #[{ on := 5, ground := Go.Ground.data }, { on := 4, ground := Go.Ground.chain }], guard := none }) (v := ?_) rfl (by kernel_rfl) (by kernel_rfl) (by kernel_rfl) (fun _ _ _ h => h) (Or.inl ⟨by rfl, ?_⟩) hHeld ?_
        rotate_left 1
        · (intro w hSw; (try dsimp only at hSw); go_simp <;> with_reducible rfl)
        simp only [Act.put, List.setIfInBounds_toArray, List.set_cons_zero, List.set_cons_succ]
        refine wpAnyH_take (i := 7) (oi := { dst := some 20, op := Go.Op.move (Go.Operand.tmp 3), type := 3, pos := "ref.go:15", after := #[{ on := 6, ground := Go.Ground.guard }], guard := some (6, false) }) (v := ?_) rfl (by kernel_rfl) (by kernel_rfl) (by kernel_rfl) (fun _ _ _ h => h) (Or.inl ⟨by rfl, ?_⟩) hHeld ?_
        rotate_left 1
        · (intro w hSw; (try dsimp only at hSw); go_simp <;> with_reducible rfl)
        simp only [Act.put, List.setIfInBounds_toArray, List.set_cons_zero, List.set_cons_succ]
        refine wpAnyH_take (i := 8) (oi := { dst := some 21, op := Go.Op.binOp Go.BinOp.gtr 3 (Go.Operand.tmp 20) (Go.Operand.const (Go.Value.int Go.IntKind.i64 0)) 3, type := 4, pos := "ref.go:15", after := #[{ on := 7, ground := Go.Ground.data }, { on := 6, ground := Go.Ground.guard }], guard := some (6, false) }) (v := ?_) rfl (by kernel_rfl) (by kernel_rfl) (by kernel_rfl) (fun _ _ _ h => h) (Or.inl ⟨by rfl, ?_⟩) hHeld ?_
        rotate_left 1
        · (intro w hSw; (try dsimp only at hSw); go_simp <;> with_reducible rfl)
        simp only [Act.put, List.setIfInBounds_toArray, List.set_cons_zero, List.set_cons_succ]
        refine wpAnyH_take (i := 9) (oi := { dst := some 22, op := Go.Op.move (Go.Operand.tmp 21), type := 4, pos := "ref.go:15", after := #[{ on := 8, ground := Go.Ground.data }, { on := 6, ground := Go.Ground.chain }, { on := 6, ground := Go.Ground.guard }], guard := some (6, false) }) (v := ?_) rfl (by kernel_rfl) (by kernel_rfl) (by kernel_rfl) (fun _ _ _ h => h) (Or.inl ⟨by rfl, ?_⟩) hHeld ?_
        rotate_left 1
        · (intro w hSw; (try dsimp only at hSw); go_simp <;> with_reducible rfl)
        simp only [Act.put, List.setIfInBounds_toArray, List.set_cons_zero, List.set_cons_succ]
        refine wpAnyH_take (i := 10) (oi := { dst := some 23, op := Go.Op.move (Go.Operand.tmp 0), type := 22, pos := "ref.go:15", after := #[{ on := 9, ground := Go.Ground.guard }], guard := some (9, true) }) (v := ?_) rfl (by kernel_rfl) (by kernel_rfl) (by kernel_rfl) (fun _ _ _ h => h) (Or.inl ⟨by rfl, ?_⟩) hHeld ?_
        rotate_left 1
        · (intro w hSw; (try dsimp only at hSw); go_simp <;> with_reducible rfl)
        simp only [Act.put, List.setIfInBounds_toArray, List.set_cons_zero, List.set_cons_succ]
        refine wpAnyH_take (i := 11) (oi := { dst := some 24, op := Go.Op.move (Go.Operand.tmp 3), type := 3, pos := "ref.go:15", after := #[{ on := 9, ground := Go.Ground.guard }], guard := some (9, true) }) (v := ?_) rfl (by kernel_rfl) (by kernel_rfl) (by kernel_rfl) (fun _ _ _ h => h) (Or.inl ⟨by rfl, ?_⟩) hHeld ?_
        rotate_left 1
        · (intro w hSw; (try dsimp only at hSw); go_simp <;> with_reducible rfl)
        simp only [Act.put, List.setIfInBounds_toArray, List.set_cons_zero, List.set_cons_succ]
        refine wpAnyH_take (i := 12) (oi := { dst := some 25, op := Go.Op.indexAddr 22 (Go.Operand.tmp 23) (Go.Operand.tmp 24), type := 0, pos := "ref.go:15", after := #[{ on := 10, ground := Go.Ground.data }, { on := 11, ground := Go.Ground.data }, { on := 9, ground := Go.Ground.guard }], guard := some (9, true) }) (v := ?_) rfl (by kernel_rfl) (by kernel_rfl) (by kernel_rfl) (fun _ _ _ h => h) (Or.inl ⟨by rfl, ?_⟩) hHeld ?_
        rotate_left 1
        · (intro w hSw; (try dsimp only at hSw); go_simp <;> with_reducible rfl)
        simp only [Act.put, List.setIfInBounds_toArray, List.set_cons_zero, List.set_cons_succ]
        refine wpAnyH_take (i := 13) (oi := { dst := some 26, op := Go.Op.fieldAddr 44 (Go.Operand.tmp 25) 1, type := 0, pos := "ref.go:15", after := #[{ on := 12, ground := Go.Ground.data }, { on := 9, ground := Go.Ground.guard }], guard := some (9, true) }) (v := ?_) rfl (by kernel_rfl) (by kernel_rfl) (by kernel_rfl) (fun _ _ _ h => h) (Or.inl ⟨by rfl, ?_⟩) hHeld ?_
        rotate_left 1
        · (intro w hSw; (try dsimp only at hSw); go_simp <;> with_reducible rfl)
        simp only [Act.put, List.setIfInBounds_toArray, List.set_cons_zero, List.set_cons_succ]
        refine wpAnyH_take (i := 14) (oi := { dst := some 27, op := Go.Op.load 3 (Go.Operand.tmp 26), type := 3, pos := "ref.go:15", after := #[{ on := 13, ground := Go.Ground.data }, { on := 9, ground := Go.Ground.guard }], guard := some (9, true) }) (v := ?_) rfl (by kernel_rfl) (by kernel_rfl) (by kernel_rfl) (fun _ _ _ h => h) (Or.inl ⟨by rfl, ?_⟩) hHeld ?_
        rotate_left 1
        · (intro w hSw; (try dsimp only at hSw); go_simp <;> with_reducible rfl)
        simp only [Act.put, List.setIfInBounds_toArray, List.set_cons_zero, List.set_cons_succ]
        refine wpAnyH_take (i := 15) (oi := { dst := some 28, op := Go.Op.move (Go.Operand.tmp 0), type := 22, pos := "ref.go:15", after := #[{ on := 9, ground := Go.Ground.guard }], guard := some (9, true) }) (v := ?_) rfl (by kernel_rfl) (by kernel_rfl) (by kernel_rfl) (fun _ _ _ h => h) (Or.inl ⟨by rfl, ?_⟩) hHeld ?_
        rotate_left 1
        · (intro w hSw; (try dsimp only at hSw); go_simp <;> with_reducible rfl)
        simp only [Act.put, List.setIfInBounds_toArray, List.set_cons_zero, List.set_cons_succ]
        refine wpAnyH_take (i := 16) (oi := { dst := some 29, op := Go.Op.move (Go.Operand.tmp 3), type := 3, pos := "ref.go:15", after := #[{ on := 9, ground := Go.Ground.guard }], guard := some (9, true) }) (v := ?_) rfl (by kernel_rfl) (by kernel_rfl) (by kernel_rfl) (fun _ _ _ h => h) (Or.inl ⟨by rfl, ?_⟩) hHeld ?_
        rotate_left 1
        · (intro w hSw; (try dsimp only at hSw); go_simp <;> with_reducible rfl)
        simp only [Act.put, List.setIfInBounds_toArray, List.set_cons_zero, List.set_cons_succ]
        refine wpAnyH_take (i := 17) (oi := { dst := some 30, op := Go.Op.binOp Go.BinOp.sub 3 (Go.Operand.tmp 29) (Go.Operand.const (Go.Value.int Go.IntKind.i64 1)) 3, type := 3, pos := "ref.go:15", after := #[{ on := 16, ground := Go.Ground.data }, { on := 9, ground := Go.Ground.guard }], guard := some (9, true) }) (v := ?_) rfl (by kernel_rfl) (by kernel_rfl) (by kernel_rfl) (fun _ _ _ h => h) (Or.inl ⟨by rfl, ?_⟩) hHeld ?_
        rotate_left 1
        · (intro w hSw; (try dsimp only at hSw); go_simp <;> with_reducible rfl)
        simp only [Act.put, List.setIfInBounds_toArray, List.set_cons_zero, List.set_cons_succ]
        refine wpAnyH_take (i := 18) (oi := { dst := some 31, op := Go.Op.indexAddr 22 (Go.Operand.tmp 28) (Go.Operand.tmp 30), type := 0, pos := "ref.go:15", after := #[{ on := 15, ground := Go.Ground.data }, { on := 17, ground := Go.Ground.data }, { on := 9, ground := Go.Ground.guard }], guard := some (9, true) }) (v := ?_) rfl (by kernel_rfl) (by kernel_rfl) (by kernel_rfl) (fun _ _ _ h => h) (Or.inl ⟨by rfl, ?_⟩) hHeld ?_
        rotate_left 1
        · (intro w hSw; (try dsimp only at hSw); go_simp <;> with_reducible rfl)
        simp only [Act.put, List.setIfInBounds_toArray, List.set_cons_zero, List.set_cons_succ]
        refine wpAnyH_take (i := 19) (oi := { dst := some 32, op := Go.Op.fieldAddr 44 (Go.Operand.tmp 31) 1, type := 0, pos := "ref.go:15", after := #[{ on := 18, ground := Go.Ground.data }, { on := 9, ground := Go.Ground.guard }], guard := some (9, true) }) (v := ?_) rfl (by kernel_rfl) (by kernel_rfl) (by kernel_rfl) (fun _ _ _ h => h) (Or.inl ⟨by rfl, ?_⟩) hHeld ?_
        rotate_left 1
        · (intro w hSw; (try dsimp only at hSw); go_simp <;> with_reducible rfl)
        simp only [Act.put, List.setIfInBounds_toArray, List.set_cons_zero, List.set_cons_succ]
        refine wpAnyH_take (i := 20) (oi := { dst := some 33, op := Go.Op.load 3 (Go.Operand.tmp 32), type := 3, pos := "ref.go:15", after := #[{ on := 19, ground := Go.Ground.data }, { on := 9, ground := Go.Ground.guard }], guard := some (9, true) }) (v := ?_) rfl (by kernel_rfl) (by kernel_rfl) (by kernel_rfl) (fun _ _ _ h => h) (Or.inl ⟨by rfl, ?_⟩) hHeld ?_
        rotate_left 1
        · (intro w hSw; (try dsimp only at hSw); go_simp <;> with_reducible rfl)
        simp only [Act.put, List.setIfInBounds_toArray, List.set_cons_zero, List.set_cons_succ]
        refine wpAnyH_take (i := 21) (oi := { dst := some 34, op := Go.Op.binOp Go.BinOp.lss 3 (Go.Operand.tmp 27) (Go.Operand.tmp 33) 3, type := 4, pos := "ref.go:15", after := #[{ on := 14, ground := Go.Ground.data }, { on := 20, ground := Go.Ground.data }, { on := 9, ground := Go.Ground.guard }], guard := some (9, true) }) (v := ?_) rfl (by kernel_rfl) (by kernel_rfl) (by kernel_rfl) (fun _ _ _ h => h) (Or.inl ⟨by rfl, ?_⟩) hHeld ?_
        rotate_left 1
        · (intro w hSw; (try dsimp only at hSw); go_simp <;> with_reducible rfl)
        simp only [Act.put, List.setIfInBounds_toArray, List.set_cons_zero, List.set_cons_succ]
        refine wpAnyH_take (i := 22) (oi := { dst := some 35, op := Go.Op.pick (Go.Operand.tmp 22) (Go.Operand.tmp 34) (Go.Operand.const (Go.Value.bool false)), type := 4, pos := "ref.go:15", after := #[{ on := 9, ground := Go.Ground.data }, { on := 21, ground := Go.Ground.data }, { on := 6, ground := Go.Ground.guard }], guard := some (6, false) }) (v := ?_) rfl (by kernel_rfl) (by kernel_rfl) (by kernel_rfl) (fun _ _ _ h => h) (Or.inl ⟨by rfl, ?_⟩) hHeld ?_
        rotate_left 1
        · (intro w hSw; (try dsimp only at hSw); go_simp <;> with_reducible rfl)
        simp only [Act.put, List.setIfInBounds_toArray, List.set_cons_zero, List.set_cons_succ]
        refine wpAnyH_take (i := 23) (oi := { dst := some 36, op := Go.Op.pick (Go.Operand.tmp 19) (Go.Operand.const (Go.Value.bool true)) (Go.Operand.tmp 35), type := 4, pos := "ref.go:15", after := #[{ on := 6, ground := Go.Ground.data }, { on := 22, ground := Go.Ground.data }], guard := none }) (v := ?_) rfl (by kernel_rfl) (by kernel_rfl) (by kernel_rfl) (fun _ _ _ h => h) (Or.inl ⟨by rfl, ?_⟩) hHeld ?_
        rotate_left 1
        · (intro w hSw; (try dsimp only at hSw); go_simp <;> with_reducible rfl)
        simp only [Act.put, List.setIfInBounds_toArray, List.set_cons_zero, List.set_cons_succ]
        refine wpAnyH_done (by kernel_rfl) ?_ _
        go_wp2_with fail
        exact ⟨⟨i + 1 + 1, hlt, by first | rw [HW.out] | rw [HW2.out] | exact congrArg _ (Int.natCast_succ (i + 1)).symm, bel2 HB.out HB5.out⟩, by first | exact meas hlt HW.out | exact meas hlt HW2.out | exact meas hlt (Int.natCast_succ (i + 1)).symm⟩
      · obtain rfl : j = 0 := by omega
        have HX : Hid (∀ W, Below wr.heap.size wr W → W.rangeAt B (o + 0 * 13) r.toList ∧ True) := fun W hb => ⟨fun i v hv => cellW (HR.out.1 i v hv) hb, trivial⟩
        clear hj0 hrng hiu hsz hd s1'
        go_wp2_with fail
        refine wp_region_held_drew (S := (fun w' => w'.rangeAt B (o + 0 * 13) r.toList ∧ True)) (by kernel_rfl) (HX.out wr.drew (Below.refl _ wr).drew) (fun hHeld => ?_)
        change wpAnyH _ _ _ _ _ _ _ _ (World.drew _)
        refine wpAnyH_take (i := 0) (oi := { dst := some 13, op := Go.Op.move (Go.Operand.tmp 0), type := 22, pos := "ref.go:15", after := #[], guard := none }) (v := ?_) rfl (by kernel_rfl) (by kernel_rfl) (by kernel_rfl) (fun _ _ _ h => h) (Or.inl ⟨by rfl, ?_⟩) hHeld ?_
        rotate_left 1
        · (intro w hSw; (try dsimp only at hSw); go_simp <;> with_reducible rfl)
        simp only [Act.put, List.setIfInBounds_toArray, List.set_cons_zero, List.set_cons_succ]
        refine wpAnyH_take (i := 1) (oi := { dst := some 14, op := Go.Op.move (Go.Operand.tmp 3), type := 3, pos := "ref.go:15", after := #[], guard := none }) (v := ?_) rfl (by kernel_rfl) (by kernel_rfl) (by kernel_rfl) (fun _ _ _ h => h) (Or.inl ⟨by rfl, ?_⟩) hHeld ?_
        rotate_left 1
        · (intro w hSw; (try dsimp only at hSw); go_simp <;> with_reducible rfl)
        simp only [Act.put, List.setIfInBounds_toArray, List.set_cons_zero, List.set_cons_succ]
        refine wpAnyH_take (i := 2) (oi := { dst := some 15, op := Go.Op.indexAddr 22 (Go.Operand.tmp 13) (Go.Operand.tmp 14), type := 0, pos := "ref.go:15", after := #[{ on := 0, ground := Go.Ground.data }, { on := 1, ground := Go.Ground.data }], guard := none }) (v := ?_) rfl (by kernel_rfl) (by kernel_rfl) (by kernel_rfl) (fun _ _ _ h => h) (Or.inl ⟨by rfl, ?_⟩) hHeld ?_
        rotate_left 1
        · (intro w hSw; (try dsimp only at hSw); go_simp <;> with_reducible rfl)
        simp only [Act.put, List.setIfInBounds_toArray, List.set_cons_zero, List.set_cons_succ]
        refine wpAnyH_take (i := 3) (oi := { dst := some 16, op := Go.Op.load 44 (Go.Operand.tmp 15), type := 44, pos := "ref.go:15", after := #[{ on := 2, ground := Go.Ground.data }], guard := none }) (v := _) rfl (by kernel_rfl) (by kernel_rfl) (by kernel_rfl) (fun _ _ _ h => h) (yieldsIf_load_mid rfl 44 _ rfl B (o + 0 * 13) rfl r.toList _ (fun w h => h.1) Tryz.underlying44 rfl hi44) hHeld ?_
        simp only [Act.put, List.setIfInBounds_toArray, List.set_cons_zero, List.set_cons_succ]
        refine wpAnyH_ready (rs := [4]) (by kernel_rfl) (by simp) ?_
        refine AllReadyH.cons (o := { dst := some 17, op := Go.Op.call { callee := Go.Callee.value (Go.Operand.func 20), args := #[Go.Operand.tmp 16], argTypes := #[44] }, type := 38, pos := "ref.go:15", after := #[{ on := 3, ground := Go.Ground.data }], guard := none }) rfl (fun K hK => ?_) AllReadyH.nil
        go_simp
        refine (KU.out _ (Below.refl _ wr).drew).mono ?_
        rintro e w5 ⟨rfl, hb⟩
        have HB5 : Hid (Below wr.heap.size wr w5) := bel2 ((Below.refl _ wr).drew) hb
        clear hb
        refine hK.out _ _ (HX.out w5 HB5.out) (fun hHeld => ?_)
        clear hK K
        refine wpAnyH_take (i := 5) (oi := { dst := some 18, op := Go.Op.binOp Go.BinOp.neq 38 (Go.Operand.tmp 17) (Go.Operand.const (Go.Value.int Go.IntKind.i64 0)) 38, type := 4, pos := "ref.go:15", after := #[{ on := 4, ground := Go.Ground.data }], guard := none }) (v := ?_) rfl (by kernel_rfl) (by kernel_rfl) (by kernel_rfl) (fun _ _ _ h => h) (Or.inl ⟨by rfl, ?_⟩) hHeld ?_
        rotate_left 1
        · (intro w hSw; (try dsimp only at hSw); go_simp <;> with_reducible rfl)
        simp only [Act.put, List.setIfInBounds_toArray, List.set_cons_zero, List.set_cons_succ]
        refine wpAnyH_take (i := 6) (oi := { dst := some 19, op := Go.Op.move (Go.Operand.tmp 18), type := 4, pos := "ref.go:15", after := #[{ on := 5, ground := Go.Ground.data }, { on := 4, ground := Go.Ground.chain }], guard := none }) (v := ?_) rfl (by kernel_rfl) (by kernel_rfl) (by kernel_rfl) (fun _ _ _ h => h) (Or.inl ⟨by rfl, ?_⟩) hHeld ?_
        rotate_left 1
        · (intro w hSw; (try dsimp only at hSw); go_simp <;> with_reducible rfl)
        simp only [Act.put, List.setIfInBounds_toArray, List.set_cons_zero, List.set_cons_succ]
        refine wpAnyH_take (i := 7) (oi := { dst := some 20, op := Go.Op.move (Go.Operand.tmp 3), type := 3, pos := "ref.go:15", after := #[{ on := 6, ground := Go.Ground.guard }], guard := some (6, false) }) (v := ?_) rfl (by kernel_rfl) (by kernel_rfl) (by kernel_rfl) (fun _ _ _ h => h) (Or.inl ⟨by rfl, ?_⟩) hHeld ?_
        rotate_left 1
        · (intro w hSw; (try dsimp only at hSw); go_simp <;> with_reducible rfl)
        simp only [Act.put, List.setIfInBounds_toArray, List.set_cons_zero, List.set_cons_succ]
        refine wpAnyH_take (i := 8) (oi := { dst := some 21, op := Go.Op.binOp Go.BinOp.gtr 3 (Go.Operand.tmp 20) (Go.Operand.const (Go.Value.int Go.IntKind.i64 0)) 3, type := 4, pos := "ref.go:15", after := #[{ on := 7, ground := Go.Ground.data }, { on := 6, ground := Go.Ground.guard }], guard := some (6, false) }) (v := ?_) rfl (by kernel_rfl) (by kernel_rfl) (by kernel_rfl) (fun _ _ _ h => h) (Or.inl ⟨by rfl, ?_⟩) hHeld ?_
        rotate_left 1
        · (intro w hSw; (try dsimp only at hSw); go_simp <;> with_reducible rfl)
        simp only [Act.put, List.setIfInBounds_toArray, List.set_cons_zero, List.set_cons_succ]
        refine wpAnyH_take (i := 9) (oi := { dst := some 22, op := Go.Op.move (Go.Operand.tmp 21), type := 4, pos := "ref.go:15", after := #[{ on := 8, ground := Go.Ground.data }, { on := 6, ground := Go.Ground.chain }, { on := 6, ground := Go.Ground.guard }], guard := some (6, false) }) (v := ?_) rfl (by kernel_rfl) (by kernel_rfl) (by kernel_rfl) (fun _ _ _ h => h) (Or.inl ⟨by rfl, ?_⟩) hHeld ?_
        rotate_left 1
        · (intro w hSw; (try dsimp only at hSw); go_simp <;> with_reducible rfl)
        simp only [Act.put, List.setIfInBounds_toArray, List.set_cons_zero, List.set_cons_succ]
        refine wpAnyH_take (i := 10) (oi := { dst := some 23, op := Go.Op.move (Go.Operand.tmp 0), type := 22, pos := "ref.go:15", after := #[{ on := 9, ground := Go.Ground.guard }], guard := some (9, true) }) (v := undef) rfl (by kernel_rfl) (by kernel_rfl) (by kernel_rfl) (fun _ _ _ h => h) (Or.inr ⟨by rfl, rfl⟩) hHeld ?_
        simp only [Act.put, List.setIfInBounds_toArray, List.set_cons_zero, List.set_cons_succ]
        refine wpAnyH_take (i := 11) (oi := { dst := some 24, op := Go.Op.move (Go.Operand.tmp 3), type := 3, pos := "ref.go:15", after := #[{ on := 9, ground := Go.Ground.guard }], guard := some (9, true) }) (v := undef) rfl (by kernel_rfl) (by kernel_rfl) (by kernel_rfl) (fun _ _ _ h => h) (Or.inr ⟨by rfl, rfl⟩) hHeld ?_
        simp only [Act.put, List.setIfInBounds_toArray, List.set_cons_zero, List.set_cons_succ]
        refine wpAnyH_take (i := 12) (oi := { dst := some 25, op := Go.Op.indexAddr 22 (Go.Operand.tmp 23) (Go.Operand.tmp 24), type := 0, pos := "ref.go:15", after := #[{ on := 10, ground := Go.Ground.data }, { on := 11, ground := Go.Ground.data }, { on := 9, ground := Go.Ground.guard }], guard := some (9, true) }) (v := undef) rfl (by kernel_rfl) (by kernel_rfl) (by kernel_rfl) (fun _ _ _ h => h) (Or.inr ⟨by rfl, rfl⟩) hHeld ?_
        simp only [Act.put, List.setIfInBounds_toArray, List.set_cons_zero, List.set_cons_succ]
        refine wpAnyH_take (i := 13) (oi := { dst := some 26, op := Go.Op.fieldAddr 44 (Go.Operand.tmp 25) 1, type := 0, pos := "ref.go:15", after := #[{ on := 12, ground := Go.Ground.data }, { on := 9, ground := Go.Ground.guard }], guard := some (9, true) }) (v := undef) rfl (by kernel_rfl) (by kernel_rfl) (by kernel_rfl) (fun _ _ _ h => h) (Or.inr ⟨by rfl, rfl⟩) hHeld ?_
        simp only [Act.put, List.setIfInBounds_toArray, List.set_cons_zero, List.set_cons_succ]
        refine wpAnyH_take (i := 14) (oi := { dst := some 27, op := Go.Op.load 3 (Go.Operand.tmp 26), type := 3, pos := "ref.go:15", after := #[{ on := 13, ground := Go.Ground.data }, { on := 9, ground := Go.Ground.guard }], guard := some (9, true) }) (v := undef) rfl (by kernel_rfl) (by kernel_rfl) (by kernel_rfl) (fun _ _ _ h => h) (Or.inr ⟨by rfl, rfl⟩) hHeld ?_
        simp only [Act.put, List.setIfInBounds_toArray, List.set_cons_zero, List.set_cons_succ]
        refine wpAnyH_take (i := 15) (oi := { dst := some 28, op := Go.Op.move (Go.Operand.tmp 0), type := 22, pos := "ref.go:15", after := #[{ on := 9, ground := Go.Ground.guard }], guard := some (9, true) }) (v := undef) rfl (by kernel_rfl) (by kernel_rfl) (by kernel_rfl) (fun _ _ _ h => h) (Or.inr ⟨by rfl, rfl⟩) hHeld ?_
        simp only [Act.put, List.setIfInBounds_toArray, List.set_cons_zero, List.set_cons_succ]
        refine wpAnyH_take (i := 16) (oi := { dst := some 29, op := Go.Op.move (Go.Operand.tmp 3), type := 3, pos := "ref.go:15", after := #[{ on := 9, ground := Go.Ground.guard }], guard := some (9, true) }) (v := undef) rfl (by kernel_rfl) (by kernel_rfl) (by kernel_rfl) (fun _ _ _ h => h) (Or.inr ⟨by rfl, rfl⟩) hHeld ?_
        simp only [Act.put, List.setIfInBounds_toArray, List.set_cons_zero, List.set_cons_succ]
        refine wpAnyH_take (i := 17) (oi := { dst := some 30, op := Go.Op.binOp Go.BinOp.sub 3 (Go.Operand.tmp 29) (Go.Operand.const (Go.Value.int Go.IntKind.i64 1)) 3, type := 3, pos := "ref.go:15", after := #[{ on := 16, ground := Go.Ground.data }, { on := 9, ground := Go.Ground.guard }], guard := some (9, true) }) (v := undef) rfl (by kernel_rfl) (by kernel_rfl) (by kernel_rfl) (fun _ _ _ h => h) (Or.inr ⟨by rfl, rfl⟩) hHeld ?_
        simp only [Act.put, List.setIfInBounds_toArray, List.set_cons_zero, List.set_cons_succ]
        refine wpAnyH_take (i := 18) (oi := { dst := some 31, op := Go.Op.indexAddr 22 (Go.Operand.tmp 28) (Go.Operand.tmp 30), type := 0, pos := "ref.go:15", after := #[{ on := 15, ground := Go.Ground.data }, { on := 17, ground := Go.Ground.data }, { on := 9, ground := Go.Ground.guard }], guard := some (9, true) }) (v := undef) rfl (by kernel_rfl) (by kernel_rfl) (by kernel_rfl) (fun _ _ _ h => h) (Or.inr ⟨by rfl, rfl⟩) hHeld ?_
        simp only [Act.put, List.setIfInBounds_toArray, List.set_cons_zero, List.set_cons_succ]
        refine wpAnyH_take (i := 19) (oi := { dst := some 32, op := Go.Op.fieldAddr 44 (Go.Operand.tmp 31) 1, type := 0, pos := "ref.go:15", after := #[{ on := 18, ground := Go.Ground.data }, { on := 9, ground := Go.Ground.guard }], guard := some (9, true) }) (v := undef) rfl (by kernel_rfl) (by kernel_rfl) (by kernel_rfl) (fun _ _ _ h => h) (Or.inr ⟨by rfl, rfl⟩) hHeld ?_
        simp only [Act.put, List.setIfInBounds_toArray, List.set_cons_zero, List.set_cons_succ]
        refine wpAnyH_take (i := 20) (oi := { dst := some 33, op := Go.Op.load 3 (Go.Operand.tmp 32), type := 3, pos := "ref.go:15", after := #[{ on := 19, ground := Go.Ground.data }, { on := 9, ground := Go.Ground.guard }], guard := some (9, true) }) (v := undef) rfl (by kernel_rfl) (by kernel_rfl) (by kernel_rfl) (fun _ _ _ h => h) (Or.inr ⟨by rfl, rfl⟩) hHeld ?_
        simp only [Act.put, List.setIfInBounds_toArray, List.set_cons_zero, List.set_cons_succ]
        refine wpAnyH_take (i := 21) (oi := { dst := some 34, op := Go.Op.binOp Go.BinOp.lss 3 (Go.Operand.tmp 27) (Go.Operand.tmp 33) 3, type := 4, pos := "ref.go:15", after := #[{ on := 14, ground := Go.Ground.data }, { on := 20, ground := Go.Ground.data }, { on := 9, ground := Go.Ground.guard }], guard := some (9, true) }) (v := undef) rfl (by kernel_rfl) (by kernel_rfl) (by kernel_rfl) (fun _ _ _ h => h) (Or.inr ⟨by rfl, rfl⟩) hHeld ?_
        simp only [Act.put, List.setIfInBounds_toArray, List.set_cons_zero, List.set_cons_succ]
        refine wpAnyH_take (i := 22) (oi := { dst := some 35, op := Go.Op.pick (Go.Operand.tmp 22) (Go.Operand.tmp 34) (Go.Operand.const (Go.Value.bool false)), type := 4, pos := "ref.go:15", after := #[{ on := 9, ground := Go.Ground.data }, { on := 21, ground := Go.Ground.data }, { on := 6, ground := Go.Ground.guard }], guard := some (6, false) }) (v := ?_) rfl (by kernel_rfl) (by kernel_rfl) (by kernel_rfl) (fun _ _ _ h => h) (Or.inl ⟨by rfl, ?_⟩) hHeld ?_
        rotate_left 1
        · (intro w hSw; (try dsimp only at hSw); go_simp <;> with_reducible rfl)
        simp only [Act.put, List.setIfInBounds_toArray, List.set_cons_zero, List.set_cons_succ]
        refine wpAnyH_take (i := 23) (oi := { dst := some 36, op := Go.Op.pick (Go.Operand.tmp 19) (Go.Operand.const (Go.Value.bool true)) (Go.Operand.tmp 35), type := 4, pos := "ref.go:15", after := #[{ on := 6, ground := Go.Ground.data }, { on := 22, ground := Go.Ground.data }], guard := none }) (v := ?_) rfl (by kernel_rfl) (by kernel_rfl) (by kernel_rfl) (fun _ _ _ h => h) (Or.inl ⟨by rfl, ?_⟩) hHeld ?_
        rotate_left 1
        · (intro w hSw; (try dsimp only at hSw); go_simp <;> with_reducible rfl)
        simp only [Act.put, List.setIfInBounds_toArray, List.set_cons_zero, List.set_cons_succ]
        refine wpAnyH_done (by kernel_rfl) ?_ _
        go_wp2_with fail
        exact ⟨⟨0 + 1, hlt, by first | rw [HW.out] | rfl, bel2 HB.out HB5.out⟩, by first | exact meas hlt HW.out | exact meas hlt rfl⟩
    · obtain rfl : j = m := by omega
      have hjn : decide ((j : Int) < (j : Int)) = false := decide_eq_false (by omega)
      go_wp2_with fail
      go_ret
      exact ⟨rfl, HB.out⟩
set_option maxHeartbeats 16000000 in
set_option maxRecDepth 100000 in
theorem rcan_calls (n : Nat) (cs : Array Value) (s : Sta) (w : World) (h : Rs w (n + 1) cs s) (hc : CanP (n + 1) s) : Calls Tryz.prog 8 #[.agg cs] w (YesP w) := by
  have hi37 := info33s cs h.size
  have hn := (numB_iff s).1 hc.num
  obtain ⟨hst, hends⟩ := And.intro hc.start hc.ends
  have c0 := h.c0
  have c1 := h.c1
  have c2 := h.c2
  have c3 := h.c3
  have c4 := h.c4
  have c5 := h.c5
  have c6 := h.c6
  have c7 := h.c7
  have c13 := h.c13
  have c14 := h.c14
  have c15 := h.c15
  have c16 := h.c16
  have c30 := h.c30
  obtain ⟨ta, tc, c23, _⟩ := h.tm
  obtain ⟨k0, x0, b0, s0, a0, m0, n0, h1, h2, h3, h4, h5, v1⟩ := h.inp
  obtain ⟨k1, x1, b1, s1, a1, m1, n1, h6, h7, h8, h9, h10, v2⟩ := h.res
  have hb (x lo hi : Int) (q : lo ≤ x ∧ x ≤ hi) : wb x lo hi = true := by simpa [wb] using q
  have K1 : Hid (∀ W, Calls Tryz.prog 12 #[.int .i64 s.run, .int .i64 1, .int .i64 10] W fun e w' => e = .returned (.bool true) ∧ w' = W) := fun W => rwithin_calls _ _ _ W (hb _ _ _ hn.1)
  have K2 : Hid (∀ W, Calls Tryz.prog 12 #[.int .i64 s.status, .int .i64 1, .int .i64 6] W fun e w' => e = .returned (.bool true) ∧ w' = W) := fun W => rwithin_calls _ _ _ W (hb _ _ _ hn.2.2.1)
  have K3 : Hid (∀ W, Calls Tryz.prog 12 #[.int .i64 s.count, .int .i64 1, .int .i64 120] W fun e w' => e = .returned (.bool true) ∧ w' = W) := fun W => rwithin_calls _ _ _ W (hb _ _ _ hn.2.2.2.1)
  have K4 : Hid (∀ W, Calls Tryz.prog 12 #[.int .i64 s.time, .int .i64 0, .int .i64 1099511627776] W fun e w' => e = .returned (.bool true) ∧ w' = W) := fun W => rwithin_calls _ _ _ W (hb _ _ _ hn.2.2.2.2.2.1)
  have K5 : Hid (∀ W, Calls Tryz.prog 12 #[.int .i64 s.dl, .int .i64 0, .int .i64 2199023255552] W fun e w' => e = .returned (.bool true) ∧ w' = W) := fun W => rwithin_calls _ _ _ W (hb _ _ _ hn.2.2.2.2.2.2)
  have K6 : Hid (∀ W, Calls Tryz.prog 12 #[.int .i64 s.fr, .int .i64 0, .int .i64 10] W fun e w' => e = .returned (.bool true) ∧ w' = W) := fun W => rwithin_calls _ _ _ W (hb _ _ _ hn.2.1)
  have K7 : Hid (∀ W, Calls Tryz.prog 12 #[.int .i64 s.sig, .int .i64 0, .int .i64 s.count] W fun e w' => e = .returned (.bool true) ∧ w' = W) := fun W => rwithin_calls _ _ _ W (hb _ _ _ hn.2.2.2.2.1)
  have KN : Hid (∀ W, Calls Tryz.prog 13 #[.string s.typ] W fun e w' => e = .returned (.bool true) ∧ w' = W) := fun W => by
    have := rname_calls s.typ W
    rwa [(name_iff _ _).1 hst.1] at this
  have KI : Hid (∀ W, Below w.heap.size w W → Calls Tryz.prog 14 #[.agg #[.int .i64 k0, .int .i64 x0, .int .u64 b0, .string s0, .slice a0 m0 n0]] W fun e w' => e = .returned (.int .i64 0) ∧ Below W.heap.size W w') := fun W hb => vcheck_yes (n + 1) _ s.inp W (v1.below hb) hst.2.1
  have hres : May (n + 1) s.res ∧ (s.status ≠ 2 → s.res = zE) := by
    have := hends.2.1
    unfold ResultP at this
    by_cases e : s.status = 2
    · rw [if_pos e] at this; exact ⟨this, fun h => absurd e h⟩
    · rw [if_neg e] at this; exact ⟨by rw [this]; exact zE_may0 n, fun _ => this⟩
  have KV : Hid (∀ W, Below w.heap.size w W → Calls Tryz.prog 14 #[.agg #[.int .i64 k1, .int .i64 x1, .int .u64 b1, .string s1, .slice a1 m1 n1]] W fun e w' => e = .returned (.int .i64 0) ∧ Below W.heap.size W w') := fun W hb => vcheck_yes (n + 1) _ s.res W (v2.below hb) hres.1
  have KP : Hid (∀ W, Calls Tryz.prog 15 #[.agg #[.int .i64 s.pf, .int .u64 (s.pc : Int), .int .i64 s.pm]] W fun e w' => e = .returned (.int .i64 0) ∧ Below W.heap.size W w') := fun W => by
    have := refCheck_calls s.pf s.pc s.pm W
    rwa [hst.2.2] at this
  have KT : Hid (∀ W, Below w.heap.size w W → Calls Tryz.prog 16 #[.agg cs] W (YesP W)) := fun W hb => rtask_calls n cs s W (h.below hb) hc.task
  have KL : Hid (∀ W, Below w.heap.size w W → Calls Tryz.prog 17 #[.agg cs] W (YesP W)) := fun W hb => rlists_calls n cs s W (h.below hb) hc.tim hc.upd
  have hrea : s.rea.size ≤ 200 ∧ (s.status ≠ 3 → s.status ≠ 5 → s.rea = ⟨#[]⟩) := by
    have := hends.2.2
    unfold ReasonP at this
    by_cases e : s.status = 3 ∨ s.status = 5
    · rw [if_pos e] at this
      exact ⟨(text_iff _ _).1 this, fun a b => by rcases e with e | e; exact absurd e a; exact absurd e b⟩
    · rw [if_neg e] at this
      have hz : s.rea = ⟨#[]⟩ := tl_inj (this.trans (by rw [ByteArray.toList_eq]))
      exact ⟨by rw [hz]; decide, fun _ _ => hz⟩
  have KX : Hid (∀ W, Calls Tryz.prog 19 #[.string s.rea] W fun e w' => e = .returned (.bool true) ∧ w' = W) := fun W => by
    have := rtext_calls s.rea W
    rwa [decide_eq_true hrea.1] at this
  have KZ : Hid (s.status ≠ 2 → ∀ W, Below w.heap.size w W → Calls Tryz.prog 18 #[.agg #[.int .i64 k1, .int .i64 x1, .int .u64 b1, .string s1, .slice a1 m1 n1], .agg #[.int .i64 0, .int .i64 0, .int .u64 0, .string ⟨#[]⟩, .slice none 0 0]] W (YesP W)) := fun hs W hb => vsame_yes (n + 1) _ _ s.res W (v2.below hb) (by rw [hres.2 hs]; exact zE_is W n)
  have HE : Hid (s.status = 1 ∨ (s.ts = 0 ∧ s.tm.length = 0)) := hends.1
  have HRe : Hid (s.status ≠ 3 → s.status ≠ 5 → s.rea = ⟨#[]⟩) := hrea.2
  have r0 : (w.alloc (.cells cs 37)).heap[w.heap.size]? = some (.cells cs 37 (0, 0)) := heap_alloc_new _ _
  generalize s.status = st at c1 K2 KZ HE HRe
  generalize s.ts = ts at c16 HE
  generalize s.tm.length = tl at c23 HE
  generalize s.rea = q at c30 KX HRe
  clear h hc hn hst hends v1 v2 hres hrea hb
  go_enter Tryz.func8, Tryz.ntmps8
  go_wp2_with fail
  refine (K1.out _).mono ?_
  rintro e w1 ⟨rfl, hw⟩
  have hw' := hw.symm
  subst hw'
  clear hw K1
  go_wp2_with fail
  refine (K2.out _).mono ?_
  rintro e w2 ⟨rfl, hw⟩
  have hw' := hw.symm
  subst hw'
  clear hw K2
  go_wp2_with fail
  refine (K3.out _).mono ?_
  rintro e w3 ⟨rfl, hw⟩
  have hw' := hw.symm
  subst hw'
  clear hw K3
  go_wp2_with fail
  refine (K4.out _).mono ?_
  rintro e w4 ⟨rfl, hw⟩
  have hw' := hw.symm
  subst hw'
  clear hw K4
  go_wp2_with fail
  refine (K5.out _).mono ?_
  rintro e w5 ⟨rfl, hw⟩
  have hw' := hw.symm
  subst hw'
  clear hw K5
  go_wp2_with fail
  refine (K6.out _).mono ?_
  rintro e w6 ⟨rfl, hw⟩
  have hw' := hw.symm
  subst hw'
  clear hw K6
  go_wp2_with fail
  refine (K7.out _).mono ?_
  rintro e w7 ⟨rfl, hw⟩
  have hw' := hw.symm
  subst hw'
  clear hw K7
  go_wp2_with fail
  refine (KN.out _).mono ?_
  rintro e w8 ⟨rfl, hw⟩
  have hw' := hw.symm
  subst hw'
  clear hw KN
  go_wp2_with fail
  refine (KI.out _ (bel1 _ _)).mono ?_
  rintro e wa ⟨rfl, hb⟩
  have HBa : Hid (Below w.heap.size w wa) := bel2 (bel1 _ _) hb
  have ga : ∀ j, wa.cell? ⟨w.heap.size, j, none⟩ = cs[j]? := fun j => cell_of_row wa _ j cs 37 (0, 0) (row_below hb r0)
  have ra : wa.heap[w.heap.size]? = some (.cells cs 37 (0, 0)) := row_below hb r0
  clear hb KI r0
  go_wp2_with fail
  refine (KV.out _ HBa.out).mono ?_
  rintro e wb' ⟨rfl, hb⟩
  have HBb : Hid (Below w.heap.size w wb') := bel2 HBa.out hb
  have gb : ∀ j, wb'.cell? ⟨w.heap.size, j, none⟩ = cs[j]? := fun j => cell_of_row wb' _ j cs 37 (0, 0) (row_below hb ra)
  have rb : wb'.heap[w.heap.size]? = some (.cells cs 37 (0, 0)) := row_below hb ra
  clear hb KV ra ga HBa
  go_wp2_with fail
  refine (KP.out _).mono ?_
  rintro e wc ⟨rfl, hb⟩
  have HBc : Hid (Below w.heap.size w wc) := bel2 HBb.out hb
  have rc : wc.heap[w.heap.size]? = some (.cells cs 37 (0, 0)) := row_below hb rb
  clear hb KP rb gb HBb
  go_wp2_with (refine wpList_load_rowG rfl 37 _ rfl w.heap.size rfl 37 cs (0, 0) _ rc Tryz.underlying37 rfl hi37 ?_)
  refine (KT.out _ HBc.out).mono ?_
  rintro e wd ⟨rfl, hb⟩
  have HBd : Hid (Below w.heap.size w wd) := bel2 HBc.out hb
  have rd : wd.heap[w.heap.size]? = some (.cells cs 37 (0, 0)) := row_below hb rc
  clear hb KT rc HBc
  go_wp2_with (refine wpList_load_rowG rfl 37 _ rfl w.heap.size rfl 37 cs (0, 0) _ rd Tryz.underlying37 rfl hi37 ?_)
  refine (KL.out _ HBd.out).mono ?_
  rintro e we ⟨rfl, hb⟩
  have HBe : Hid (Below w.heap.size w we) := bel2 HBd.out hb
  have re : we.heap[w.heap.size]? = some (.cells cs 37 (0, 0)) := row_below hb rd
  have ge : ∀ j, we.cell? ⟨w.heap.size, j, none⟩ = cs[j]? := fun j => cell_of_row we _ j cs 37 (0, 0) re
  have HRee : Hid (we.heap[w.heap.size]? = some (.cells cs 37 (0, 0))) := re
  clear hb KL rd HBd re
  go_upto_region 4 with fail
  by_cases e2 : st = 2
  · subst e2
    have HE2 : Hid (ts = 0 ∧ tl = 0) := by
      rcases HE.out with h | h
      · cases h
      · exact h
    obtain ⟨rfl, rfl⟩ := HE2.out
    have hq := HRe.out (by decide) (by decide)
    subst hq
    clear KZ HE HRe HE2
    go_wp2_with fail
    refine (KX.out _).mono ?_
    rintro e wf ⟨rfl, hw⟩
    have hw' := hw.symm
    subst hw'
    clear hw KX
    go_wp2_with fail
    go_ret
    exact ⟨by first | rfl | simp, HBe.out⟩
  · have hne : (st != 2) = true := by simpa using e2
    have KZ2 : Hid (∀ W, Below w.heap.size w W → Calls Tryz.prog 18 #[.agg #[.int .i64 k1, .int .i64 x1, .int .u64 b1, .string s1, .slice a1 m1 n1], .agg #[.int .i64 0, .int .i64 0, .int .u64 0, .string ⟨#[]⟩, .slice none 0 0]] W (YesP W)) := KZ.out e2
    clear KZ e2
    go_wp2_with fail
    refine (KZ2.out _ HBe.out).mono ?_
    rintro e wf ⟨rfl, hb⟩
    have HBf : Hid (Below w.heap.size w wf) := bel2 HBe.out hb
    have gf : ∀ j, wf.cell? ⟨w.heap.size, j, none⟩ = cs[j]? := fun j => cell_of_row wf _ j cs 37 (0, 0) (row_below hb HRee.out)
    clear hb KZ2 ge HBe HRee
    go_wp2_with fail
    refine (KX.out _).mono ?_
    rintro e wg ⟨rfl, hw⟩
    have hw' := hw.symm
    subst hw'
    clear hw KX
    go_upto_region 6 with fail
    by_cases e35 : st = 3 ∨ st = 5
    · rcases HE.out with h1' | ⟨rfl, rfl⟩
      · rcases e35 with e | e <;> rw [e] at h1' <;> cases h1'
      · clear HE HRe
        rcases e35 with e | e
        · subst e
          go_wp2_with fail
          go_ret
          exact ⟨by first | rfl | simp, HBf.out⟩
        · subst e
          go_wp2_with fail
          go_ret
          exact ⟨by first | rfl | simp, HBf.out⟩
    · have hq := HRe.out (fun h => e35 (.inl h)) (fun h => e35 (.inr h))
      subst hq
      have h3' : (st != 3) = true := by simpa using fun h => e35 (.inl h)
      have h5' : (st != 5) = true := by simpa using fun h => e35 (.inr h)
      clear e35 HRe
      rcases HE.out with h1' | ⟨rfl, rfl⟩
      · subst h1'
        clear HE
        go_wp2_with fail
        go_ret
        exact ⟨by first | rfl | simp, HBf.out⟩
      · clear HE
        by_cases e1 : st = 1
        · subst e1
          go_wp2_with fail
          go_ret
          exact ⟨by first | rfl | simp, HBf.out⟩
        · have e1' : (st == 1) = false := by simpa using e1
          go_wp2_with fail
          go_ret
          exact ⟨by first | rfl | simp, HBf.out⟩
end Go.Proofs.YtakaglfeeipeiaaGreat
namespace Go.Proofs.YtakaglfeeipeiaaGreat
open Go.ChangeShapes Go.WideShapes Go.ChangeAt Go.RowKit
/-- What Legal tells. -/
def LgP (n : Nat) (r : Int) (l : List Ev) (w : World) (e : Ending) (w' : World) : Prop := (∃ b : Bool, e = .returned (.bool b) ∧ (b = true → 1 ≤ r ∧ r ≤ 10 ∧ 0 < l.length ∧ ∃ s' k, FoE (n + 1) (s0 r) l s' k 0)) ∧ Below w.heap.size w w'
set_option maxHeartbeats 4000000 in
set_option maxRecDepth 100000 in
theorem legal_calls (n : Nat) (r : Int) (a : Option Addr) (c m : Nat) (l : List Ev) (w : World) (hm : l.length = m) (hL : IsL w.heap.size w (n + 1) a l) (hS : SmL (n + 1) l) (hll : l.length ≤ 1000) : Calls Tryz.prog 5 #[.int .i64 r, .slice a m c] w (LgP n r l w) := by
  have KB : Hid (Calls Tryz.prog 7 #[.int .i64 r, .slice a m c] w (BuP n r l w)) := by
    have := build_calls n r a c l w hL hS hll
    rwa [hm] at this
  have HQ : Hid (∀ (b : Bool) w', (b = true → 1 ≤ r ∧ r ≤ 10 ∧ 0 < l.length ∧ ∃ s' k, FoE (n + 1) (s0 r) l s' k 0) → Below w.heap.size w w' → LgP n r l w (.returned (.bool b)) w') := fun b w' h hb => ⟨⟨b, rfl, h⟩, hb⟩
  have HM : Hid (l.length = m) := hm
  generalize LgP n r l w = Q at HQ ⊢
  clear hm hL hS hll
  go_enter Tryz.func5, Tryz.ntmps5
  go_wp2_with fail
  refine KB.out.mono ?_
  rintro e w1 ⟨⟨cs', s', k, code, rfl, hrs, _, hfo⟩, hb⟩
  have hi1 := info33s cs' hrs.size
  have z1 : zS.size = cs'.size := hrs.size.symm
  have a1 := all_one hrs.one
  have n1 : (w1.alloc (.cells zS 37)).heap[w1.heap.size]? = some (.cells zS 37 (0, 0)) := heap_alloc_new w1 _
  have HB1 : Hid (Below w.heap.size w w1) := hb
  have HF : Hid ((1 ≤ r ∧ r ≤ 10 ∧ FoE (n + 1) (s0 r) l s' k code) ∨ (¬ (1 ≤ r ∧ r ≤ 10) ∧ s' = s0 0 ∧ k = 0 ∧ code = 1)) := hfo
  clear hrs hfo hb KB
  go_upto_region 2 with (refine wpList_store_row rfl 37 _ _ rfl w1.heap.size cs' rfl rfl 37 zS n1 hi1 z1 a1 ?_)
  rw [World.setRow_alloc_new]
  have HB2 : Hid (Below w.heap.size w (w1.alloc (.cells cs' 37))) := bel2 HB1.out (bel1 w1 _)
  generalize w1.alloc (.cells cs' 37) = W2 at HB2 ⊢
  clear n1 z1 a1 hi1 HB1
  by_cases hc : code = 0
  · subst hc
    have HF2 : Hid (1 ≤ r ∧ r ≤ 10 ∧ FoE (n + 1) (s0 r) l s' k 0) := by
      rcases HF.out with h | h
      · exact h
      · cases h.2.2.2
    by_cases h0 : 0 < m
    · have d1 : decide ((0 : Int) < (m : Int)) = true := decide_eq_true (by omega)
      have d2 : decide (0 < m) = true := decide_eq_true h0
      have HZ : Hid (0 < l.length) := by rw [HM.out]; exact h0
      clear h0
      go_wp2_with fail
      exact HQ.out _ _ (fun _ => ⟨HF2.out.1, HF2.out.2.1, HZ.out, s', k, HF2.out.2.2⟩) HB2.out
    · have d1 : decide ((0 : Int) < (m : Int)) = false := decide_eq_false (by omega)
      have d2 : decide (0 < m) = false := decide_eq_false h0
      clear h0
      go_wp2_with fail
      exact HQ.out _ _ (fun h => by cases h) HB2.out
  · have hc' : (code == 0) = false := by simpa using hc
    clear hc
    go_wp2_with fail
    exact HQ.out _ _ (fun h => by cases h) HB2.out
set_option maxHeartbeats 2000000 in
theorem can_many (r : Int) (a : Option Addr) (m c : Nat) (hm : ¬ m ≤ 150) (w : World) : Calls Tryz.prog 3 #[.int .i64 r, .slice a m c] w fun e w' => e = .returned (.bool true) ∧ Below w.heap.size w w' := by
  have KF : Hid (Calls Tryz.prog 4 #[.slice a m c] w fun e w' => e = .returned (.bool false) ∧ Below w.heap.size w w') := by
    have := few_calls a m c w
    rwa [decide_eq_false hm] at this
  have KA : Hid (∀ W, Calls Tryz.prog 6 #[] W fun e w' => e = .returned (.bool true) ∧ Below W.heap.size W w') := fun W => awake_calls W
  clear hm
  go_enter Tryz.func3, Tryz.ntmps3
  go_wp2_with fail
  refine KF.out.mono ?_
  rintro e w1 ⟨rfl, hb⟩
  have HB1 : Hid (Below w.heap.size w w1) := hb
  clear hb KF
  go_wp2_with fail
  refine (KA.out w1).mono ?_
  rintro e w5 ⟨rfl, hb5⟩
  have HB5 : Hid (Below w.heap.size w w5) := bel2 HB1.out hb5
  clear hb5 KA
  go_wp2_with fail
  go_ret
  exact ⟨rfl, HB5.out⟩
set_option maxHeartbeats 8000000 in
set_option maxRecDepth 100000 in
theorem can_walk (n : Nat) (r : Int) (a : Option Addr) (c m : Nat) (l : List Ev) (w : World) (hm : l.length = m) (h150 : m ≤ 150) (hL : IsL w.heap.size w (n + 1) a l) (hS : SmL (n + 1) l) : Calls Tryz.prog 3 #[.int .i64 r, .slice a m c] w fun e w' => e = .returned (.bool true) ∧ Below w.heap.size w w' := by
  have KF : Hid (Calls Tryz.prog 4 #[.slice a m c] w fun e w' => e = .returned (.bool true) ∧ Below w.heap.size w w') := by
    have := few_calls a m c w
    rwa [decide_eq_true h150] at this
  have KA : Hid (∀ W, Calls Tryz.prog 6 #[] W fun e w' => e = .returned (.bool true) ∧ Below W.heap.size W w') := fun W => awake_calls W
  have hLW : ∀ W, Below w.heap.size w W → IsL W.heap.size W (n + 1) a l := fun W hb => (hL.below hb).mono hb.size
  have KG : Hid (∀ W, Below w.heap.size w W → Calls Tryz.prog 5 #[.int .i64 r, .slice a m c] W (LgP n r l W)) := fun W hb => legal_calls n r a c m l W hm (hLW W hb) hS (by omega)
  have KB : Hid (∀ W, Below w.heap.size w W → Calls Tryz.prog 7 #[.int .i64 r, .slice a m c] W (BuP n r l W)) := fun W hb => by
    have := build_calls n r a c l W (hLW W hb) hS (by omega)
    rwa [hm] at this
  have HHr : Hid (Hr w (n + 1) a l) := hL.hr
  have HM : Hid (l.length = m) := hm
  clear hm h150 hL hS hLW
  go_enter Tryz.func3, Tryz.ntmps3
  go_wp2_with fail
  refine KF.out.mono ?_
  rintro e w1 ⟨rfl, hb⟩
  have HB1 : Hid (Below w.heap.size w w1) := hb
  clear hb KF
  go_wp2_with fail
  refine (KG.out _ HB1.out).mono ?_
  rintro e w2 ⟨⟨b, rfl, hi⟩, hb⟩
  have HB2 : Hid (Below w.heap.size w w2) := bel2 HB1.out hb
  have HI : Hid (b = true → 1 ≤ r ∧ r ≤ 10 ∧ 0 < l.length ∧ ∃ s' k, FoE (n + 1) (s0 r) l s' k 0) := hi
  clear hb hi KG HB1
  cases b with
  | false =>
    clear KB
    go_wp2_with fail
    refine (KA.out _).mono ?_
    rintro e w5 ⟨rfl, hb5⟩
    have HB5 : Hid (Below w.heap.size w w5) := bel2 HB2.out hb5
    clear hb5 KA
    go_wp2_with fail
    go_ret
    exact ⟨rfl, HB5.out⟩
  | true =>
    go_wp2_with fail
    refine (KB.out _ HB2.out).mono ?_
    rintro e w3 ⟨⟨cs', s', k, code, rfl, hrs, -, hfo⟩, hb⟩
    obtain ⟨i1, i2, i3, s2, k2, hf2⟩ := HI.out (by first | rfl | trivial)
    have hfo1 : FoE (n + 1) (s0 r) l s' k code := by
      rcases hfo with h | h
      · exact h.2.2
      · exact absurd ⟨i1, i2⟩ h.1
    obtain ⟨-, -, hcode⟩ := hfo1.det hf2
    subst hcode
    have hk : k = l.length := by
      rcases hfo1.2.2 with h | ⟨_, _, _, _, h⟩
      · exact h.1
      · exact absurd rfl h
    have hrun : RunR (n + 1) l (s0 r) s' := by
      have := hfo1.2.1
      rwa [hk, List.take_length] at this
    obtain ⟨j1, j2, j3, j4, j5⟩ := rn_all i1 i2 i3 hrun
    rw [HM.out] at hk j3
    subst hk
    have hn := (numB_iff s').1 j1.num
    have KC : Hid (∀ W, Below w3.heap.size w3 W → Calls Tryz.prog 8 #[.agg cs'] W (YesP W)) := fun W hb => rcan_calls n cs' s' W (hrs.below hb) j1
    have KH : Hid (∀ W, Below w.heap.size w W → Calls Tryz.prog 9 #[.slice a k c] W fun e w' => e = .returned (.int .i64 0) ∧ Below W.heap.size W w') := fun W hb => rcheckH_calls n l a k c HM.out (by omega) W (HHr.out.below hb) j4 j5
    have c0 := hrs.c0
    have c2 := hrs.c2
    rw [j2] at c0
    rw [j3] at c2
    have hi1 := info33s cs' hrs.size
    have z1 : zS.size = cs'.size := hrs.size.symm
    have a1 := all_one hrs.one
    have n1 : (w3.alloc (.cells zS 37)).heap[w3.heap.size]? = some (.cells zS 37 (0, 0)) := heap_alloc_new w3 _
    have HB3 : Hid (Below w.heap.size w w3) := bel2 HB2.out hb
    clear hrs hfo hb KB hfo1 hf2 hrun j1 j2 j3 j4 j5 hn i1 i2 i3 HI HB2
    go_upto_region 4 with (refine wpList_store_row rfl 37 _ _ rfl w3.heap.size cs' rfl rfl 37 zS n1 hi1 z1 a1 ?_)
    rw [World.setRow_alloc_new]
    have r4 : (w3.alloc (.cells cs' 37)).heap[w3.heap.size]? = some (.cells cs' 37 (0, 0)) := heap_alloc_new w3 _
    have HB4 : Hid (Below w3.heap.size w3 (w3.alloc (.cells cs' 37))) := bel1 w3 _
    generalize w3.alloc (.cells cs' 37) = W4 at r4 HB4 ⊢
    generalize hG : w3.heap.size = G4 at r4 ⊢
    clear hG
    have y0 : W4.cell? ⟨G4, 0, none⟩ = some (.int .i64 r) := row_cell r4 c0
    have y2 : W4.cell? ⟨G4, 2, none⟩ = some (.int .i64 (k : Int)) := row_cell r4 c2
    clear n1 z1 a1
    go_wp2_with (refine wpList_load_rowG rfl 37 _ rfl G4 rfl 37 cs' (0, 0) _ r4 Tryz.underlying37 rfl hi1 ?_)
    refine (KC.out _ HB4.out).mono ?_
    rintro e w5 ⟨rfl, hb⟩
    have HB5 : Hid (Below w.heap.size w w5) := bel2 HB3.out (bel2 HB4.out hb)
    clear hb KC r4 y0 y2 HB4
    go_wp2_with fail
    refine (KH.out _ HB5.out).mono ?_
    rintro e w6 ⟨rfl, hb⟩
    have HB6 : Hid (Below w.heap.size w w6) := bel2 HB5.out hb
    clear hb KH HB5
    go_wp2_with fail
    refine (KA.out _).mono ?_
    rintro e w7 ⟨rfl, hb⟩
    have HB7 : Hid (Below w.heap.size w w7) := bel2 HB6.out hb
    clear hb KA
    go_wp2_with fail
    go_ret
    exact ⟨rfl, HB7.out⟩
end Go.Proofs.YtakaglfeeipeiaaGreat
namespace Go.Proofs.YtakaglfeeipeiaaGreat.foldCan
open Go.ChangeShapes Go.WideShapes Go.ChangeAt Go.RowKit

theorem own : ownKnob Tryz.prog.godebug = none := by kernel_rfl
theorem laidOut : laidOutB Tryz.prog = true := by kernel_rfl

theorem oneS {v : Value} {a : Option Addr} {n c : Nat} (h : v.cells.toList = [.slice a n c]) (hv : ∃ a' n' c', v = .slice a' n' c') : v = .slice a n c := by
  obtain ⟨a', n', c', rfl⟩ := hv
  simp [Value.cells] at h
  obtain ⟨rfl, rfl, rfl⟩ := h
  rfl

set_option maxRecDepth 100000 in
theorem lifted (os : Go.Os) (started : os.Started) (H : Type) (enc : TypeId × Value → H) :
    ReturnsInHanded {} Tryz.checked os 3 .any (Rows.foldCanSpec.pre6 enc Tryz.prog Tryz.f3 Rows.foldCanRow.domain false) (Rows.foldCanSpec.post enc Tryz.prog Tryz.f3 false true false false) := by
  refine returnsInHanded_of_change_sized (C := Tryz.checked) own started (by kernel_rfl) Tryz.func3
    (ChangeSpec.witness6 (enc := enc) (C := Tryz.checked) false ⟨#[], #[.int .i64 0, .slice none 0 0], []⟩ 8 (by kernel_rfl) (by kernel_rfl) (by kernel_rfl) (by kernel_rfl)) ?_
  intro W base args ds gs before hval0 hW hcnd hsz0 _
  have hsz : (DataW.weightsEach Tryz.prog (Tryz.f3.params.toList ++ Rows.foldCanSpec.plain.varTypes Tryz.prog) (ds ++ gs)).all (· ≤ reachBytes) = true := hsz0
  have hval : ∀ (j : Nat) t v, Tryz.f3.params[j]? = some t → args[j]? = some v → Value.okWide Tryz.prog W .any base t v := hval0
  have hW' := hW
  obtain ⟨p, q, hA0, hV, rfl, hfz, hnd⟩ := hW
  have hA : DataW.TrodAll enc Tryz.prog W 0 (fun _ => true) true Tryz.f3.params.toList args.toList ds p := hA0
  rw [Tryz.params3] at hA hval hsz
  obtain ⟨v0, vs0, d0, ds0, p0, q0, hargs, rfl, rfl, h0, r0⟩ := trodAll_cons hA
  obtain ⟨v1, vs1, d1, ds1, p1, q1, rfl, rfl, rfl, h1, r1⟩ := trodAll_cons r0
  obtain ⟨rfl, rfl, rfl⟩ := trodAll_nil r1
  obtain rfl : args = #[v0, v1] := by cases args; simp_all
  obtain ⟨rfl, rfl⟩ := trodVars_none hV
  obtain ⟨y0, rfl⟩ := okWide_int Tryz.underlying3 (hval 0 3 v0 rfl rfl)
  have k0 := h0
  have lt0 : ∀ x ∈ p0, x.block < W.heap.size := by obtain ⟨m, hm⟩ := k0; exact DataW.trod_lt m _ _ _ hm
  have k1 := h1
  have lt1 : ∀ x ∈ p1, x.block < W.heap.size := by obtain ⟨m, hm⟩ := k1; exact DataW.trod_lt m _ _ _ hm
  obtain ⟨m1, hm1⟩ := h1
  obtain ⟨a1, c1, l1, N1, ce1, hc1, hl1, hh1⟩ := open_evs m1 _ _ hm1 (fun y hy => of_decide_eq_true (List.all_eq_true.1 hsz y (DataW.weights_mem_each (j := 1) rfl rfl y hy)))
  obtain rfl := oneS ce1 (okWide_slice Tryz.underlying22 (hval 1 22 v1 rfl rfl))
  clear hA0 hval0
  have key : Calls Tryz.prog 3 #[.int .i64 y0, .slice a1 l1.length c1] W fun e w' => e = .returned (.bool true) ∧ Below W.heap.size W w' := by
    by_cases hn : l1.length ≤ 150
    · exact can_walk N1 y0 a1 c1 l1.length l1 W rfl hn hl1 hh1
    · exact can_many y0 a1 l1.length c1 hn W
  refine key.mono fun e W' ⟨he, bel⟩ => ?_
  subst he
  exact ⟨_, rfl, _, _, _, [], _, [], hW', trodAll_mk1 (shut_bool Tryz.underlying4 _), (trodAll_cons_mk (Below.trod laidOut (by kernel_rfl) (of_decide_eq_true (by kernel_rfl)) k0 bel lt0) (trodAll_cons_mk (Below.trod laidOut (by kernel_rfl) (of_decide_eq_true (by kernel_rfl)) k1 bel lt1) trodAll_mk0)), rfl, bel.frame _, fun h => by cases h⟩

theorem over : Rows.foldCanRow.holds Tryz.pinned (OpenSpec.ofChange Rows.foldCanSpec) :=
  OpenClaim.holds_of_wide 3 Tryz.f3 rfl rfl rfl rfl rfl rfl rfl ⟨rfl, rfl, rfl, rfl, rfl⟩ rfl rfl rfl rfl rfl (by kernel_rfl) Tryz.func3 (by kernel_rfl)
    (of_decide_eq_true (by kernel_rfl)) (by unfold Func.isWrapper; first | (rw [if_pos (by decide +kernel)]; kernel_rfl) | (rw [if_neg (by decide +kernel)]; exact ⟨rfl, rfl⟩))
    (fun os started H enc _ => lifted os started H enc)

theorem proved : Rows.FoldCanSaid := over
end Go.Proofs.YtakaglfeeipeiaaGreat.foldCan

namespace Go.Proofs.YtakaglfeeipeiaaGreat
theorem foldCan_holds : Rows.FoldCanSaid := foldCan.proved
end Go.Proofs.YtakaglfeeipeiaaGreat
