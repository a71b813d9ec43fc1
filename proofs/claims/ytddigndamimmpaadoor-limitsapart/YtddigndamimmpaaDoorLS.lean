/- limits: Sizes, few. -/
import Derived.Test.YtddigndamimmpaaDoorLC
namespace Go.Proofs.YtddigndamimmpaaDoor
open Go.ChangeShapes Go.WideShapes Go.ChangeAt Go.RowKit
theorem sum_take {zs : List Nat} {j z : Nat} (h : zs[j]? = some z) : (zs.take (j + 1)).sum = (zs.take j).sum + z := by
  have hj := (List.getElem?_eq_some_iff.1 h).1
  rw [List.take_add_one, h]
  simp
theorem sum_le {zs : List Nat} (j : Nat) : (zs.take j).sum ≤ zs.sum := by
  have h := congrArg List.sum (List.take_append_drop j zs)
  rw [List.sum_append] at h
  omega
theorem wrS {p z : Nat} (h : z ≤ p) (hp : p ≤ 60) : wrap64 ((p : Int) - (z : Int)) = ((p - z : Nat) : Int) := by unfold wrap64; omega
set_option maxHeartbeats 4000000 in
set_option maxRecDepth 100000 in
theorem sizes_calls (g n : Nat) (zs : List Nat) (hn : zs.length = n) (h10 : n ≤ 10) (w : World) (h : ∀ (i : Nat) z, zs[i]? = some z → w.cell? ⟨g, i, none⟩ = some (.int .i64 (z : Int))) : Calls Tryd.prog 12 #[.int .i64 60, .slice (some ⟨g, 0, none⟩) n n] w fun e w' => e = .returned (.bool (decide (zs.sum ≤ 60))) ∧ w' = w := by
  have HN : Hid (zs.length = n) := hn
  have H10 : Hid (n ≤ 10) := h10
  have HC : Hid (∀ (i : Nat) z, zs[i]? = some z → w.cell? ⟨g, i, none⟩ = some (.int .i64 (z : Int))) := h
  have HQ1 : Hid (zs.sum ≤ 60 → decide (zs.sum ≤ 60) = true) := fun h => decide_eq_true h
  have HQ0 : Hid (¬ zs.sum ≤ 60 → decide (zs.sum ≤ 60) = false) := fun h => decide_eq_false h
  generalize decide (zs.sum ≤ 60) = bb at HQ1 HQ0 ⊢
  clear hn h10 h
  go_enter Tryd.func12, Tryd.ntmps12
  go_wp2_with fail
  go_loopw [0, 6, 9] (fun m _ i wr => ∃ j p : Nat, j ≤ n ∧ i = .int .i64 (j : Int) ∧ m = .int .i64 (p : Int) ∧ wr = w ∧ Hid ((zs.take j).sum + p = 60)) (fun _ _ i _ => n - (intOf i).toNat)
  case atStart => exact ⟨0, 60, Nat.zero_le _, rfl, rfl, rfl, by show _ = _; simp⟩
  case round =>
    obtain ⟨j, p, hj, rfl, rfl, rfl, HS⟩ := hrel
    by_cases hlt : j < n
    · obtain ⟨z, hz⟩ : ∃ z, zs[j]? = some z := ⟨_, List.getElem?_eq_getElem (by have := HN.out; omega)⟩
      have x0 := HC.out j z hz
      have Hz : Hid (zs[j]? = some z) := hz
      have hjl : (j : Int) < (n : Int) := by omega
      have HW1 : Hid (wrap64 ((j : Int) + 1) = ((j + 1 : Nat) : Int)) := wr1 hlt (by have := H10.out; omega)
      by_cases hzp : z ≤ p
      · have HZ : Hid (z ≤ p) := hzp
        have d1 : decide ((p : Int) < (z : Int)) = false := decide_eq_false (by omega)
        have d2 : decide (p < z) = false := decide_eq_false (by omega)
        have HW2 : Hid (wrap64 ((p : Int) - (z : Int)) = ((p - z : Nat) : Int)) := wrS hzp (by have := HS.out; omega)
        clear hz hzp
        go_wp2_with fail
        exact ⟨⟨j + 1, p - z, hlt, by first | rw [HW1.out] | exact congrArg _ (Int.natCast_succ j).symm, by first | rw [HW2.out] | rfl, by first | trivial | rfl, by show _ = _; rw [sum_take Hz.out]; have := HS.out; have := HZ.out; omega⟩, by first | exact meas hlt HW1.out | exact meas hlt (Int.natCast_succ j).symm⟩
      · have d1 : decide ((p : Int) < (z : Int)) = true := decide_eq_true (by omega)
        have d2 : decide (p < z) = true := decide_eq_true (by omega)
        have HB : Hid (bb = false) := HQ0.out (fun hs => by have := sum_take hz; have := sum_le (zs := zs) (j + 1); have := HS.out; omega)
        clear hz hzp
        go_wp2_with fail
        go_ret
        exact ⟨by first | (simp [HB.out]; done) | exact HB.out | exact HB.out.symm, rfl⟩
    · obtain rfl : j = n := by omega
      have HB : Hid (bb = true) := HQ1.out (by have := HS.out; rw [← HN.out, List.take_length] at this; omega)
      go_wp2_with fail
      go_ret
      exact ⟨by first | (simp [HB.out]; done) | exact HB.out | exact HB.out.symm, rfl⟩
set_option maxHeartbeats 4000000 in
set_option maxRecDepth 100000 in
theorem few_calls (k : Int) (f q m : ByteArray) (vk vx vb : Int) (vs : ByteArray) (la : Option Addr) (ll lc : Nat) (ru nu wa pf : Int) (pc : Nat) (pm : Int) (ca : Option Addr) (cn cc : Nat) (aa : Option Addr) (an ac : Nat) (w : World) : Calls Tryd.prog 6 #[.agg #[.int .i64 k, .string f, .string q, .string m, .int .i64 vk, .int .i64 vx, .int .u64 vb, .string vs, .slice la ll lc, .int .i64 ru, .int .i64 nu, .int .i64 wa, .int .i64 pf, .int .u64 (pc : Int), .int .i64 pm, .slice ca cn cc, .slice aa an ac]] w fun e w' => e = .returned (.bool (decide (cn + an ≤ 60))) ∧ Below w.heap.size w w' := by
  have KS : Hid (∀ W g, (∀ (i : Nat) z, ([cn, an] : List Nat)[i]? = some z → W.cell? ⟨g, i, none⟩ = some (.int .i64 (z : Int))) → Calls Tryd.prog 12 #[.int .i64 60, .slice (some ⟨g, 0, none⟩) 2 2] W fun e w' => e = .returned (.bool (decide (cn + an ≤ 60))) ∧ w' = W) := fun W g hc => by
    have := sizes_calls g 2 [cn, an] rfl (by decide) W hc
    have e : ([cn, an] : List Nat).sum = cn + an := by simp
    rwa [e] at this
  generalize decide (cn + an ≤ 60) = bb at KS ⊢
  have HB : Hid (Below w.heap.size w (w.alloc (.cells #[.int .i64 k, .string f, .string q, .string m, .int .i64 vk, .int .i64 vx, .int .u64 vb, .string vs, .slice la ll lc, .int .i64 ru, .int .i64 nu, .int .i64 wa, .int .i64 pf, .int .u64 (pc : Int), .int .i64 pm, .slice ca cn cc, .slice aa an ac] 31))) := bel1 _ _
  have HX : Hid (AtR (w.alloc (.cells #[.int .i64 k, .string f, .string q, .string m, .int .i64 vk, .int .i64 vx, .int .u64 vb, .string vs, .slice la ll lc, .int .i64 ru, .int .i64 nu, .int .i64 wa, .int .i64 pf, .int .u64 (pc : Int), .int .i64 pm, .slice ca cn cc, .slice aa an ac] 31)) w.heap.size k f q m vk vx vb vs la ll lc ru nu wa pf pc pm ca cn cc aa an ac) := AtR.box w k f q m vk vx vb vs la ll lc ru nu wa pf pc pm ca cn cc aa an ac
  generalize hW0 : w.alloc (.cells #[.int .i64 k, .string f, .string q, .string m, .int .i64 vk, .int .i64 vx, .int .u64 vb, .string vs, .slice la ll lc, .int .i64 ru, .int .i64 nu, .int .i64 wa, .int .i64 pf, .int .u64 (pc : Int), .int .i64 pm, .slice ca cn cc, .slice aa an ac] 31) = W1 at HB HX
  have H0 : Hid (w.alloc (.cells #[.int .i64 k, .string f, .string q, .string m, .int .i64 vk, .int .i64 vx, .int .u64 vb, .string vs, .slice la ll lc, .int .i64 ru, .int .i64 nu, .int .i64 wa, .int .i64 pf, .int .u64 (pc : Int), .int .i64 pm, .slice ca cn cc, .slice aa an ac] 31) = W1) := hW0
  clear hW0
  go_enter Tryd.func6, Tryd.ntmps6
  go_upto_region 1 with fail
  rw [H0.out]
  clear H0
  obtain ⟨x0, x1, x2, x3, x4, x5, x6, x7, x8, x9, x10, x11, x12, x13, x14, x15, x16⟩ := HX.out
  clear x0 x1 x2 x3 x4 x5 x6 x7 x8 x9 x10 x11 x12 x13 x14 HX
  go_wp2_with fail
  refine Calls.mono (KS.out _ _ ?_) ?_
  · intro i z hi
    match i, hi with
    | 0, hi => cases hi; simp
    | 1, hi => cases hi; simp
    | i + 2, hi => simp at hi
  rintro e w1 ⟨rfl, rfl⟩
  go_wp2_with fail
  go_ret
  exact ⟨rfl, belA HB.out _⟩
end Go.Proofs.YtddigndamimmpaaDoor
