/- The contracts of slices.Equal over numbers and of Same. -/
import Derived.Test.YtimiklekajelfaaSC
import Derived.Test.YtimiklekajelfaaPE
import Derived.Deep.QuietTactic
namespace Go.Proofs.Ytimiklekajelfaa
open Go.ChangeShapes Go.WideShapes Go.ChangeAt Go.RowKit
set_option maxHeartbeats 1000000 in
theorem ieq_calls (P P2 : Nat → Prop) (v v2 : Value) (zs zs2 : List Int) (w : World) (h : HL ei P w v zs) (h2 : HL ei P2 w v2 zs2) :
    Calls Try.prog 37 #[v, v2] w fun e w' => e = .returned (.bool (decide (zs = zs2))) ∧ Below w.heap.size w w' := by
  obtain ⟨a, c, rfl, hc, hm, k⟩ := h
  obtain ⟨a2, c2, rfl, hc2, hm2, k2⟩ := h2
  have HU : Hid (∀ (i : Nat) z, zs[i]? = some z → ∃ B o, a = some ⟨B, o, none⟩ ∧ w.cell? ⟨B, o + i, none⟩ = some (.int .i64 z)) := fun i z hz => by obtain ⟨B, o, h1, _, h2⟩ := k i z hz; exact ⟨B, o, h1, h2⟩
  have HU2 : Hid (∀ (i : Nat) z, zs2[i]? = some z → ∃ B o, a2 = some ⟨B, o, none⟩ ∧ w.cell? ⟨B, o + i, none⟩ = some (.int .i64 z)) := fun i z hz => by obtain ⟨B, o, h1, _, h2⟩ := k2 i z hz; exact ⟨B, o, h1, h2⟩
  clear k k2 hc2 hm2
  obtain ⟨n, hn⟩ : ∃ n, n = zs.length := ⟨_, rfl⟩
  obtain ⟨m, hmm⟩ : ∃ m, m = zs2.length := ⟨_, rfl⟩
  rw [← hn] at hc ⊢
  rw [← hmm]
  by_cases hl : n = m
  · subst hl
    have HN : Hid (zs.length = n ∧ zs2.length = n ∧ n ≤ 9223372036854775807) := ⟨hn.symm, hmm.symm, by omega⟩
    have dl : ((n : Int) != (n : Int)) = false := by simp
    clear hn hmm hc hm
    go_enter Try.func37, Try.ntmps37
    go_wp2_with fail
    go_loopw [5, 13] (fun _ i wr => ∃ j : Nat, j ≤ n ∧ i = .int .i64 (j : Int) ∧ Hid (zs.take j = zs2.take j) ∧ Hid (Below w.heap.size w wr)) (fun _ i _ => n - (intOf i).toNat)
    case atStart => exact ⟨0, Nat.zero_le _, rfl, rfl, Below.refl _ _⟩
    case round =>
      obtain ⟨j, hj, rfl, HE, HB⟩ := hrel
      by_cases hlt : j < n
      · have hjl : (j : Int) < (n : Int) := by omega
        obtain ⟨z, hzj⟩ : ∃ z, zs[j]? = some z := ⟨_, List.getElem?_eq_getElem (by have := HN.out; omega)⟩
        obtain ⟨y, hyj⟩ : ∃ y, zs2[j]? = some y := ⟨_, List.getElem?_eq_getElem (by have := HN.out; omega)⟩
        obtain ⟨B, o, rfl, hc0⟩ := HU.out j z hzj
        obtain ⟨B', o', rfl, hd0⟩ := HU2.out j y hyj
        have hc := Lib.Below.cellOf HB.out hc0 (Nat.le_refl _)
        have hd := Lib.Below.cellOf HB.out hd0 (Nat.le_refl _)
        have HW : Hid (wrap64 ((j : Int) + 1) = ((j + 1 : Nat) : Int)) := wr1 hlt HN.out.2.2
        have HT1 : Hid (zs.take (j + 1) = zs.take j ++ [z]) := by show _ = _; rw [List.take_add_one, hzj]; rfl
        have HT2 : Hid (zs2.take (j + 1) = zs2.take j ++ [y]) := by show _ = _; rw [List.take_add_one, hyj]; rfl
        clear hc0 hd0 hj hzj hyj
        by_cases hzy : z = y
        · have dz : (z != y) = false := by simp [hzy]
          have HT : Hid (zs.take (j + 1) = zs2.take (j + 1)) := by show _ = _; rw [HT1.out, HT2.out, HE.out, hzy]
          clear hzy
          go_wp2_with fail
          go_quiet (fail)
          go_wp2_with fail
          exact ⟨⟨j + 1, hlt, by rw [HW.out], HT, HB.out.trans ((belN wr _).mono HB.out.size)⟩, meas hlt HW.out⟩
        · have dz : (z != y) = true := by simpa using hzy
          have HT : Hid (zs ≠ zs2) := fun e => by
            have h1 := HT1.out
            rw [e, HT2.out, ← HE.out] at h1
            have h2 := List.append_cancel_left h1
            simp at h2
            exact hzy h2.symm
          clear hzy
          go_wp2_with fail
          go_quiet (fail)
          go_wp2_with fail
          go_ret
          exact ⟨by rw [decide_eq_false HT.out]; rfl, HB.out.trans ((belN wr _).mono HB.out.size)⟩
      · obtain rfl : j = n := by omega
        have HT : Hid (zs = zs2) := by
          show _ = _
          have h := HE.out
          rwa [List.take_of_length_le (by have := HN.out; omega), List.take_of_length_le (by have := HN.out; omega)] at h
        go_wp2_with fail
        go_ret
        exact ⟨by rw [decide_eq_true HT.out]; rfl, HB.out⟩
  · have dl : ((n : Int) != (m : Int)) = true := by simp; omega
    have HT : Hid (zs ≠ zs2) := fun e => by rw [e] at hn; omega
    clear hn hmm hl hc hm
    go_enter Try.func37, Try.ntmps37
    go_wp2_with fail
    go_ret
    exact ⟨by rw [decide_eq_false HT.out]; rfl, Below.refl _ _⟩
def sameB (x y : Sp) : Bool := (x.k == y.k) && (x.s == y.s) && (x.n == y.n) && (x.b == y.b) && decide (x.ks = y.ks)
theorem sameB_refl (x : Sp) : sameB x x = true := by simp [sameB]
set_option maxHeartbeats 1000000 in
set_option maxRecDepth 100000 in
theorem same_calls (P P2 : Nat → Prop) (x y : Sp) (vb vk vb' vk' : Value) (w : World) (h : IsV P w vb vk x) (h2 : IsV P2 w vb' vk' y) :
    Calls Try.prog 18 #[.agg (rowS vb vk x), .agg (rowS vb' vk' y)] w fun e w' => e = .returned (.bool (sameB x y)) ∧ Below w.heap.size w w' := by
  obtain ⟨pb, cb, rfl, _⟩ := h.1.shape
  obtain ⟨pk, ck, rfl, _⟩ := h.2.shape
  obtain ⟨pb', cb', rfl, _⟩ := h2.1.shape
  obtain ⟨pk', ck', rfl, _⟩ := h2.2.shape
  obtain ⟨k, s, n, b, ks⟩ := x
  obtain ⟨k', s', n', b', ks'⟩ := y
  unfold rowS sameB
  dsimp only
  have e1 : Hid (At5 ((w.alloc (.cells #[.int .i64 k, .int .i64 s, .int .i64 n, .slice pb b.length cb, .slice pk ks.length ck] 28)).alloc (.cells #[.int .i64 k', .int .i64 s', .int .i64 n', .slice pb' b'.length cb', .slice pk' ks'.length ck'] 28)) w.heap.size 0 (.int .i64 k) (.int .i64 s) (.int .i64 n) (.slice pb b.length cb) (.slice pk ks.length ck)) := (box_at w _ _ _ _ _).below (bel1 _ _)
  have e2 : Hid (At5 ((w.alloc (.cells #[.int .i64 k, .int .i64 s, .int .i64 n, .slice pb b.length cb, .slice pk ks.length ck] 28)).alloc (.cells #[.int .i64 k', .int .i64 s', .int .i64 n', .slice pb' b'.length cb', .slice pk' ks'.length ck'] 28)) (w.heap.size + 1) 0 (.int .i64 k') (.int .i64 s') (.int .i64 n') (.slice pb' b'.length cb') (.slice pk' ks'.length ck')) := box_at' _ _ (by simp) _ _ _ _ _
  have HB0 : Hid (Below w.heap.size w ((w.alloc (.cells #[.int .i64 k, .int .i64 s, .int .i64 n, .slice pb b.length cb, .slice pk ks.length ck] 28)).alloc (.cells #[.int .i64 k', .int .i64 s', .int .i64 n', .slice pb' b'.length cb', .slice pk' ks'.length ck'] 28))) := bel2 (bel1 w _) (bel1 _ _)
  have BC : Hid (Calls Try.prog 11 #[.slice pb b.length cb, .slice pb' b'.length cb'] ((w.alloc (.cells #[.int .i64 k, .int .i64 s, .int .i64 n, .slice pb b.length cb, .slice pk ks.length ck] 28)).alloc (.cells #[.int .i64 k', .int .i64 s', .int .i64 n', .slice pb' b'.length cb', .slice pk' ks'.length ck'] 28)) fun e w' => e = .returned (.bool (b == b')) ∧ w' = _) := equal_calls _ _ b b' _ (h.below HB0.out).1.bytes (h2.below HB0.out).1.bytes
  have KC : Hid (Calls Try.prog 37 #[.slice pk ks.length ck, .slice pk' ks'.length ck'] ((w.alloc (.cells #[.int .i64 k, .int .i64 s, .int .i64 n, .slice pb b.length cb, .slice pk ks.length ck] 28)).alloc (.cells #[.int .i64 k', .int .i64 s', .int .i64 n', .slice pb' b'.length cb', .slice pk' ks'.length ck'] 28)) fun e w' => e = .returned (.bool (decide (ks = ks'))) ∧ Below _ _ w') := ieq_calls P P2 _ _ ks ks' _ (h.below HB0.out).2 (h2.below HB0.out).2
  obtain ⟨a0, a1, a2, a3, a4⟩ := e1.out
  obtain ⟨c0, c1, c2, c3, c4⟩ := e2.out
  generalize hr1 : (k == k') = r1
  generalize hr2 : (s == s') = r2
  generalize hr3 : (n == n') = r3
  generalize (b == b') = r4 at BC ⊢
  generalize decide (ks = ks') = r5 at KC ⊢
  clear h h2 e1 e2
  cases r1 with
  | false =>
    go_enter Try.func18, Try.ntmps18
    go_wp2_with fail
    go_ret
    exact ⟨rfl, HB0.out⟩
  | true =>
  cases r2 with
  | false =>
    go_enter Try.func18, Try.ntmps18
    go_wp2_with fail
    go_ret
    exact ⟨rfl, HB0.out⟩
  | true =>
  cases r3 with
  | false =>
    go_enter Try.func18, Try.ntmps18
    go_wp2_with fail
    go_ret
    exact ⟨rfl, HB0.out⟩
  | true =>
  cases r4 with
  | false =>
    go_enter Try.func18, Try.ntmps18
    go_wp2_with fail
    refine BC.out.mono ?_
    rintro e w1 ⟨rfl, hw1⟩
    rw [hw1]
    clear hw1 BC
    go_wp2_with fail
    go_ret
    exact ⟨rfl, HB0.out⟩
  | true =>
    go_enter Try.func18, Try.ntmps18
    go_wp2_with fail
    refine BC.out.mono ?_
    rintro e w1 ⟨rfl, hw1⟩
    rw [hw1]
    clear hw1 BC
    go_wp2_with fail
    refine KC.out.mono ?_
    rintro e w2 ⟨rfl, hb2⟩
    have HB2 : Hid (Below w.heap.size w w2) := bel2 HB0.out hb2
    clear hb2 KC
    go_wp2_with fail
    go_ret
    exact ⟨by simp, HB2.out⟩
end Go.Proofs.Ytimiklekajelfaa
