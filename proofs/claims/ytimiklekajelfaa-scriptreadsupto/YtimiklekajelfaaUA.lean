/- The contract of the reference's may. -/
import Derived.Test.YtimiklekajelfaaSS
import Derived.Deep.QuietTactic
namespace Go.Proofs.Ytimiklekajelfaa
open Go.ChangeShapes Go.WideShapes Go.ChangeAt Go.RowKit
theorem may_no {x : Sp} (h : ¬ MayF x) : mayB x = false := by
  cases e : mayB x with
  | false => rfl
  | true => exact absurd (may_of e) h
theorem upTo_mk {n m : Int} (h0 : 0 ≤ n) (hm : n ≤ m) : upTo n m = true := by
  unfold upTo
  simp only [Bool.and_eq_true, decide_eq_true_eq]
  exact ⟨h0, hm⟩
theorem may_s {x : Sp} (m : MayF x) : 0 ≤ x.s ∧ x.s ≤ 255 := ⟨(upTo_of m.s).1, Int.le_trans (upTo_of m.s).2 (mst_le (by decide))⟩
theorem may_n {x : Sp} (m : MayF x) : 0 ≤ x.n ∧ x.n ≤ 1099511627776 := ⟨(upTo_of m.n).1, Int.le_trans (upTo_of m.n).2 (mst_le (by decide))⟩
theorem may_b {x : Sp} (m : MayF x) : (x.b.length : Int) ≤ 16384 := Int.le_trans m.b (mst_le (by decide))
theorem may_l {x : Sp} (m : MayF x) : (x.ks.length : Int) ≤ 64 := Int.le_trans m.l (mst_le (by decide))
theorem may_z {x : Sp} (m : MayF x) {z : Int} (hz : z ∈ x.ks) : 0 ≤ z ∧ z ≤ 1099511627776 := by
  have h := m.ks z hz
  unfold ovr at h
  exact upTo_of (by simpa using h)
theorem ovr_no {z : Int} (h0 : 0 ≤ z) (h1 : z ≤ 1099511627776) : ovr z = false := by unfold ovr; rw [upTo_mk h0 h1]; rfl
set_option maxHeartbeats 4000000 in
set_option maxRecDepth 100000 in
theorem rmay_calls (P : Nat → Prop) (x : Sp) (vb vk : Value) (w : World) (h : IsV P w vb vk x) :
    Calls Try.prog 29 #[.agg (rowS vb vk x)] w fun e w' => e = .returned (.bool (mayB x)) ∧ Below w.heap.size w w' := by
  obtain ⟨pb, cb, rfl, _⟩ := h.1.shape
  obtain ⟨pk, ck, rfl, _⟩ := h.2.shape
  obtain ⟨k, s, n, b, ks⟩ := x
  have HKS : Hid (∀ (i : Nat) z, ks[i]? = some z → ∃ B o, pk = some ⟨B, o, none⟩ ∧ w.cell? ⟨B, o + i, none⟩ = some (.int .i64 z)) := fun i z hz => by
    obtain ⟨p, c, e, _, _, hh⟩ := h.2
    cases e
    obtain ⟨B, o, e1, _, e2⟩ := hh i z hz
    exact ⟨B, o, e1, e2⟩
  clear h
  unfold rowS
  dsimp only
  have HB0 : Hid (Below w.heap.size w (w.alloc (.cells #[.int .i64 k, .int .i64 s, .int .i64 n, .slice pb b.length cb, .slice pk ks.length ck] 28))) := bel1 w _
  have A0 : Hid (At5 (w.alloc (.cells #[.int .i64 k, .int .i64 s, .int .i64 n, .slice pb b.length cb, .slice pk ks.length ck] 28)) w.heap.size 0 (.int .i64 k) (.int .i64 s) (.int .i64 n) (.slice pb b.length cb) (.slice pk ks.length ck)) := box_at w _ _ _ _ _
  obtain ⟨a0, a1, a2, a3, a4⟩ := A0.out
  have HMN : Hid (¬ MayF ⟨k, s, n, b, ks⟩ → mayB ⟨k, s, n, b, ks⟩ = false) := may_no
  obtain ⟨L, hL⟩ : ∃ L, L = b.length := ⟨_, rfl⟩
  obtain ⟨N, hN⟩ : ∃ N, N = ks.length := ⟨_, rfl⟩
  have HL : Hid (L = b.length) := hL
  have HN : Hid (N = ks.length) := hN
  rw [← hL, ← hN] at HB0 A0 a0 a1 a2 a3 a4 ⊢
  clear hL hN
  by_cases h0 : k < 1
  · have HM : Hid (mayB ⟨k, s, n, b, ks⟩ = false) := HMN.out fun m => by have := (fld_rng m.f0).1; dsimp only at this; omega
    go_enter Try.func29, Try.ntmps29
    go_wp2_with fail
    go_ret
    exact ⟨by rw [HM.out]; rfl, HB0.out⟩
  by_cases h1 : 8 < k
  · have HM : Hid (mayB ⟨k, s, n, b, ks⟩ = false) := HMN.out fun m => by have := (fld_rng m.f0).2; dsimp only at this; omega
    go_enter Try.func29, Try.ntmps29
    go_wp2_with fail
    go_ret
    exact ⟨by rw [HM.out]; rfl, HB0.out⟩
  by_cases h2 : s < 0
  · have HM : Hid (mayB ⟨k, s, n, b, ks⟩ = false) := HMN.out fun m => by have := (may_s m).1; dsimp only at this; omega
    go_enter Try.func29, Try.ntmps29
    go_wp2_with fail
    go_ret
    exact ⟨by rw [HM.out]; rfl, HB0.out⟩
  by_cases h3 : 255 < s
  · have HM : Hid (mayB ⟨k, s, n, b, ks⟩ = false) := HMN.out fun m => by have := (may_s m).2; dsimp only at this; omega
    go_enter Try.func29, Try.ntmps29
    go_wp2_with fail
    go_ret
    exact ⟨by rw [HM.out]; rfl, HB0.out⟩
  by_cases h4 : n < 0
  · have HM : Hid (mayB ⟨k, s, n, b, ks⟩ = false) := HMN.out fun m => by have := (may_n m).1; dsimp only at this; omega
    go_enter Try.func29, Try.ntmps29
    go_wp2_with fail
    go_ret
    exact ⟨by rw [HM.out]; rfl, HB0.out⟩
  by_cases h5 : 1099511627776 < n
  · have HM : Hid (mayB ⟨k, s, n, b, ks⟩ = false) := HMN.out fun m => by have := (may_n m).2; dsimp only at this; omega
    go_enter Try.func29, Try.ntmps29
    go_wp2_with fail
    go_ret
    exact ⟨by rw [HM.out]; rfl, HB0.out⟩
  by_cases h6 : (64 : Int) < (N : Int)
  · have HM : Hid (mayB ⟨k, s, n, b, ks⟩ = false) := HMN.out fun m => by have := may_l m; dsimp only at this; have := HN.out; omega
    go_enter Try.func29, Try.ntmps29
    go_wp2_with fail
    go_ret
    exact ⟨by rw [HM.out]; rfl, HB0.out⟩
  by_cases h7 : (16384 : Int) < (L : Int)
  · have HM : Hid (mayB ⟨k, s, n, b, ks⟩ = false) := HMN.out fun m => by have := may_b m; dsimp only at this; have := HL.out; omega
    go_enter Try.func29, Try.ntmps29
    go_wp2_with fail
    go_ret
    exact ⟨by rw [HM.out]; rfl, HB0.out⟩
  have HC : Hid (1 ≤ k ∧ k ≤ 8 ∧ 0 ≤ s ∧ s ≤ 255 ∧ 0 ≤ n ∧ n ≤ 1099511627776 ∧ N ≤ 64 ∧ L ≤ 16384) := ⟨by omega, by omega, by omega, by omega, by omega, by omega, by omega, by omega⟩
  have hNb : (N : Int) ≤ 64 := by omega
  go_enter Try.func29, Try.ntmps29
  go_wp2_with fail
  clear a0 a1 a2 a3 a4 h0 h1 h2 h3 h4 h5 h6 h7
  generalize w.alloc (.cells #[.int .i64 k, .int .i64 s, .int .i64 n, .slice pb L cb, .slice pk N ck] 28) = w2 at HB0 A0 ⊢
  go_loopw [4] (fun i wr => ∃ j : Nat, j ≤ N ∧ i = .int .i64 (j : Int) ∧ Hid (∀ z ∈ ks.take j, ovr z = false) ∧ Hid (Below w2.heap.size w2 wr)) (fun i _ => N - (intOf i).toNat)
  case atStart => exact ⟨0, Nat.zero_le _, rfl, fun z hz => by simp at hz, Below.refl _ _⟩
  case round =>
    obtain ⟨j, hj, rfl, HO, HB⟩ := hrel
    obtain ⟨a0, a1, a2, a3, a4⟩ := A0.out.below HB.out
    have HB9 : Hid (Below w.heap.size w wr) := HB0.out.trans (HB.out.mono HB0.out.size)
    by_cases hlt : j < N
    · have hjl : (j : Int) < (N : Int) := by omega
      obtain ⟨z, hzj⟩ : ∃ z, ks[j]? = some z := ⟨_, List.getElem?_eq_getElem (by have := HN.out; omega)⟩
      obtain ⟨B, o, rfl, hc0⟩ := HKS.out j z hzj
      have hc := Lib.Below.cellOf HB9.out hc0 (Nat.le_refl _)
      have HZ : Hid (z ∈ ks) := List.mem_of_getElem? hzj
      have HT1 : Hid (ks.take (j + 1) = ks.take j ++ [z]) := by show _ = _; rw [List.take_add_one, hzj]; rfl
      clear hc0 hj hzj
      by_cases hz0 : z < 0
      · have HM : Hid (mayB ⟨k, s, n, b, ks⟩ = false) := HMN.out fun m => by have := (may_z m HZ.out).1; omega
        go_wp2_with fail
        go_ret
        exact ⟨by rw [HM.out]; rfl, HB9.out⟩
      by_cases hz1 : 1099511627776 < z
      · have HM : Hid (mayB ⟨k, s, n, b, ks⟩ = false) := HMN.out fun m => by have := (may_z m HZ.out).2; omega
        go_wp2_with fail
        go_ret
        exact ⟨by rw [HM.out]; rfl, HB9.out⟩
      have HO2 : Hid (∀ y ∈ ks.take (j + 1), ovr y = false) := fun y hy => by
        rw [HT1.out] at hy
        rcases List.mem_append.1 hy with h | h
        · exact HO.out y h
        · rw [List.mem_singleton.1 h]; exact ovr_no (by omega) (by omega)
      go_wp2_with fail
      refine ⟨⟨j + 1, hlt, by rw [Int.natCast_add]; rfl, HO2, HB.out⟩, ?_⟩
      simp only [intOf]
      omega
    · obtain rfl : j = N := by omega
      have HKO : Hid (∀ z ∈ ks, ovr z = false) := fun z hz => HO.out z (by rw [HN.out, List.take_length]; exact hz)
      clear HO hj
      have hk8 : k = 1 ∨ k = 2 ∨ k = 3 ∨ k = 4 ∨ k = 5 ∨ k = 6 ∨ k = 7 ∨ k = 8 := by have := HC.out; omega
      rcases hk8 with rfl | rfl | rfl | rfl | rfl | rfl | rfl | rfl
      · skip
        by_cases qn : n = 0
        rotate_left 1
        · have HM : Hid (mayB ⟨1, s, n, b, ks⟩ = false) := HMN.out fun m => by have h1 := upTo_of m.n; have e : mst (fld 1) 8 1099511627776 = 0 := (by decide); dsimp only at h1; rw [e] at h1; omega
          have dq : (n != 0) = true := by simpa using qn
          go_wp2_with fail
          go_ret
          exact ⟨by rw [HM.out]; rfl, HB9.out⟩
        by_cases ql : j = 0
        rotate_left 1
        · have HM : Hid (mayB ⟨1, s, n, b, ks⟩ = false) := HMN.out fun m => by have h1 := m.l; have e : mst (fld 1) 16 64 = 0 := (by decide); dsimp only at h1; rw [e] at h1; have := HN.out; omega
          have dq : ((j : Int) == 0) = false := by simpa using ql
          go_wp2_with fail
          go_ret
          exact ⟨by rw [HM.out]; rfl, HB9.out⟩
        have HM : Hid (mayB ⟨1, s, n, b, ks⟩ = true) := may_mk ⟨(show fld 1 ≠ 0 by decide), (by have e : mst (fld 1) 2 255 = 255 := (by decide); dsimp only; rw [e]; have := HC.out; exact upTo_mk (by omega) (by omega)), (by have e : mst (fld 1) 4 16384 = 16384 := (by decide); dsimp only; rw [e]; have := HC.out; have := HL.out; omega), (by have e : mst (fld 1) 8 1099511627776 = 0 := (by decide); dsimp only; rw [e]; have := HC.out; exact upTo_mk (by omega) (by omega)), (by have e : mst (fld 1) 16 64 = 0 := (by decide); dsimp only; rw [e]; have := HC.out; have := HN.out; omega), HKO.out⟩
        have dn : (n != 0) = false := by simpa using qn
        have dl : ((j : Int) == 0) = true := by simpa using ql
        clear qn ql
        go_wp2_with fail
        go_ret
        exact ⟨by rw [HM.out]; rfl, HB9.out⟩
      · skip
        by_cases qb : L = 0
        rotate_left 1
        · have HM : Hid (mayB ⟨2, s, n, b, ks⟩ = false) := HMN.out fun m => by have h1 := m.b; have e : mst (fld 2) 4 16384 = 0 := (by decide); dsimp only at h1; rw [e] at h1; have := HL.out; omega
          have dq : (0 : Int) < (L : Int) := by omega
          go_wp2_with fail
          go_ret
          exact ⟨by rw [HM.out]; rfl, HB9.out⟩
        by_cases qn : n = 0
        rotate_left 1
        · have HM : Hid (mayB ⟨2, s, n, b, ks⟩ = false) := HMN.out fun m => by have h1 := upTo_of m.n; have e : mst (fld 2) 8 1099511627776 = 0 := (by decide); dsimp only at h1; rw [e] at h1; omega
          have dq : (n != 0) = true := by simpa using qn
          go_wp2_with fail
          go_ret
          exact ⟨by rw [HM.out]; rfl, HB9.out⟩
        by_cases ql : j = 0
        rotate_left 1
        · have HM : Hid (mayB ⟨2, s, n, b, ks⟩ = false) := HMN.out fun m => by have h1 := m.l; have e : mst (fld 2) 16 64 = 0 := (by decide); dsimp only at h1; rw [e] at h1; have := HN.out; omega
          have dq : ((j : Int) == 0) = false := by simpa using ql
          go_wp2_with fail
          go_ret
          exact ⟨by rw [HM.out]; rfl, HB9.out⟩
        have HM : Hid (mayB ⟨2, s, n, b, ks⟩ = true) := may_mk ⟨(show fld 2 ≠ 0 by decide), (by have e : mst (fld 2) 2 255 = 255 := (by decide); dsimp only; rw [e]; have := HC.out; exact upTo_mk (by omega) (by omega)), (by have e : mst (fld 2) 4 16384 = 0 := (by decide); dsimp only; rw [e]; have := HC.out; have := HL.out; omega), (by have e : mst (fld 2) 8 1099511627776 = 0 := (by decide); dsimp only; rw [e]; have := HC.out; exact upTo_mk (by omega) (by omega)), (by have e : mst (fld 2) 16 64 = 0 := (by decide); dsimp only; rw [e]; have := HC.out; have := HN.out; omega), HKO.out⟩
        have db : ¬ (0 : Int) < (L : Int) := by omega
        have dn : (n != 0) = false := by simpa using qn
        have dl : ((j : Int) == 0) = true := by simpa using ql
        clear qb qn ql
        go_wp2_with fail
        go_ret
        exact ⟨by rw [HM.out]; rfl, HB9.out⟩
      · skip
        by_cases qs : s = 0
        rotate_left 1
        · have HM : Hid (mayB ⟨3, s, n, b, ks⟩ = false) := HMN.out fun m => by have h1 := upTo_of m.s; have e : mst (fld 3) 2 255 = 0 := (by decide); dsimp only at h1; rw [e] at h1; omega
          have dq : (s != 0) = true := by simpa using qs
          go_wp2_with fail
          go_ret
          exact ⟨by rw [HM.out]; rfl, HB9.out⟩
        by_cases qb : L = 0
        rotate_left 1
        · have HM : Hid (mayB ⟨3, s, n, b, ks⟩ = false) := HMN.out fun m => by have h1 := m.b; have e : mst (fld 3) 4 16384 = 0 := (by decide); dsimp only at h1; rw [e] at h1; have := HL.out; omega
          have dq : (0 : Int) < (L : Int) := by omega
          go_wp2_with fail
          go_ret
          exact ⟨by rw [HM.out]; rfl, HB9.out⟩
        by_cases ql : j = 0
        rotate_left 1
        · have HM : Hid (mayB ⟨3, s, n, b, ks⟩ = false) := HMN.out fun m => by have h1 := m.l; have e : mst (fld 3) 16 64 = 0 := (by decide); dsimp only at h1; rw [e] at h1; have := HN.out; omega
          have dq : ((j : Int) == 0) = false := by simpa using ql
          go_wp2_with fail
          go_ret
          exact ⟨by rw [HM.out]; rfl, HB9.out⟩
        have HM : Hid (mayB ⟨3, s, n, b, ks⟩ = true) := may_mk ⟨(show fld 3 ≠ 0 by decide), (by have e : mst (fld 3) 2 255 = 0 := (by decide); dsimp only; rw [e]; have := HC.out; exact upTo_mk (by omega) (by omega)), (by have e : mst (fld 3) 4 16384 = 0 := (by decide); dsimp only; rw [e]; have := HC.out; have := HL.out; omega), (by have e : mst (fld 3) 8 1099511627776 = 1099511627776 := (by decide); dsimp only; rw [e]; have := HC.out; exact upTo_mk (by omega) (by omega)), (by have e : mst (fld 3) 16 64 = 0 := (by decide); dsimp only; rw [e]; have := HC.out; have := HN.out; omega), HKO.out⟩
        have ds : (s != 0) = false := by simpa using qs
        have db : ¬ (0 : Int) < (L : Int) := by omega
        have dl : ((j : Int) == 0) = true := by simpa using ql
        clear qs qb ql
        go_wp2_with fail
        go_ret
        exact ⟨by rw [HM.out]; rfl, HB9.out⟩
      · skip
        by_cases qs : s = 0
        rotate_left 1
        · have HM : Hid (mayB ⟨4, s, n, b, ks⟩ = false) := HMN.out fun m => by have h1 := upTo_of m.s; have e : mst (fld 4) 2 255 = 0 := (by decide); dsimp only at h1; rw [e] at h1; omega
          have dq : (s != 0) = true := by simpa using qs
          go_wp2_with fail
          go_ret
          exact ⟨by rw [HM.out]; rfl, HB9.out⟩
        by_cases qb : L = 0
        rotate_left 1
        · have HM : Hid (mayB ⟨4, s, n, b, ks⟩ = false) := HMN.out fun m => by have h1 := m.b; have e : mst (fld 4) 4 16384 = 0 := (by decide); dsimp only at h1; rw [e] at h1; have := HL.out; omega
          have dq : (0 : Int) < (L : Int) := by omega
          go_wp2_with fail
          go_ret
          exact ⟨by rw [HM.out]; rfl, HB9.out⟩
        by_cases qn : n = 0
        rotate_left 1
        · have HM : Hid (mayB ⟨4, s, n, b, ks⟩ = false) := HMN.out fun m => by have h1 := upTo_of m.n; have e : mst (fld 4) 8 1099511627776 = 0 := (by decide); dsimp only at h1; rw [e] at h1; omega
          have dq : (n != 0) = true := by simpa using qn
          go_wp2_with fail
          go_ret
          exact ⟨by rw [HM.out]; rfl, HB9.out⟩
        have HM : Hid (mayB ⟨4, s, n, b, ks⟩ = true) := may_mk ⟨(show fld 4 ≠ 0 by decide), (by have e : mst (fld 4) 2 255 = 0 := (by decide); dsimp only; rw [e]; have := HC.out; exact upTo_mk (by omega) (by omega)), (by have e : mst (fld 4) 4 16384 = 0 := (by decide); dsimp only; rw [e]; have := HC.out; have := HL.out; omega), (by have e : mst (fld 4) 8 1099511627776 = 0 := (by decide); dsimp only; rw [e]; have := HC.out; exact upTo_mk (by omega) (by omega)), (by have e : mst (fld 4) 16 64 = 64 := (by decide); dsimp only; rw [e]; have := HC.out; have := HN.out; omega), HKO.out⟩
        have ds : (s != 0) = false := by simpa using qs
        have db : ¬ (0 : Int) < (L : Int) := by omega
        have dn : (n != 0) = false := by simpa using qn
        clear qs qb qn
        go_wp2_with fail
        go_ret
        exact ⟨by rw [HM.out]; rfl, HB9.out⟩
      · skip
        by_cases qs : s = 0
        rotate_left 1
        · have HM : Hid (mayB ⟨5, s, n, b, ks⟩ = false) := HMN.out fun m => by have h1 := upTo_of m.s; have e : mst (fld 5) 2 255 = 0 := (by decide); dsimp only at h1; rw [e] at h1; omega
          have dq : (s != 0) = true := by simpa using qs
          go_wp2_with fail
          go_ret
          exact ⟨by rw [HM.out]; rfl, HB9.out⟩
        by_cases qb : L = 0
        rotate_left 1
        · have HM : Hid (mayB ⟨5, s, n, b, ks⟩ = false) := HMN.out fun m => by have h1 := m.b; have e : mst (fld 5) 4 16384 = 0 := (by decide); dsimp only at h1; rw [e] at h1; have := HL.out; omega
          have dq : (0 : Int) < (L : Int) := by omega
          go_wp2_with fail
          go_ret
          exact ⟨by rw [HM.out]; rfl, HB9.out⟩
        by_cases qn : n = 0
        rotate_left 1
        · have HM : Hid (mayB ⟨5, s, n, b, ks⟩ = false) := HMN.out fun m => by have h1 := upTo_of m.n; have e : mst (fld 5) 8 1099511627776 = 0 := (by decide); dsimp only at h1; rw [e] at h1; omega
          have dq : (n != 0) = true := by simpa using qn
          go_wp2_with fail
          go_ret
          exact ⟨by rw [HM.out]; rfl, HB9.out⟩
        by_cases ql : j = 0
        rotate_left 1
        · have HM : Hid (mayB ⟨5, s, n, b, ks⟩ = false) := HMN.out fun m => by have h1 := m.l; have e : mst (fld 5) 16 64 = 0 := (by decide); dsimp only at h1; rw [e] at h1; have := HN.out; omega
          have dq : ((j : Int) == 0) = false := by simpa using ql
          go_wp2_with fail
          go_ret
          exact ⟨by rw [HM.out]; rfl, HB9.out⟩
        have HM : Hid (mayB ⟨5, s, n, b, ks⟩ = true) := may_mk ⟨(show fld 5 ≠ 0 by decide), (by have e : mst (fld 5) 2 255 = 0 := (by decide); dsimp only; rw [e]; have := HC.out; exact upTo_mk (by omega) (by omega)), (by have e : mst (fld 5) 4 16384 = 0 := (by decide); dsimp only; rw [e]; have := HC.out; have := HL.out; omega), (by have e : mst (fld 5) 8 1099511627776 = 0 := (by decide); dsimp only; rw [e]; have := HC.out; exact upTo_mk (by omega) (by omega)), (by have e : mst (fld 5) 16 64 = 0 := (by decide); dsimp only; rw [e]; have := HC.out; have := HN.out; omega), HKO.out⟩
        have ds : (s != 0) = false := by simpa using qs
        have db : ¬ (0 : Int) < (L : Int) := by omega
        have dn : (n != 0) = false := by simpa using qn
        have dl : ((j : Int) == 0) = true := by simpa using ql
        clear qs qb qn ql
        go_wp2_with fail
        go_ret
        exact ⟨by rw [HM.out]; rfl, HB9.out⟩
      · skip
        by_cases qs : s = 0
        rotate_left 1
        · have HM : Hid (mayB ⟨6, s, n, b, ks⟩ = false) := HMN.out fun m => by have h1 := upTo_of m.s; have e : mst (fld 6) 2 255 = 0 := (by decide); dsimp only at h1; rw [e] at h1; omega
          have dq : (s != 0) = true := by simpa using qs
          go_wp2_with fail
          go_ret
          exact ⟨by rw [HM.out]; rfl, HB9.out⟩
        by_cases qb : L = 0
        rotate_left 1
        · have HM : Hid (mayB ⟨6, s, n, b, ks⟩ = false) := HMN.out fun m => by have h1 := m.b; have e : mst (fld 6) 4 16384 = 0 := (by decide); dsimp only at h1; rw [e] at h1; have := HL.out; omega
          have dq : (0 : Int) < (L : Int) := by omega
          go_wp2_with fail
          go_ret
          exact ⟨by rw [HM.out]; rfl, HB9.out⟩
        by_cases ql : j = 0
        rotate_left 1
        · have HM : Hid (mayB ⟨6, s, n, b, ks⟩ = false) := HMN.out fun m => by have h1 := m.l; have e : mst (fld 6) 16 64 = 0 := (by decide); dsimp only at h1; rw [e] at h1; have := HN.out; omega
          have dq : ((j : Int) == 0) = false := by simpa using ql
          go_wp2_with fail
          go_ret
          exact ⟨by rw [HM.out]; rfl, HB9.out⟩
        have HM : Hid (mayB ⟨6, s, n, b, ks⟩ = true) := may_mk ⟨(show fld 6 ≠ 0 by decide), (by have e : mst (fld 6) 2 255 = 0 := (by decide); dsimp only; rw [e]; have := HC.out; exact upTo_mk (by omega) (by omega)), (by have e : mst (fld 6) 4 16384 = 0 := (by decide); dsimp only; rw [e]; have := HC.out; have := HL.out; omega), (by have e : mst (fld 6) 8 1099511627776 = 1099511627776 := (by decide); dsimp only; rw [e]; have := HC.out; exact upTo_mk (by omega) (by omega)), (by have e : mst (fld 6) 16 64 = 0 := (by decide); dsimp only; rw [e]; have := HC.out; have := HN.out; omega), HKO.out⟩
        have ds : (s != 0) = false := by simpa using qs
        have db : ¬ (0 : Int) < (L : Int) := by omega
        have dl : ((j : Int) == 0) = true := by simpa using ql
        clear qs qb ql
        go_wp2_with fail
        go_ret
        exact ⟨by rw [HM.out]; rfl, HB9.out⟩
      · skip
        by_cases qs : s = 0
        rotate_left 1
        · have HM : Hid (mayB ⟨7, s, n, b, ks⟩ = false) := HMN.out fun m => by have h1 := upTo_of m.s; have e : mst (fld 7) 2 255 = 0 := (by decide); dsimp only at h1; rw [e] at h1; omega
          have dq : (s != 0) = true := by simpa using qs
          go_wp2_with fail
          go_ret
          exact ⟨by rw [HM.out]; rfl, HB9.out⟩
        by_cases qb : L = 0
        rotate_left 1
        · have HM : Hid (mayB ⟨7, s, n, b, ks⟩ = false) := HMN.out fun m => by have h1 := m.b; have e : mst (fld 7) 4 16384 = 0 := (by decide); dsimp only at h1; rw [e] at h1; have := HL.out; omega
          have dq : (0 : Int) < (L : Int) := by omega
          go_wp2_with fail
          go_ret
          exact ⟨by rw [HM.out]; rfl, HB9.out⟩
        by_cases qn : n = 0
        rotate_left 1
        · have HM : Hid (mayB ⟨7, s, n, b, ks⟩ = false) := HMN.out fun m => by have h1 := upTo_of m.n; have e : mst (fld 7) 8 1099511627776 = 0 := (by decide); dsimp only at h1; rw [e] at h1; omega
          have dq : (n != 0) = true := by simpa using qn
          go_wp2_with fail
          go_ret
          exact ⟨by rw [HM.out]; rfl, HB9.out⟩
        by_cases ql : j = 0
        rotate_left 1
        · have HM : Hid (mayB ⟨7, s, n, b, ks⟩ = false) := HMN.out fun m => by have h1 := m.l; have e : mst (fld 7) 16 64 = 0 := (by decide); dsimp only at h1; rw [e] at h1; have := HN.out; omega
          have dq : ((j : Int) == 0) = false := by simpa using ql
          go_wp2_with fail
          go_ret
          exact ⟨by rw [HM.out]; rfl, HB9.out⟩
        have HM : Hid (mayB ⟨7, s, n, b, ks⟩ = true) := may_mk ⟨(show fld 7 ≠ 0 by decide), (by have e : mst (fld 7) 2 255 = 0 := (by decide); dsimp only; rw [e]; have := HC.out; exact upTo_mk (by omega) (by omega)), (by have e : mst (fld 7) 4 16384 = 0 := (by decide); dsimp only; rw [e]; have := HC.out; have := HL.out; omega), (by have e : mst (fld 7) 8 1099511627776 = 0 := (by decide); dsimp only; rw [e]; have := HC.out; exact upTo_mk (by omega) (by omega)), (by have e : mst (fld 7) 16 64 = 0 := (by decide); dsimp only; rw [e]; have := HC.out; have := HN.out; omega), HKO.out⟩
        have ds : (s != 0) = false := by simpa using qs
        have db : ¬ (0 : Int) < (L : Int) := by omega
        have dn : (n != 0) = false := by simpa using qn
        have dl : ((j : Int) == 0) = true := by simpa using ql
        clear qs qb qn ql
        go_wp2_with fail
        go_ret
        exact ⟨by rw [HM.out]; rfl, HB9.out⟩
      · skip
        by_cases qs : s = 0
        rotate_left 1
        · have HM : Hid (mayB ⟨8, s, n, b, ks⟩ = false) := HMN.out fun m => by have h1 := upTo_of m.s; have e : mst (fld 8) 2 255 = 0 := (by decide); dsimp only at h1; rw [e] at h1; omega
          have dq : (s != 0) = true := by simpa using qs
          go_wp2_with fail
          go_ret
          exact ⟨by rw [HM.out]; rfl, HB9.out⟩
        by_cases qb : L = 0
        rotate_left 1
        · have HM : Hid (mayB ⟨8, s, n, b, ks⟩ = false) := HMN.out fun m => by have h1 := m.b; have e : mst (fld 8) 4 16384 = 0 := (by decide); dsimp only at h1; rw [e] at h1; have := HL.out; omega
          have dq : (0 : Int) < (L : Int) := by omega
          go_wp2_with fail
          go_ret
          exact ⟨by rw [HM.out]; rfl, HB9.out⟩
        by_cases ql : j = 0
        rotate_left 1
        · have HM : Hid (mayB ⟨8, s, n, b, ks⟩ = false) := HMN.out fun m => by have h1 := m.l; have e : mst (fld 8) 16 64 = 0 := (by decide); dsimp only at h1; rw [e] at h1; have := HN.out; omega
          have dq : ((j : Int) == 0) = false := by simpa using ql
          go_wp2_with fail
          go_ret
          exact ⟨by rw [HM.out]; rfl, HB9.out⟩
        have HM : Hid (mayB ⟨8, s, n, b, ks⟩ = true) := may_mk ⟨(show fld 8 ≠ 0 by decide), (by have e : mst (fld 8) 2 255 = 0 := (by decide); dsimp only; rw [e]; have := HC.out; exact upTo_mk (by omega) (by omega)), (by have e : mst (fld 8) 4 16384 = 0 := (by decide); dsimp only; rw [e]; have := HC.out; have := HL.out; omega), (by have e : mst (fld 8) 8 1099511627776 = 1099511627776 := (by decide); dsimp only; rw [e]; have := HC.out; exact upTo_mk (by omega) (by omega)), (by have e : mst (fld 8) 16 64 = 0 := (by decide); dsimp only; rw [e]; have := HC.out; have := HN.out; omega), HKO.out⟩
        have ds : (s != 0) = false := by simpa using qs
        have db : ¬ (0 : Int) < (L : Int) := by omega
        have dl : ((j : Int) == 0) = true := by simpa using ql
        clear qs qb ql
        go_wp2_with fail
        go_ret
        exact ⟨by rw [HM.out]; rfl, HB9.out⟩
end Go.Proofs.Ytimiklekajelfaa
