/- The contracts of the reference's End and of slices.Equal over ints. -/
import Derived.Test.YthakbkkopneilaaDoorCG
namespace Go.Proofs.YthakbkkopneilaaDoor
open Go.ChangeShapes Go.WideShapes Go.ChangeAt Go.RowKit
set_option maxHeartbeats 2000000 in
set_option maxRecDepth 100000 in
theorem rend_calls (v u : Value) (l : List Sg) (zs : List Int) (w : World) (hv : SrA w v l) (hu : Ir w u zs) (hl : l.length ≤ 1000000000) (hz : zs.length ≤ 1000000000) (hf : ∀ (i : Nat) s, l[i]? = some s → SgFit s) :
    Calls Tryd.prog 22 #[v, u] w fun e w' => e = .returned (.tuple #[.int .i64 (enF l zs zs.length).1, .int .i64 (enF l zs zs.length).2]) ∧ Below w.heap.size w w' := by
  obtain ⟨a, c, rfl, h⟩ := hv
  obtain ⟨b, d, rfl, k⟩ := hu
  have HV : Hid (∀ (i : Nat) t, l[i]? = some t → ∃ B o, a = some ⟨B, o, none⟩ ∧ SgAll w B (o + i * 7) t) := h
  have HU : Hid (∀ (i : Nat) z, zs[i]? = some z → ∃ B o, b = some ⟨B, o, none⟩ ∧ w.cell? ⟨B, o + i, none⟩ = some (.int .i64 z)) := k
  have HF : Hid (∀ (i : Nat) s, l[i]? = some s → SgFit s) := hf
  have hzb : (zs.length : Int) ≤ 1000000000 := by omega
  have hlb : (l.length : Int) ≤ 1000000000 := by omega
  clear h k hl hz hf
  go_enter Tryd.func22, Tryd.ntmps22
  go_wp2_with fail
  go_loopw [6, 7, 8] (fun p q i wr => ∃ j : Nat, j ≤ zs.length ∧ i = .int .i64 (j : Int) ∧ p = .int .i64 (enF l zs j).1 ∧ q = .int .i64 (enF l zs j).2 ∧ Hid (Below w.heap.size w wr)) (fun _ _ i _ => zs.length - (intOf i).toNat)
  case atStart => exact ⟨0, Nat.zero_le _, rfl, rfl, rfl, Below.refl _ _⟩
  case round =>
    obtain ⟨j, hj, rfl, rfl, rfl, HB⟩ := hrel
    by_cases hlt : j < zs.length
    · have hjl : (j : Int) < (zs.length : Int) := by omega
      obtain ⟨z, hzj⟩ : ∃ z, zs[j]? = some z := ⟨_, List.getElem?_eq_getElem hlt⟩
      obtain ⟨B, o, rfl, hc0⟩ := HU.out j z hzj
      have hc := cell_below hc0 HB.out
      clear hc0 hj
      by_cases h0 : 0 ≤ z
      · by_cases h1 : z < (l.length : Int)
        · obtain ⟨m, rfl⟩ : ∃ m : Nat, z = (m : Int) := ⟨z.toNat, by omega⟩
          have hml : m < l.length := by omega
          obtain ⟨s, hs⟩ : ∃ s, l[m]? = some s := ⟨_, List.getElem?_eq_getElem hml⟩
          have HN : Hid (enF l zs (j + 1) = (s.n, (bh s.f s.rn).1)) := enF_at hzj h0 (by simpa using hs)
          obtain ⟨B', o', rfl, hat⟩ := HV.out m s hs
          obtain ⟨⟨c0, c1, c2, ⟨ra, rc, c4⟩, c6⟩, ⟨xa, xn, xc, c3⟩, ⟨y, c5⟩⟩ := hat.below HB.out
          have ff := HF.out m s hs
          obtain ⟨sn, sf, sh, sr, st⟩ := s
          simp only at c0 c1 c2 c4 c6 HN
          obtain ⟨M, hM⟩ : ∃ M, max sf 0 = M := ⟨_, rfl⟩
          obtain ⟨D, hD⟩ : ∃ D, IntKind.i64.wrap (9223372036854775807 - M) = D := ⟨_, rfl⟩
          obtain ⟨K, hK⟩ : ∃ K, min (sr : Int) D = K := ⟨_, rfl⟩
          obtain ⟨R, hR⟩ : ∃ R, IntKind.i64.wrap (sf + K) = R := ⟨_, rfl⟩
          have HRR : Hid (R = (bh sf sr).1) := by
            show _ = _
            have f1 : sr ≤ 9223372036854775807 := ff.1
            have f2 : -9223372036854775808 ≤ sf := ff.2.1
            have f3 : sf ≤ 9223372036854775807 := ff.2.2
            rw [wrap_whole _ (by omega) (by omega)] at hD
            rw [wrap_whole _ (by omega) (by omega)] at hR
            rw [← lsn_eq sf sr f2 f3 f1, ← hR, ← hK, ← hD, ← hM]
          clear hzj hs ff hat h0
          go_wp2_with fail
          refine ⟨⟨j + 1, hlt, by rw [Int.natCast_add]; rfl, by rw [HN.out], by rw [HN.out, ← HRR.out], HB.out.alloc HB.out.size _⟩, ?_⟩
          simp only [intOf]
          omega
        · have d0 : decide (0 ≤ z) = true := decide_eq_true h0
          have d1 : decide (z < (l.length : Int)) = false := decide_eq_false h1
          have HN : Hid (enF l zs (j + 1) = enF l zs j) := enF_far hzj h0 h1
          clear hzj h0 h1
          go_wp2_with fail
          refine ⟨⟨j + 1, hlt, by rw [Int.natCast_add]; rfl, by rw [HN.out], by rw [HN.out], HB⟩, ?_⟩
          simp only [intOf]
          omega
      · have d0 : decide (0 ≤ z) = false := decide_eq_false h0
        have HN : Hid (enF l zs (j + 1) = enF l zs j) := enF_neg hzj h0
        clear hzj h0
        go_wp2_with fail
        refine ⟨⟨j + 1, hlt, by rw [Int.natCast_add]; rfl, by rw [HN.out], by rw [HN.out], HB⟩, ?_⟩
        simp only [intOf]
        omega
    · obtain rfl : j = zs.length := by omega
      go_wp2_with fail
      go_ret2
      exact ⟨rfl, HB.out⟩
set_option maxHeartbeats 1000000 in
theorem iequal_calls (v v2 : Value) (zs : List Int) (w : World) (h : Ir w v zs) (h2 : Ir w v2 zs) (hl : zs.length ≤ 1000000000) :
    Calls Tryd.prog 18 #[v, v2] w fun e w' => e = .returned (.bool true) ∧ Below w.heap.size w w' := by
  obtain ⟨a, c, rfl, k⟩ := h
  obtain ⟨a2, c2, rfl, k2⟩ := h2
  have HU : Hid (∀ (i : Nat) z, zs[i]? = some z → ∃ B o, a = some ⟨B, o, none⟩ ∧ w.cell? ⟨B, o + i, none⟩ = some (.int .i64 z)) := k
  have HU2 : Hid (∀ (i : Nat) z, zs[i]? = some z → ∃ B o, a2 = some ⟨B, o, none⟩ ∧ w.cell? ⟨B, o + i, none⟩ = some (.int .i64 z)) := k2
  have hzb : (zs.length : Int) ≤ 1000000000 := by omega
  have dl : ((zs.length : Int) != (zs.length : Int)) = false := by simp
  clear k k2 hl
  go_enter Tryd.func18, Tryd.ntmps18
  go_wp2_with fail
  go_loopw [13] (fun i wr => ∃ j : Nat, j ≤ zs.length ∧ i = .int .i64 (j : Int) ∧ Hid (Below w.heap.size w wr)) (fun i _ => zs.length - (intOf i).toNat)
  case atStart => exact ⟨0, Nat.zero_le _, rfl, Below.refl _ _⟩
  case round =>
    obtain ⟨j, hj, rfl, HB⟩ := hrel
    by_cases hlt : j < zs.length
    · have hjl : (j : Int) < (zs.length : Int) := by omega
      obtain ⟨z, hzj⟩ : ∃ z, zs[j]? = some z := ⟨_, List.getElem?_eq_getElem hlt⟩
      obtain ⟨B, o, rfl, hc0⟩ := HU.out j z hzj
      obtain ⟨B', o', rfl, hd0⟩ := HU2.out j z hzj
      have hc := cell_below hc0 HB.out
      have hd := cell_below hd0 HB.out
      have dz : (z != z) = false := by simp
      clear hc0 hd0 hj hzj
      go_wp2_with fail
      go_quiet (fail)
      go_wp2_with fail
      refine ⟨⟨j + 1, hlt, by rw [Int.natCast_add]; rfl, HB.out.trans ((belN wr _).mono HB.out.size)⟩, ?_⟩
      simp only [intOf]
      omega
    · obtain rfl : j = zs.length := by omega
      go_wp2_with fail
      go_ret
      exact ⟨rfl, HB.out⟩
end Go.Proofs.YthakbkkopneilaaDoor
