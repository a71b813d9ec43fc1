/- The contract of End. -/
import Derived.Test.YthakbkkopneilaaDoorCE
namespace Go.Proofs.YthakbkkopneilaaDoor
open Go.ChangeShapes Go.WideShapes Go.ChangeAt Go.RowKit
/-- What the last place that the list has tells: among the first j. -/
def enF (l : List Sg) (zs : List Int) : Nat → Int × Int
  | 0 => (0, 0)
  | j + 1 => match zs[j]? with
    | none => enF l zs j
    | some z => if 0 ≤ z then (match l[z.toNat]? with
      | some s => (s.n, (bh s.f s.rn).1)
      | none => enF l zs j) else enF l zs j
theorem enF_neg {l : List Sg} {zs : List Int} {j : Nat} {z : Int} (h : zs[j]? = some z) (hz : ¬ 0 ≤ z) : enF l zs (j + 1) = enF l zs j := by simp only [enF, h, if_neg hz]
theorem enF_far {l : List Sg} {zs : List Int} {j : Nat} {z : Int} (h : zs[j]? = some z) (hz : 0 ≤ z) (hl : ¬ z < (l.length : Int)) : enF l zs (j + 1) = enF l zs j := by
  simp only [enF, h, if_pos hz]
  rw [List.getElem?_eq_none (by omega)]
theorem enF_at {l : List Sg} {zs : List Int} {j : Nat} {z : Int} {s : Sg} (h : zs[j]? = some z) (hz : 0 ≤ z) (hs : l[z.toNat]? = some s) : enF l zs (j + 1) = (s.n, (bh s.f s.rn).1) := by simp only [enF, h, if_pos hz, hs]
def SgFit (s : Sg) : Prop := s.rn ≤ 9223372036854775807 ∧ -9223372036854775808 ≤ s.f ∧ s.f ≤ 9223372036854775807
set_option maxHeartbeats 2000000 in
set_option maxRecDepth 100000 in
theorem end_calls (v u : Value) (l : List Sg) (zs : List Int) (w : World) (hv : Sr w v l) (hu : Ir w u zs) (hl : l.length ≤ 1000000000) (hz : zs.length ≤ 1000000000) (hf : ∀ (i : Nat) s, l[i]? = some s → SgFit s) :
    Calls Tryd.prog 21 #[v, u] w fun e w' => e = .returned (.tuple #[.int .i64 (enF l zs zs.length).1, .int .i64 (enF l zs zs.length).2]) ∧ Below w.heap.size w w' := by
  obtain ⟨a, c, rfl, h⟩ := hv
  obtain ⟨b, d, rfl, k⟩ := hu
  have HV : Hid (∀ (i : Nat) t, l[i]? = some t → ∃ B o, a = some ⟨B, o, none⟩ ∧ SgAt w B (o + i * 7) t) := h
  have HU : Hid (∀ (i : Nat) z, zs[i]? = some z → ∃ B o, b = some ⟨B, o, none⟩ ∧ w.cell? ⟨B, o + i, none⟩ = some (.int .i64 z)) := k
  have HL : Hid (l.length ≤ 1000000000 ∧ zs.length ≤ 1000000000) := ⟨hl, hz⟩
  have HF : Hid (∀ (i : Nat) s, l[i]? = some s → SgFit s) := hf
  have hzb : (zs.length : Int) ≤ 1000000000 := by omega
  have hlb : (l.length : Int) ≤ 1000000000 := by omega
  clear h k hl hz hf
  go_enter Tryd.func21, Tryd.ntmps21
  go_wp2_with fail
  go_loopw [6] (fun i wr => ∃ j : Nat, j ≤ zs.length ∧ i = .int .i64 ((j : Int) - 1) ∧ Hid (enF l zs zs.length = enF l zs j) ∧ wr = w) (fun i _ => (intOf i + 1).toNat)
  case atStart => exact ⟨zs.length, Nat.le_refl _, rfl, rfl, rfl⟩
  case round =>
    obtain ⟨j, hj, rfl, HE, rfl⟩ := hrel
    cases j with
    | zero =>
      go_wp2_with fail
      go_ret2
      rw [HE.out]
      exact ⟨rfl, Below.refl _ _⟩
    | succ j =>
      have e : (((j + 1 : Nat) : Int) - 1) = (j : Int) := by omega
      rw [e]
      have hjl : (j : Int) < (zs.length : Int) := by omega
      obtain ⟨z, hzj⟩ : ∃ z, zs[j]? = some z := ⟨_, List.getElem?_eq_getElem (by omega)⟩
      obtain ⟨B, o, rfl, hc⟩ := HU.out j z hzj
      have fin : ∀ {j : Nat}, (intOf (.int .i64 ((j : Int) - 1)) + 1).toNat < (intOf (.int .i64 (j : Int)) + 1).toNat := by intro j; simp only [intOf]; omega
      have FIN : Hid (∀ {j : Nat}, (intOf (.int .i64 ((j : Int) - 1)) + 1).toNat < (intOf (.int .i64 (j : Int)) + 1).toNat) := fin
      clear fin
      by_cases h0 : 0 ≤ z
      · by_cases h1 : z < (l.length : Int)
        · obtain ⟨m, rfl⟩ : ∃ m : Nat, z = (m : Int) := ⟨z.toNat, by omega⟩
          have hml : m < l.length := by omega
          obtain ⟨s, hs⟩ : ∃ s, l[m]? = some s := ⟨_, List.getElem?_eq_getElem hml⟩
          have HN : Hid (enF l zs (j + 1) = (s.n, (bh s.f s.rn).1)) := enF_at hzj h0 (by simpa using hs)
          obtain ⟨B', o', rfl, hat⟩ := HV.out m s hs
          obtain ⟨c0, c1, c2, ⟨ra, rc, c4⟩, c6⟩ := hat
          have ff := HF.out m s hs
          have BC : Hid (Calls Tryd.prog 42 #[.pointer (some ⟨B', o' + m * 7, none⟩)] wr _) := behind_calls B' (o' + m * 7) s.f ra s.rn rc wr c1 c4 ff.1 ff.2.1 ff.2.2
          have HC : Hid (∀ W, Below wr.heap.size wr W → W.cell? ⟨B', o' + m * 7, none⟩ = some (.int .i64 s.n)) := fun W hW => cell_below c0 hW
          clear hzj hs c1 c2 c4 c6 ff h0
          go_wp2_with fail
          refine BC.out.mono ?_
          rintro e w1 ⟨rfl, hb⟩
          have q := HC.out w1 hb
          have HB : Hid (Below wr.heap.size wr w1) := hb
          clear hb
          go_wp2_with fail
          go_ret2
          rw [HE.out, HN.out]
          exact ⟨rfl, HB.out⟩
        · have d0 : decide (0 ≤ z) = true := decide_eq_true h0
          have d1 : decide (z < (l.length : Int)) = false := decide_eq_false h1
          have HN : Hid (enF l zs (j + 1) = enF l zs j) := enF_far hzj h0 h1
          clear hzj h0 h1
          go_wp2_with fail
          exact ⟨⟨j, by omega, rfl, HE.out.trans HN.out, trivial⟩, FIN.out⟩
      · have d0 : decide (0 ≤ z) = false := decide_eq_false h0
        have HN : Hid (enF l zs (j + 1) = enF l zs j) := enF_neg hzj h0
        clear hzj h0
        go_wp2_with fail
        exact ⟨⟨j, by omega, rfl, HE.out.trans HN.out, trivial⟩, FIN.out⟩
end Go.Proofs.YthakbkkopneilaaDoor
