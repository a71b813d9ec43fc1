/- The contracts of Int, List of one value, Put, and of the statements' own awake. -/
import Derived.Test.YtjmonkhkcmcfiaaVH
namespace Go.Proofs.Ytjmonkhkcmcfiaa
open Go.ChangeShapes Go.WideShapes Go.ChangeAt Go.RowKit
/-- The whole number 1, and the list of it. -/
def one : Tv := .mk 1 1 0 ⟨#[]⟩ []
def ones : Tv := .mk 4 0 0 ⟨#[]⟩ [one]
theorem fit_one : Fit 1 1 0 ⟨#[]⟩ 0 0 := ⟨by decide, by decide, by decide, by decide, by decide, by decide, by decide, by decide, by decide⟩
theorem fit_ones (c : Nat) (h1 : 1 ≤ c) (h2 : c ≤ 500) : Fit 4 0 0 ⟨#[]⟩ 1 c := ⟨by decide, by decide, by decide, by decide, by decide, by decide, by decide, h1, by omega⟩
theorem small_one : Small 1 one := ⟨by decide, fun i t h => by simp at h⟩
theorem fits_one : Fits 1 1 0 ⟨#[]⟩ 0 := ⟨by decide, by decide, .inl rfl, .inr rfl, by decide +kernel, .inr (by decide +kernel), by decide, .inr rfl, by decide⟩
theorem fits_ones : Fits 4 0 0 ⟨#[]⟩ 1 := ⟨by decide, by decide, .inr rfl, .inr rfl, by decide +kernel, .inr (by decide +kernel), by decide, .inl rfl, by decide⟩
theorem shape_ones : ShapeT 2 4 ones := ⟨fits_ones, fun _ => by decide, fun i t h => by
  match i, h with
  | 0, h => cases h; exact ⟨fits_one, fun h => absurd h (by decide), fun i t h => by simp at h⟩⟩
theorem bytes_ones : bytesT 2 ones = [4, 1, 1, 128, 0, 0, 0, 0, 0, 0, 1] := by decide +kernel
set_option maxHeartbeats 2000000 in
theorem put_calls (n : Nat) (v : Value) (t : Tv) (b : Value) (l : List UInt8) (w : World) (h : Is w n v t) (hv : Lib.HoldsBytes w b l) (hl : l.length ≤ 140737488355328) :
    Calls Try.prog 73 #[b, v] w fun e w' => ∃ v', e = .returned v' ∧ (ShapeT n 4 t ∧ (bytesT n t).length ≤ 1000 → Lib.HoldsBytes w' v' (l ++ bytesT n t)) ∧ (¬ (ShapeT n 4 t ∧ (bytesT n t).length ≤ 1000) → Lib.HoldsBytes w' v' l) ∧ Below w.heap.size w w' := by
  have CW := fun W (hB : Below w.heap.size w W) => write_calls n v t w W 4 [] (.slice none 0 0) h hB (World.ownsRow_nil _ _ _ _) (by omega) (by simp)
  obtain ⟨k', x', b', s', a', m', c', rfl⟩ : ∃ k x b s a m c, v = .agg #[.int .i64 k, .int .i64 x, .int .u64 b, .string s, .slice a m c] := by
    cases n with
    | zero => exact h.elim
    | succ n => obtain ⟨k, x, b, s, l⟩ := t; obtain ⟨a, c, rfl, _⟩ := h; exact ⟨_, _, _, _, _, _, _, rfl⟩
  have HV : Hid (Lib.HoldsBytes w b l) := hv
  have HLl : Hid (l.length ≤ 140737488355328) := hl
  simp only [List.nil_append] at CW
  clear h hv hl
  go_enter Try.func73, Try.ntmps73
  go_wp2_with fail
  refine Calls.mono (CW _ (bel1 _ _)) ?_
  rintro e w1 ⟨o1, r1, rfl, hr1, ho1, hn1, hb1⟩
  have HB1 : Hid (Below w.heap.size w w1) := hb1
  have HV1 : Hid (Lib.HoldsBytes w1 b l) := holds_below HV.out hb1
  obtain ⟨m, hm1, hm2, hm3, hm4⟩ : ∃ m : List UInt8, Lib.HoldsBytes w1 o1 m ∧ (ShapeT n 4 t ∧ (bytesT n t).length ≤ 1000 → m = bytesT n t) ∧ (¬ (ShapeT n 4 t ∧ (bytesT n t).length ≤ 1000) → m = []) ∧ m.length ≤ 1000 := by
    cases r1 with
    | false =>
      have := hn1 rfl
      subst this
      exact ⟨[], holds_nil w1, (fun h => absurd (hr1.2 h) (by decide)), (fun _ => rfl), by simp⟩
    | true => exact ⟨_, own_holds (ho1 rfl), (fun _ => rfl), (fun h => absurd (hr1.1 rfl) h), (hr1.1 rfl).2⟩
  have HM1 : Hid (Lib.HoldsBytes w1 o1 m) := hm1
  have HM2 : Hid (_ → m = bytesT n t) := hm2
  have HM3 : Hid (_ → m = []) := hm3
  have HM4 : Hid (m.length ≤ 1000) := hm4
  clear hr1 ho1 hn1 hb1 hm1 hm2 hm3 hm4 CW HV
  have PT : Hid (Lib.PartsAt (w1.alloc (.cells #[b, o1] 32)) ⟨w1.heap.size, 0, none⟩ [b, o1] [l, m]) := parts_two w1 b o1 l m HV1.out HM1.out
  have CC := concat_calls w1.heap.size 2 2 [b, o1] [l, m] (w1.alloc (.cells #[b, o1] 32)) rfl PT.out (by omega) (l.length + m.length) (by simp [Lib.lens]) (by have := HLl.out; have := HM4.out; omega)
  have HCC : Hid (Calls Try.prog 89 _ _ _) := CC
  have hf1 := HV1.out
  have hf2 := HM1.out
  obtain ⟨q1, d1, rfl, _, _⟩ := hf1
  obtain ⟨q2, d2, rfl, _, _⟩ := hf2
  clear CC
  go_wp2_with fail
  refine Calls.mono HCC.out ?_
  rintro e w2 ⟨v2, rfl, hv2, hb2⟩
  have HB2 : Hid (Below w.heap.size w w2) := bel2 HB1.out (bel2 (bel1 _ _) hb2)
  have HV2 : Hid (Lib.HoldsBytes w2 v2 (l ++ m)) := by show Lib.HoldsBytes _ _ _; simpa using hv2
  clear hv2 hb2
  go_wp2_with fail
  go_ret
  refine ⟨v2, rfl, fun h => ?_, fun h => ?_, HB2.out⟩
  · have := HV2.out
    rwa [HM2.out h] at this
  · have := HV2.out
    rwa [HM3.out h, List.append_nil] at this
theorem is_one (w : World) : Is w 1 (.agg #[.int .i64 1, .int .i64 1, .int .u64 0, .string ⟨#[]⟩, .slice none 0 0]) one :=
  ⟨none, 0, rfl, fit_one, fun i t h => by simp at h⟩
end Go.Proofs.Ytjmonkhkcmcfiaa
