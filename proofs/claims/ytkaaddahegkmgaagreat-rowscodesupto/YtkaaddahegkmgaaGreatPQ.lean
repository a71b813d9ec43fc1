/- The contracts of the reference's Num, Int, Bits, Flag: what stands behind any bytes. Condition: these have at most 2^46 bytes. -/
import Derived.Test.YtkaaddahegkmgaaGreatPS
namespace Go.Proofs.YtkaaddahegkmgaaGreat
open Go.ChangeShapes Go.WideShapes Go.ChangeAt Go.RowKit
theorem refNum_big (v : Value) (l : List UInt8) (m : Nat) (h0 : 240 ≤ m) (h1 : m < 9223372036854775808) (w : World) (hv : Lib.HoldsBytes w v l) (hl : l.length ≤ 70368744177663) : Calls Tryz.prog 29 #[v, .int .i64 (m : Int)] w (RB w (l ++ enc m)) := by
  obtain ⟨i0, hi, hz0, hz1, hz2⟩ := info_parts Tryz.info5
  have HV : Hid (Lib.HoldsBytes w v l) := hv
  have HLL : Hid (l.length ≤ 70368744177664) := by show l.length ≤ 70368744177664; omega
  obtain ⟨L, hL⟩ : ∃ L, L = l ++ enc m := ⟨_, rfl⟩
  have HL : Hid (L = l ++ enc m) := hL
  rw [← hL]
  have HE : Hid (enc m = [UInt8.ofNat (239 + nb m)] ++ be m (nb m)) := by show enc m = _; unfold enc; rw [if_neg (by omega)]; rfl
  obtain ⟨k1, k8⟩ := nb_bounds m h0 h1
  have BY : Hid (bval [UInt8.ofNat (239 + nb m)] = [.int .u8 (239 + (nb m : Nat) : Int)]) := by
    show bval [UInt8.ofNat (239 + nb m)] = _
    have e : ((UInt8.ofNat (239 + nb m)).toNat : Int) = 239 + (nb m : Nat) := by rw [UInt8.toNat_ofNat']; omega
    simp only [bval, List.map_cons, List.map_nil]
    rw [e]
  obtain ⟨b0, hb0⟩ : ∃ b, UInt8.ofNat (239 + nb m) = b := ⟨_, rfl⟩
  rw [hb0] at HE BY
  clear hb0
  have H1 : Hid (m < 9223372036854775808) := h1
  have d0 : decide ((m : Int) < 0) = false := decide_eq_false (by omega)
  have d1 : decide ((m : Int) < 240) = false := decide_eq_false (by omega)
  have hw : IntKind.u64.wrap (m : Int) = (m : Int) := by rw [IntKind.wrap_u64]; omega
  have HLM : Hid (l.length ≤ 70368744177663) := hl
  obtain ⟨p, cap, rfl, q1, q2⟩ := hv
  clear q1 q2 hL
  clear h0 h1
  go_enter Tryz.func29, Tryz.ntmps29
  go_wp2_with fail
  refine (bytes_calls _ _ H1.out).mono ?_
  rintro e w0 ⟨rfl, hw0⟩
  have hw00 := hw0.symm
  subst hw00
  go_wp2_with fail
  refine (copied_calls _ _ _ HV.out HLL.out).mono ?_
  rintro e w1 ⟨v1, rfl, ho, hb⟩
  have HO : Hid (Own w.heap.size w1 v1 l) := ho
  have HB : Hid (Below w.heap.size w w1) := hb
  clear ho hb
  go_wp2_with (at_builtin; refine wpList_append_own _ rfl _ _ 26 rfl w.heap.size 5 i0 (.int .u8 0) 1 1 Tryz.underlying26 hi hz0 hz1 hz2 rfl (by decide) _ _ _ rfl (HO.out.alloc _) ⟨w1.heap.size, 0, none⟩ 1 1 (bval [b0]) rfl ?qc1 ?qc2 ?qc3 ?qc4 ?qc5 ?qc6 ?_)
  case qc1 => rfl
  case qc2 =>
    intro i u hu
    rw [BY.out] at hu
    first | exact hu | (rw [add_plain, Nat.zero_add]; simpa using hu)
  case qc3 => intro u hu; obtain ⟨x, _, rfl⟩ := List.mem_map.1 hu; rfl
  case qc4 => unfold maxLen; omega
  case qc5 => omega
  case qc6 => have := HB.out.size; simp; omega
  intro v2 w2 hown hgrow hnil
  have HW : Hid (Own w.heap.size w2 v2 (l ++ [b0])) := own_snoc hown
  have HBW : Hid (Below w.heap.size w w2) := by
    refine (HB.out.alloc HB.out.size _).grown hgrow (by have := HB.out.size; simp; omega) ?_
    intro kk hkk
    exact (World.ownsRow.lt HO.out kk hkk).1
  clear hown hgrow hnil
  go_wp2_with fail
  refine (high_calls w.heap.size _ _ _ _ _ (by have := H1.out; omega) k8 HBW.out.size HW.out (by have := HLM.out; simp; omega)).mono ?_
  rintro e w3 ⟨v3, rfl, ho, hb⟩
  have HO3 : Hid (Own w.heap.size w3 v3 (l ++ [b0] ++ be m (nb m))) := ho
  have HB3 : Hid (Below w.heap.size w2 w3) := hb
  clear ho hb
  go_wp2
  go_ret
  refine ⟨_, rfl, ?_, HBW.out.trans HB3.out⟩
  rw [HL.out, HE.out, ← List.append_assoc]
  exact HO3.out
theorem tn_lt (n : Int) (h : (Lit.int .i64 n).wf = true) : tn n < 18446744073709551616 := by
  simp only [Lit.wf, IntKind.min, IntKind.max, IntKind.signed, IntKind.bits, Bool.and_eq_true, decide_eq_true_eq, if_true] at h
  unfold tn; omega
end Go.Proofs.YtkaaddahegkmgaaGreat
