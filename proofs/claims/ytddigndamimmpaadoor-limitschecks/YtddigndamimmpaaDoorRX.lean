/- The reference's Check of a value, its names. -/
import Derived.Test.YtddigndamimmpaaDoorRows
import Derived.Test.YtddigndamimmpaaDoorPP
import Derived.Test.YtddigndamimmpaaDoorFT1
import Derived.Test.YtddigndamimmpaaDoorFFm
import Derived.WalkKit
import Derived.WalkLawsBesides
import Derived.ProofKit
import Derived.OpenShut
import Derived.Test.YtddigndamimmpaaDoorFCon
import Derived.Laws.BitsAllLaws
import Derived.Test.YtddigndamimmpaaDoorPE
import Derived.Test.YtddigndamimmpaaDoorPR
import Derived.Test.YtddigndamimmpaaDoorPS
import Derived.Test.YtddigndamimmpaaDoorPQ
import Derived.Lib.AppendStr
import Derived.Shelf.Bytes.SlClone
import Derived.Test.YtddigndamimmpaaDoorLA
import Derived.Deep.QuietTactic
import Derived.BigQuiet
import Derived.Test.YtddigndamimmpaaDoorVK
import Derived.Test.YtddigndamimmpaaDoorVB
import Derived.Deep.DeepCutAuto
import Derived.Test.YtddigndamimmpaaDoorVI
import Derived.Test.YtddigndamimmpaaDoorMB
namespace Go.Proofs.YtddigndamimmpaaDoor
open Go.ChangeShapes Go.WideShapes Go.ChangeAt Go.RowKit
open FM

attribute [local go_sem] o_eq o_lt o_gt o_ne frombits tobits

theorem refCanon_calls (x : Nat) (w : World) : Calls Tryd.prog 38 #[.int .u64 (x : Int)] w fun e w' => e = .returned (.int .u64 (cn x : Nat)) ∧ w' = w := by
  cases hx : isN x
  · have hc : cn x = x := by simp [cn, hx]
    rw [hc]
    go_enter Tryd.func38, Tryd.ntmps38
    go_wp2
    go_ret
    exact ⟨rfl, rfl⟩
  · have hc : cn x = 9221120237041090560 := by simp [cn, hx]
    rw [hc]
    go_enter Tryd.func38, Tryd.ntmps38
    go_wp2
    go_ret
    exact ⟨rfl, rfl⟩
end Go.Proofs.YtddigndamimmpaaDoor
namespace Go.Proofs.YtddigndamimmpaaDoor
open Go.ChangeShapes Go.WideShapes Go.ChangeAt Go.RowKit
open FM
attribute [local go_sem] o_eq o_lt o_gt o_ne frombits tobits emod_top eql_inf eql_zero lss_sub
end Go.Proofs.YtddigndamimmpaaDoor
namespace Go.Proofs.YtddigndamimmpaaDoor
open Go.ChangeShapes Go.WideShapes Go.ChangeAt Go.RowKit
theorem copied_calls (v : Value) (l : List UInt8) (w : World) (hv : Lib.HoldsBytes w v l) (hl : l.length ≤ 70368744177664) :
    Calls Tryd.prog 72 #[v] w fun e w' => ∃ v', e = .returned v' ∧ Own w.heap.size w' v' l ∧ Below w.heap.size w w' := by
  obtain ⟨p, cap, rfl, h1, h2⟩ := hv
  obtain ⟨i0, hi, hz0, hz1, hz2⟩ := info_parts Tryd.info5
  cases p with
  | none =>
    have hn : l = [] := h1 rfl
    subst hn
    clear h1 h2 hl
    go_enter Tryd.func72, Tryd.ntmps72
    go_wp2
    go_ret
    exact ⟨_, rfl, World.ownsRow_nil _ _ _ _, Below.refl _ _⟩
  | some a =>
    have HC : Hid (∀ (i : Nat) x, l[i]? = some x → w.cell? (a.add i) = some (.int .u8 (x.toNat : Int))) := h2 a rfl
    clear h1 h2
    go_enter Tryd.func72, Tryd.ntmps72
    go_wp2_with (at_builtin; refine wpList_append_own _ rfl _ _ 61 rfl w.heap.size 5 i0 (.int .u8 0) 1 1 Tryd.underlying61 hi hz0 hz1 hz2 rfl (by decide) _ _ _ rfl (World.ownsRow_nil _ _ _ _) a l.length cap (bval l) rfl ?qc1 ?qc2 ?qc3 ?qc4 ?qc5 ?qc6 ?_)
    case qc1 => simp [bval]
    case qc2 =>
      intro j u hj
      unfold bval at hj
      rw [List.getElem?_map] at hj
      obtain ⟨x, hx, rfl⟩ := Option.map_eq_some_iff.1 hj
      exact HC.out j x hx
    case qc3 => intro u hu; obtain ⟨x, _, rfl⟩ := List.mem_map.1 hu; rfl
    case qc4 => unfold maxLen; omega
    case qc5 => omega
    case qc6 => exact Nat.le_refl _
    intro v' w1 hown hgrow hnil
    go_wp2
    go_ret
    refine ⟨v', rfl, by simpa [Own] using hown, ?_⟩
    exact (Below.refl _ w).grown hgrow (Nat.le_refl _) (by intro k hk; simp [Value.ownBlock] at hk)
set_option maxHeartbeats 1000000 in
theorem high_calls (B : Nat) (v : Value) (l : List UInt8) (x k : Nat) (w : World) (hx : x < 18446744073709551616) (hk : k ≤ 8) (hB : B ≤ w.heap.size) (hv : Own B w v l) (hl : l.length ≤ 70368744177664) :
    Calls Tryd.prog 74 #[v, .int .u64 (x : Int), .int .i64 (k : Int)] w fun e w' => ∃ v', e = .returned v' ∧ Own B w' v' (l ++ be x k) ∧ Below B w w' := by
  obtain ⟨i0, hi, hz0, hz1, hz2⟩ := info_parts Tryd.info5
  have HV : Hid (Own B w v l) := hv
  clear hv
  obtain ⟨L, hL⟩ : ∃ L, L = l ++ be x k := ⟨_, rfl⟩
  have HL : Hid (L = l ++ be x k) := hL
  rw [← hL]
  have HX : Hid (x < 18446744073709551616) := hx
  clear hL hx
  go_enter Tryd.func74, Tryd.ntmps74
  go_wp2
  go_loopw [0, 2] (fun b i wr => ∃ (j : Nat) (acc : List UInt8), j ≤ k ∧ i = .int .i64 j ∧ Hid (Own B wr b acc) ∧ Hid (Below B w wr) ∧ Hid (acc ++ be x j = L)) (fun _ i _ => (intOf i).toNat)
  case atStart => exact ⟨k, l, Nat.le_refl _, rfl, HV, Below.refl _ _, HL.out.symm⟩
  case round =>
    obtain ⟨j, acc, hj, rfl, HO, HB, HE⟩ := hrel
    cases j with
    | zero =>
      go_wp2
      go_ret
      have he : acc = L := by have := HE.out; simpa [be] using this
      rw [he] at HO
      exact ⟨_, rfl, HO.out, HB.out⟩
    | succ j =>
      have hj0 : (0 : Int) < ((j + 1 : Nat) : Int) := by omega
      have hacc : acc.length ≤ 70368744177672 := by
        have h1 := congrArg List.length HE.out
        rw [HL.out] at h1
        simp [be_length] at h1
        omega
      have hws : B ≤ wr.heap.size := Nat.le_trans hB HB.out.size
      go_wp2
      go_loop [7, 8] (fun y i => ∃ m : Nat, m ≤ j ∧ i = .int .i64 m ∧ y = .int .u64 ((x / 256 ^ m : Nat) : Int)) (fun _ i => j - (intOf i).toNat)
      case atStart => exact ⟨0, Nat.zero_le _, rfl, by simp⟩
      case round =>
        obtain ⟨m, hm, rfl, rfl⟩ := hrel
        have HS : Hid (x / 256 ^ (m + 1) = x / 256 ^ m / 256) := div_step x m
        obtain ⟨q, hq⟩ : ∃ q, x / 256 ^ m = q := ⟨_, rfl⟩
        rw [hq] at HS ⊢
        have HQ : Hid (x / 256 ^ m = q) := hq
        have hqu : (q : Int) ≤ 18446744073709551615 := by
          have h1 := HX.out
          have h2 := Nat.div_le_self x (256 ^ m)
          omega
        clear hq
        by_cases hlt : m < j
        · go_wp2
          go_round
          case rel => exact ⟨m + 1, by omega, by go_num, by rw [HS.out]; go_num⟩
          case measure => simp [intOf]; omega
        · obtain rfl : m = j := by omega
          go_wp2_with (at_builtin; refine wpList_append_own _ rfl _ _ 61 rfl B 5 i0 (.int .u8 0) 1 1 Tryd.underlying61 hi hz0 hz1 hz2 rfl (by decide) _ _ _ rfl (HO.out.alloc _) ⟨wr.heap.size, 0, none⟩ 1 1 (bval [UInt8.ofNat q]) rfl ?qc1 ?qc2 ?qc3 ?qc4 ?qc5 ?qc6 ?_)
          case qc1 => rfl
          case qc2 =>
            intro i u hu
            rw [byte_lit q]
            exact hu
          case qc3 => intro u hu; obtain ⟨x, _, rfl⟩ := List.mem_map.1 hu; rfl
          case qc4 => unfold maxLen; omega
          case qc5 => omega
          case qc6 => omega
          intro v' w1 hown hgrow hnil
          have HW : Hid (Own B w1 v' (acc ++ [UInt8.ofNat q])) := by
            show w1.ownsRow B 5 1 v' _ _
            have e1 : (acc ++ [UInt8.ofNat q]).length = acc.length + 1 := by simp
            have e2 : bval (acc ++ [UInt8.ofNat q]) = bval acc ++ bval [UInt8.ofNat q] := by simp [bval]
            rw [e1, e2]
            exact hown
          have HBW : Hid (Below B w w1) := by
            refine (HB.out.alloc hws _).grown hgrow (by simp; omega) ?_
            intro kk hkk
            exact (World.ownsRow.lt HO.out kk hkk).1
          clear hown hgrow hnil
          go_wp2
          go_roundw
          case rel =>
            refine ⟨m, acc ++ [UInt8.ofNat q], by omega, by go_num, HW, HBW, ?_⟩
            show _ = L
            rw [← HE.out, ← HQ.out, pow_256]
            simp [be]
          case measure => simp [intOf]
end Go.Proofs.YtddigndamimmpaaDoor
namespace Go.Proofs.YtddigndamimmpaaDoor
open Go.ChangeShapes Go.WideShapes Go.ChangeAt Go.RowKit
theorem bytes_calls (x : Nat) (w : World) (hx : x < 9223372036854775808) : Calls Tryd.prog 73 #[.int .i64 (x : Int)] w fun e w' => e = .returned (.int .i64 (nb x : Nat)) ∧ w' = w := by
  have HX : Hid (x < 9223372036854775808) := hx
  have HB : Hid (nb x ≤ 8) := by
    show nb x ≤ 8
    have := bl_le x hx
    unfold nb; omega
  clear hx
  go_enter Tryd.func73, Tryd.ntmps73
  go_wp2
  go_loop [0, 3] (fun n k => ∃ j q : Nat, Hid (x / 256 ^ j = q) ∧ Hid (j = 0 ∨ 0 < x / 256 ^ (j - 1)) ∧ j ≤ 9 ∧ n = .int .i64 q ∧ k = .int .i64 j) (fun n _ => (intOf n).toNat)
  case atStart => exact ⟨0, x, (show x / 256 ^ 0 = x by simp), .inl rfl, by omega, rfl, rfl⟩
  case round =>
    obtain ⟨j, q, HQ, HP, hj, rfl, rfl⟩ := hrel
    have hqu : (q : Int) ≤ 9223372036854775807 := by
      have h1 := HX.out
      have h2 := Nat.div_le_self x (256 ^ j)
      have h3 := HQ.out
      omega
    by_cases h0 : 0 < q
    · have hj8 : j ≤ 8 := by
        rcases Nat.lt_or_ge j 9 with h | h
        · omega
        · have a := nb_lt x
          have b := HB.out
          have c : (2 : Nat) ^ (8 * nb x) ≤ 2 ^ (8 * j) := Nat.pow_le_pow_right (by decide) (by omega)
          rw [← pow_256 j] at c
          have := Nat.div_eq_of_lt (Nat.lt_of_lt_of_le a c)
          have := HQ.out
          omega
      have h0z : (0 : Int) < (q : Int) := by omega
      go_wp2
      go_round
      case rel =>
        refine ⟨j + 1, q / 256, (show x / 256 ^ (j + 1) = q / 256 by rw [div_step, HQ.out]), (show Hid _ from .inr ?_), by omega, by go_num, by go_num⟩
        rw [Nat.add_sub_cancel, HQ.out]
        exact h0
      case measure => simp [intOf]; omega
    · obtain rfl : q = 0 := by omega
      have hn := nb_of x j HQ.out HP.out
      subst hn
      go_wp2
      go_ret
      exact ⟨rfl, rfl⟩
theorem refNum_small (v : Value) (l : List UInt8) (m : Nat) (n : Int) (hn : n < 240) (hm : m = n.toNat) (w : World) (hv : Lib.HoldsBytes w v l) (hl : l.length ≤ 70368744177664) : Calls Tryd.prog 59 #[v, .int .i64 n] w (RB w (l ++ enc m)) := by
  obtain ⟨i0, hi, hz0, hz1, hz2⟩ := info_parts Tryd.info5
  have HV : Hid (Lib.HoldsBytes w v l) := hv
  have HLL : Hid (l.length ≤ 70368744177664) := hl
  obtain ⟨L, hL⟩ : ∃ L, L = l ++ enc m := ⟨_, rfl⟩
  have HL : Hid (L = l ++ enc m) := hL
  rw [← hL]
  have HE : Hid (enc m = [UInt8.ofNat m]) := by show enc m = _; unfold enc; rw [if_pos (by omega)]
  have BY : Hid (bval [UInt8.ofNat m] = [.int .u8 (m : Int)]) := by
    show bval [UInt8.ofNat m] = _
    have e : ((UInt8.ofNat m).toNat : Int) = (m : Int) := by rw [UInt8.toNat_ofNat']; omega
    simp only [bval, List.map_cons, List.map_nil]
    rw [e]
  have hm240 : (m : Int) < 240 := by omega
  rw [HE.out] at HL
  obtain ⟨p, cap, rfl, q1, q2⟩ := hv
  clear q1 q2 hL
  by_cases h0 : n < 0
  · obtain rfl : m = 0 := by omega
    clear hm
    have BY0 : Hid (bval [UInt8.ofNat 0] = [.int .u8 0]) := BY.out
    clear BY
    go_enter Tryd.func59, Tryd.ntmps59
    go_wp2_with fail
    refine (copied_calls _ _ _ HV.out HLL.out).mono ?_
    rintro e w1 ⟨v1, rfl, ho, hb⟩
    have HO : Hid (Own w.heap.size w1 v1 l) := ho
    have HB : Hid (Below w.heap.size w w1) := hb
    clear ho hb
    go_wp2_with (at_builtin; refine wpList_append_own _ rfl _ _ 61 rfl w.heap.size 5 i0 (.int .u8 0) 1 1 Tryd.underlying61 hi hz0 hz1 hz2 rfl (by decide) _ _ _ rfl (HO.out.alloc _) ⟨w1.heap.size, 0, none⟩ 1 1 (bval [UInt8.ofNat 0]) rfl ?qc1 ?qc2 ?qc3 ?qc4 ?qc5 ?qc6 ?_)
    case qc1 => rfl
    case qc2 =>
      intro i u hu
      rw [BY0.out] at hu
      first | exact hu | (rw [add_plain, Nat.zero_add]; simpa using hu)
    case qc3 => intro u hu; obtain ⟨x, _, rfl⟩ := List.mem_map.1 hu; rfl
    case qc4 => unfold maxLen; omega
    case qc5 => omega
    case qc6 => have := HB.out.size; simp; omega
    intro v2 w2 hown hgrow hnil
    have HW : Hid (Own w.heap.size w2 v2 (l ++ [UInt8.ofNat 0])) := own_snoc hown
    have HBW : Hid (Below w.heap.size w w2) := by
      refine (HB.out.alloc HB.out.size _).grown hgrow (by have := HB.out.size; simp; omega) ?_
      intro kk hkk
      exact (World.ownsRow.lt HO.out kk hkk).1
    clear hown hgrow hnil
    go_wp2
    go_ret
    exact ⟨_, rfl, by rw [HL.out]; exact HW.out, HBW.out⟩
  · obtain rfl : n = (m : Int) := by omega
    clear hm
    go_enter Tryd.func59, Tryd.ntmps59
    go_wp2_with fail
    refine (copied_calls _ _ _ HV.out HLL.out).mono ?_
    rintro e w1 ⟨v1, rfl, ho, hb⟩
    have HO : Hid (Own w.heap.size w1 v1 l) := ho
    have HB : Hid (Below w.heap.size w w1) := hb
    clear ho hb
    go_wp2_with (at_builtin; refine wpList_append_own _ rfl _ _ 61 rfl w.heap.size 5 i0 (.int .u8 0) 1 1 Tryd.underlying61 hi hz0 hz1 hz2 rfl (by decide) _ _ _ rfl (HO.out.alloc _) ⟨w1.heap.size, 0, none⟩ 1 1 (bval [UInt8.ofNat m]) rfl ?qc1 ?qc2 ?qc3 ?qc4 ?qc5 ?qc6 ?_)
    case qc1 => rfl
    case qc2 =>
      intro i u hu
      rw [BY.out] at hu
      first | exact hu | (rw [add_plain, Nat.zero_add]; simpa using hu)
    case qc3 => intro u hu; obtain ⟨x, _, rfl⟩ := List.mem_map.1 hu; rfl
    case qc4 => unfold maxLen; omega
    case qc5 => omega
    case qc6 => have := HB.out.size; simp; omega
    intro v2 w2 hown hgrow hnil
    have HW : Hid (Own w.heap.size w2 v2 (l ++ [UInt8.ofNat m])) := own_snoc hown
    have HBW : Hid (Below w.heap.size w w2) := by
      refine (HB.out.alloc HB.out.size _).grown hgrow (by have := HB.out.size; simp; omega) ?_
      intro kk hkk
      exact (World.ownsRow.lt HO.out kk hkk).1
    clear hown hgrow hnil
    go_wp2
    go_ret
    exact ⟨_, rfl, by rw [HL.out]; exact HW.out, HBW.out⟩
end Go.Proofs.YtddigndamimmpaaDoor
namespace Go.Proofs.YtddigndamimmpaaDoor
open Go.ChangeShapes Go.WideShapes Go.ChangeAt Go.RowKit
theorem refNum_big (v : Value) (l : List UInt8) (m : Nat) (h0 : 240 ≤ m) (h1 : m < 9223372036854775808) (w : World) (hv : Lib.HoldsBytes w v l) (hl : l.length ≤ 70368744177663) : Calls Tryd.prog 59 #[v, .int .i64 (m : Int)] w (RB w (l ++ enc m)) := by
  obtain ⟨i0, hi, hz0, hz1, hz2⟩ := info_parts Tryd.info5
  have HV : Hid (Lib.HoldsBytes w v l) := hv
  have HLL : Hid (l.length ≤ 70368744177664) := by show l.length ≤ 70368744177664; omega
  obtain ⟨L, hL⟩ : ∃ L, L = l ++ enc m := ⟨_, rfl⟩
  have HL : Hid (L = l ++ enc m) := hL
  rw [← hL]
  have HE : Hid (enc m = [UInt8.ofNat (239 + nb m)] ++ be m (nb m)) := by show enc m = _; unfold enc; rw [if_neg (by omega)]; rfl
  obtain ⟨k1, k8⟩ := nb_bounds m h0 h1
  have BY : Hid (bval [UInt8.ofNat (239 + nb m)] = [.int .u8 (239 + (nb m : Nat) : Int)]) := by
    show bval [UInt8.ofNat (239 + nb m)] = _
    have e : ((UInt8.ofNat (239 + nb m)).toNat : Int) = 239 + (nb m : Nat) := by rw [UInt8.toNat_ofNat']; omega
    simp only [bval, List.map_cons, List.map_nil]
    rw [e]
  obtain ⟨b0, hb0⟩ : ∃ b, UInt8.ofNat (239 + nb m) = b := ⟨_, rfl⟩
  rw [hb0] at HE BY
  clear hb0
  have H1 : Hid (m < 9223372036854775808) := h1
  have d0 : decide ((m : Int) < 0) = false := decide_eq_false (by omega)
  have d1 : decide ((m : Int) < 240) = false := decide_eq_false (by omega)
  have hw : IntKind.u64.wrap (m : Int) = (m : Int) := by rw [IntKind.wrap_u64]; omega
  have HLM : Hid (l.length ≤ 70368744177663) := hl
  obtain ⟨p, cap, rfl, q1, q2⟩ := hv
  clear q1 q2 hL
  clear h0 h1
  go_enter Tryd.func59, Tryd.ntmps59
  go_wp2_with fail
  refine (bytes_calls _ _ H1.out).mono ?_
  rintro e w0 ⟨rfl, hw0⟩
  have hw00 := hw0.symm
  subst hw00
  go_wp2_with fail
  refine (copied_calls _ _ _ HV.out HLL.out).mono ?_
  rintro e w1 ⟨v1, rfl, ho, hb⟩
  have HO : Hid (Own w.heap.size w1 v1 l) := ho
  have HB : Hid (Below w.heap.size w w1) := hb
  clear ho hb
  go_wp2_with (at_builtin; refine wpList_append_own _ rfl _ _ 61 rfl w.heap.size 5 i0 (.int .u8 0) 1 1 Tryd.underlying61 hi hz0 hz1 hz2 rfl (by decide) _ _ _ rfl (HO.out.alloc _) ⟨w1.heap.size, 0, none⟩ 1 1 (bval [b0]) rfl ?qc1 ?qc2 ?qc3 ?qc4 ?qc5 ?qc6 ?_)
  case qc1 => rfl
  case qc2 =>
    intro i u hu
    rw [BY.out] at hu
    first | exact hu | (rw [add_plain, Nat.zero_add]; simpa using hu)
  case qc3 => intro u hu; obtain ⟨x, _, rfl⟩ := List.mem_map.1 hu; rfl
  case qc4 => unfold maxLen; omega
  case qc5 => omega
  case qc6 => have := HB.out.size; simp; omega
  intro v2 w2 hown hgrow hnil
  have HW : Hid (Own w.heap.size w2 v2 (l ++ [b0])) := own_snoc hown
  have HBW : Hid (Below w.heap.size w w2) := by
    refine (HB.out.alloc HB.out.size _).grown hgrow (by have := HB.out.size; simp; omega) ?_
    intro kk hkk
    exact (World.ownsRow.lt HO.out kk hkk).1
  clear hown hgrow hnil
  go_wp2_with fail
  refine (high_calls w.heap.size _ _ _ _ _ (by have := H1.out; omega) k8 HBW.out.size HW.out (by have := HLM.out; simp; omega)).mono ?_
  rintro e w3 ⟨v3, rfl, ho, hb⟩
  have HO3 : Hid (Own w.heap.size w3 v3 (l ++ [b0] ++ be m (nb m))) := ho
  have HB3 : Hid (Below w.heap.size w2 w3) := hb
  clear ho hb
  go_wp2
  go_ret
  refine ⟨_, rfl, ?_, HBW.out.trans HB3.out⟩
  rw [HL.out, HE.out, ← List.append_assoc]
  exact HO3.out
theorem refBits_calls (v : Value) (l : List UInt8) (x : Nat) (hx : x < 18446744073709551616) (w : World) (hv : Lib.HoldsBytes w v l) (hl : l.length ≤ 70368744177664) : Calls Tryd.prog 61 #[v, .int .u64 (x : Int)] w (RB w (l ++ be x 8)) := by
  have HV : Hid (Lib.HoldsBytes w v l) := hv
  have HLL : Hid (l.length ≤ 70368744177664) := hl
  obtain ⟨L, hL⟩ : ∃ L, L = l ++ be x 8 := ⟨_, rfl⟩
  have HL : Hid (L = l ++ be x 8) := hL
  rw [← hL]
  have HX : Hid (x < 18446744073709551616) := hx
  clear hx
  obtain ⟨p, cap, rfl, q1, q2⟩ := hv
  clear q1 q2 hL
  go_enter Tryd.func61, Tryd.ntmps61
  go_wp2_with fail
  refine (copied_calls _ _ _ HV.out HLL.out).mono ?_
  rintro e w1 ⟨v1, rfl, ho, hb⟩
  have HO : Hid (Own w.heap.size w1 v1 l) := ho
  have HB : Hid (Below w.heap.size w w1) := hb
  clear ho hb
  go_wp2_with fail
  refine (high_calls w.heap.size _ _ x 8 _ HX.out (by omega) HB.out.size HO.out HLL.out).mono ?_
  rintro e w3 ⟨v3, rfl, ho, hb⟩
  have HO3 : Hid (Own w.heap.size w3 v3 (l ++ be x 8)) := ho
  have HB3 : Hid (Below w.heap.size w1 w3) := hb
  clear ho hb
  go_wp2
  go_ret
  exact ⟨_, rfl, by rw [HL.out]; exact HO3.out, HB.out.trans HB3.out⟩
theorem refInt_calls (v : Value) (l : List UInt8) (n : Int) (hn : (Lit.int .i64 n).wf = true) (w : World) (hv : Lib.HoldsBytes w v l) (hl : l.length ≤ 70368744177664) : Calls Tryd.prog 60 #[v, .int .i64 n] w (RB w (l ++ be (tn n) 8)) := by
  have HV : Hid (Lib.HoldsBytes w v l) := hv
  have HLL : Hid (l.length ≤ 70368744177664) := hl
  obtain ⟨L, hL⟩ : ∃ L, L = l ++ be (tn n) 8 := ⟨_, rfl⟩
  have HL : Hid (L = l ++ be (tn n) 8) := hL
  rw [← hL]
  have HX : Hid (tn n < 18446744073709551616) := tn_lt n hn
  have ht := turn_top n hn
  clear hn
  obtain ⟨p, cap, rfl, q1, q2⟩ := hv
  clear q1 q2 hL
  go_enter Tryd.func60, Tryd.ntmps60
  go_wp2_with fail
  refine (copied_calls _ _ _ HV.out HLL.out).mono ?_
  rintro e w1 ⟨v1, rfl, ho, hb⟩
  have HO : Hid (Own w.heap.size w1 v1 l) := ho
  have HB : Hid (Below w.heap.size w w1) := hb
  clear ho hb
  go_wp2_with fail
  refine (high_calls w.heap.size _ _ (tn n) 8 _ HX.out (by omega) HB.out.size HO.out HLL.out).mono ?_
  rintro e w3 ⟨v3, rfl, ho, hb⟩
  have HO3 : Hid (Own w.heap.size w3 v3 (l ++ be (tn n) 8)) := ho
  have HB3 : Hid (Below w.heap.size w1 w3) := hb
  clear ho hb
  go_wp2
  go_ret
  exact ⟨_, rfl, by rw [HL.out]; exact HO3.out, HB.out.trans HB3.out⟩
end Go.Proofs.YtddigndamimmpaaDoor
namespace Go.Proofs.YtddigndamimmpaaDoor
open Go.ChangeShapes Go.WideShapes Go.ChangeAt Go.RowKit
theorem refNum_calls (v : Value) (l : List UInt8) (n : Int) (hn : n < 9223372036854775808) (w : World) (hv : Lib.HoldsBytes w v l) (hl : l.length ≤ 70368744177663) : Calls Tryd.prog 59 #[v, .int .i64 n] w (RB w (l ++ enc n.toNat)) := by
  by_cases h : n < 240
  · exact refNum_small v l n.toNat n h rfl w hv (by omega)
  · obtain ⟨m, rfl⟩ := Int.eq_ofNat_of_zero_le (show 0 ≤ n by omega)
    exact refNum_big v l m (by omega) (by omega) w hv hl
theorem refText_calls (v : Value) (l : List UInt8) (s : ByteArray) (w : World) (hv : Lib.HoldsBytes w v l) (hl : l.length ≤ 70368744177663) (hs : s.size ≤ 35184372088832) :
    Calls Tryd.prog 62 #[v, .string s] w (RB w (l ++ enc s.size ++ s.data.toList)) := by
  obtain ⟨i0, hi, hz0, hz1, hz2⟩ := info_parts Tryd.info5
  obtain ⟨L, hL⟩ : ∃ L, L = l ++ enc s.size ++ s.data.toList := ⟨_, rfl⟩
  have HL : Hid (L = l ++ enc s.size ++ s.data.toList) := hL
  rw [← hL]
  have NC := refNum_calls v l (s.size : Int) (by omega) w hv hl
  rw [Int.toNat_natCast] at NC
  have HC : Hid (Calls Tryd.prog 59 #[v, .int .i64 (s.size : Int)] w (RB w (l ++ enc s.size))) := NC
  have he := enc_length s.size (by omega)
  have hlen : (l ++ enc s.size).length ≤ 70368744177672 := by rw [List.length_append]; omega
  generalize l ++ enc s.size = l2 at HC HL hlen
  obtain ⟨p, cap, rfl, q1, q2⟩ := hv
  clear q1 q2 hL NC he hl
  go_enter Tryd.func62, Tryd.ntmps62
  go_wp2_with fail
  refine HC.out.mono ?_
  rintro e w1 ⟨v1, rfl, ho, hb⟩
  have HO : Hid (Own w.heap.size w1 v1 l2) := ho
  have HB : Hid (Below w.heap.size w w1) := hb
  clear ho hb
  go_wp2_with (at_builtin; refine Lib.wpList_append_own_string _ rfl _ _ 61 9 rfl w.heap.size 5 i0 Tryd.underlying61 Tryd.underlying9 hi hz0 hz1 hz2 _ _ _ rfl HO.out s rfl ?qc4 ?qc5 ?qc6 ?_)
  case qc4 => unfold maxLen; omega
  case qc5 => omega
  case qc6 => exact HB.out.size
  intro v2 w2 hown hgrow hnil
  have HW : Hid (Own w.heap.size w2 v2 (l2 ++ s.data.toList)) := by
    show w2.ownsRow w.heap.size 5 1 v2 _ _
    have e1 : (l2 ++ s.data.toList).length = l2.length + s.size := by rw [List.length_append, str_len]
    have e2 : bval (l2 ++ s.data.toList) = bval l2 ++ Lib.strCells s := by simp [bval, Lib.strCells]
    rw [e1, e2]
    exact hown
  have HBW : Hid (Below w.heap.size w w2) := by
    refine HB.out.grown hgrow HB.out.size ?_
    intro kk hkk
    exact (World.ownsRow.lt HO.out kk hkk).1
  clear hown hgrow hnil
  go_wp2
  go_ret
  exact ⟨_, rfl, by rw [HL.out]; exact HW.out, HBW.out⟩
end Go.Proofs.YtddigndamimmpaaDoor
namespace Go.Proofs.YtddigndamimmpaaDoor
open Go.ChangeShapes Go.WideShapes Go.ChangeAt Go.RowKit
open FM
theorem belNP (w : World) (n : Nat) : Below w.heap.size w (w.drewN n) := ⟨rfl, rfl, rfl, Nat.le_refl _, fun _ _ => rfl⟩
end Go.Proofs.YtddigndamimmpaaDoor
namespace Go.Proofs.YtddigndamimmpaaDoor
open Go.ChangeShapes Go.WideShapes Go.ChangeAt Go.RowKit Go.BigFrame
def Pre1 (k x : Int) (b : Nat) (s : ByteArray) (n : Nat) : Prop := 0 ≤ k ∧ k ≤ 4 ∧ (k = 1 ∨ x = 0) ∧ (k = 2 ∨ b = 0) ∧ (k = 3 ∨ s.toList = []) ∧ (k = 4 ∨ n = 0)
theorem no_n {k : Int} {N : Nat} (h : (0 ≤ k ∧ k ≤ 4) ∧ ((k != 4) = false ∨ ¬ 0 < N)) (h4 : ¬ k = 4) : N = 0 := by
  rcases h.2 with h | h
  · exact absurd (by simpa using h) h4
  · omega
set_option maxHeartbeats 2000000 in
set_option maxRecDepth 100000 in
theorem shape_no1 (k x : Int) (b : Nat) (s : ByteArray) (a : Option Addr) (N c : Nat) (d : Int) (w : World) (p : Prop) (hp : ¬ p) (h : ¬ Pre1 k x b s N) :
    Calls Tryd.prog 40 #[.agg #[.int .i64 k, .int .i64 x, .int .u64 (b : Int), .string s, .slice a N c], .int .i64 d] w (FP p w) := by
  have HP : Hid (¬ p) := hp
  have HQ : Hid (¬ Pre1 k x b s N) := h
  clear hp h
  go_enter Tryd.func40, Tryd.ntmps40
  go_wp2_with fail
  all_goals first
    | (go_ret; exact FP.no HP.out (bel1 _ _))
    | (refine absurd ⟨by assumption, by assumption, by first | exact .inl (by assumption) | exact .inr (by assumption), by first | exact .inl (by assumption) | exact .inr (by assumption), by first | exact .inl (by assumption) | exact .inr (by assumption), by first | exact .inl (by assumption) | exact .inr (by omega) | exact .inr (no_n (by assumption) (by assumption))⟩ HQ.out)
end Go.Proofs.YtddigndamimmpaaDoor
namespace Go.Proofs.YtddigndamimmpaaDoor
open Go.ChangeShapes Go.WideShapes Go.ChangeAt Go.RowKit Go.BigFrame
set_option maxHeartbeats 2000000 in
set_option maxRecDepth 100000 in
theorem shape_y0 (a : Option Addr) (c : Nat) (d : Int) (w : World) (p : Prop) (hp : p) :
    Calls Tryd.prog 40 #[.agg #[.int .i64 0, .int .i64 0, .int .u64 0, .string ⟨#[]⟩, .slice a 0 c], .int .i64 d] w (FP p w) := by
  have HP : Hid (p) := hp
  have HC : Hid (∀ w, Calls Tryd.prog 38 #[.int .u64 0] w fun e w' => e = .returned (.int .u64 0) ∧ w' = w) := fun w => refCanon_calls 0 w
  clear hp
  go_enter Tryd.func40, Tryd.ntmps40
  go_wp2_with fail
  refine wp_region_quiet_lit (by kernel_rfl) (by kernel_rfl) ?_
  repeat (go_big_quiet_step (first | (go_at_call 38; exact Calls.quiet_of_same (HC.out _))))
  refine wpQuiet_nil ?_
  intro _ hw'
  obtain ⟨nq, hw''⟩ := hw'
  subst hw''
  generalize hW0 : w.alloc (Obj.cells #[.int .i64 0, .int .i64 0, .int .u64 0, .string ⟨#[]⟩, .slice a 0 c] 25) = W0
  have hg : (W0.drewN nq).cell? ⟨w.heap.size, 4, none⟩ = some (.slice a 0 c) := by subst hW0; rw [World.cell?_drewN]; go_simp
  have HB : Hid (Below w.heap.size w (W0.drewN nq)) := by subst hW0; exact bel2 (bel1 _ _) (belN _ _)
  generalize W0.drewN nq = W1 at hg HB ⊢
  clear hW0
  go_wp2_with fail
  go_loopw [5] (fun i wr => i = .int .i64 0 ∧ wr = W1) (fun _ _ => 0)
  case atStart => exact ⟨rfl, rfl⟩
  case round =>
    obtain ⟨rfl, rfl⟩ := hrel
    go_wp2_with fail
    go_ret
    exact FP.yes HP.out HB.out
set_option maxHeartbeats 2000000 in
set_option maxRecDepth 100000 in
theorem shape_y1 (x : Int) (a : Option Addr) (c : Nat) (d : Int) (w : World) (p : Prop) (hp : p) :
    Calls Tryd.prog 40 #[.agg #[.int .i64 1, .int .i64 x, .int .u64 0, .string ⟨#[]⟩, .slice a 0 c], .int .i64 d] w (FP p w) := by
  have HP : Hid (p) := hp
  have HC : Hid (∀ w, Calls Tryd.prog 38 #[.int .u64 0] w fun e w' => e = .returned (.int .u64 0) ∧ w' = w) := fun w => refCanon_calls 0 w
  clear hp
  go_enter Tryd.func40, Tryd.ntmps40
  go_wp2_with fail
  refine wp_region_quiet_lit (by kernel_rfl) (by kernel_rfl) ?_
  repeat (go_big_quiet_step (first | (go_at_call 38; exact Calls.quiet_of_same (HC.out _))))
  refine wpQuiet_nil ?_
  intro _ hw'
  obtain ⟨nq, hw''⟩ := hw'
  subst hw''
  generalize hW0 : w.alloc (Obj.cells #[.int .i64 1, .int .i64 x, .int .u64 0, .string ⟨#[]⟩, .slice a 0 c] 25) = W0
  have hg : (W0.drewN nq).cell? ⟨w.heap.size, 4, none⟩ = some (.slice a 0 c) := by subst hW0; rw [World.cell?_drewN]; go_simp
  have HB : Hid (Below w.heap.size w (W0.drewN nq)) := by subst hW0; exact bel2 (bel1 _ _) (belN _ _)
  generalize W0.drewN nq = W1 at hg HB ⊢
  clear hW0
  go_wp2_with fail
  go_loopw [5] (fun i wr => i = .int .i64 0 ∧ wr = W1) (fun _ _ => 0)
  case atStart => exact ⟨rfl, rfl⟩
  case round =>
    obtain ⟨rfl, rfl⟩ := hrel
    go_wp2_with fail
    go_ret
    exact FP.yes HP.out HB.out
set_option maxHeartbeats 2000000 in
set_option maxRecDepth 100000 in
theorem shape_y2 (b b' : Nat) (hC : ∀ w, Calls Tryd.prog 38 #[.int .u64 (b : Int)] w fun e w' => e = .returned (.int .u64 (b' : Int)) ∧ w' = w) (h : b' = b) (a : Option Addr) (c : Nat) (d : Int) (w : World) (p : Prop) (hp : p) :
    Calls Tryd.prog 40 #[.agg #[.int .i64 2, .int .i64 0, .int .u64 (b : Int), .string ⟨#[]⟩, .slice a 0 c], .int .i64 d] w (FP p w) := by
  have HP : Hid (p) := hp
  have HC : Hid (∀ w, Calls Tryd.prog 38 #[.int .u64 (b : Int)] w fun e w' => e = .returned (.int .u64 (b' : Int)) ∧ w' = w) := hC
  clear hp
  have f1 : ((b : Int) != (b' : Int)) = false := by simp [h]
  have f2 : (b != b') = false := by simp [h]
  clear h hC
  go_enter Tryd.func40, Tryd.ntmps40
  go_wp2_with fail
  refine wp_region_quiet_lit (by kernel_rfl) (by kernel_rfl) ?_
  repeat (go_big_quiet_step (first | (go_at_call 38; exact Calls.quiet_of_same (HC.out _))))
  refine wpQuiet_nil ?_
  intro _ hw'
  obtain ⟨nq, hw''⟩ := hw'
  subst hw''
  generalize hW0 : w.alloc (Obj.cells #[.int .i64 2, .int .i64 0, .int .u64 (b : Int), .string ⟨#[]⟩, .slice a 0 c] 25) = W0
  have hg : (W0.drewN nq).cell? ⟨w.heap.size, 4, none⟩ = some (.slice a 0 c) := by subst hW0; rw [World.cell?_drewN]; go_simp
  have HB : Hid (Below w.heap.size w (W0.drewN nq)) := by subst hW0; exact bel2 (bel1 _ _) (belN _ _)
  generalize W0.drewN nq = W1 at hg HB ⊢
  clear hW0
  go_wp2_with fail
  go_loopw [5] (fun i wr => i = .int .i64 0 ∧ wr = W1) (fun _ _ => 0)
  case atStart => exact ⟨rfl, rfl⟩
  case round =>
    obtain ⟨rfl, rfl⟩ := hrel
    go_wp2_with fail
    go_ret
    exact FP.yes HP.out HB.out
set_option maxHeartbeats 2000000 in
set_option maxRecDepth 100000 in
theorem shape_n2 (b b' : Nat) (hC : ∀ w, Calls Tryd.prog 38 #[.int .u64 (b : Int)] w fun e w' => e = .returned (.int .u64 (b' : Int)) ∧ w' = w) (h : ¬ b' = b) (a : Option Addr) (c : Nat) (d : Int) (w : World) (p : Prop) (hp : ¬ p) :
    Calls Tryd.prog 40 #[.agg #[.int .i64 2, .int .i64 0, .int .u64 (b : Int), .string ⟨#[]⟩, .slice a 0 c], .int .i64 d] w (FP p w) := by
  have HP : Hid (¬ p) := hp
  have HC : Hid (∀ w, Calls Tryd.prog 38 #[.int .u64 (b : Int)] w fun e w' => e = .returned (.int .u64 (b' : Int)) ∧ w' = w) := hC
  clear hp
  have f1 : ((b : Int) != (b' : Int)) = true := by simp; omega
  have f2 : (b != b') = true := by simp; omega
  clear h hC
  go_enter Tryd.func40, Tryd.ntmps40
  go_wp2_with fail
  refine wp_region_quiet_lit (by kernel_rfl) (by kernel_rfl) ?_
  repeat (go_big_quiet_step (first | (go_at_call 38; exact Calls.quiet_of_same (HC.out _))))
  refine wpQuiet_nil ?_
  intro _ hw'
  obtain ⟨nq, hw''⟩ := hw'
  subst hw''
  go_wp2_with fail
  go_ret
  exact FP.no HP.out (bel2 (bel1 _ _) (belN _ _))
set_option maxHeartbeats 2000000 in
set_option maxRecDepth 100000 in
theorem shape_y3 (s : ByteArray) (h : s.size ≤ 200) (a : Option Addr) (c : Nat) (d : Int) (w : World) (p : Prop) (hp : p) :
    Calls Tryd.prog 40 #[.agg #[.int .i64 3, .int .i64 0, .int .u64 0, .string s, .slice a 0 c], .int .i64 d] w (FP p w) := by
  have HP : Hid (p) := hp
  have HC : Hid (∀ w, Calls Tryd.prog 38 #[.int .u64 0] w fun e w' => e = .returned (.int .u64 0) ∧ w' = w) := fun w => refCanon_calls 0 w
  clear hp
  have f1 : decide (200 < (s.size : Int)) = false := decide_eq_false (by omega)
  have f2 : decide (200 < s.size) = false := decide_eq_false (by omega)
  clear h
  go_enter Tryd.func40, Tryd.ntmps40
  go_wp2_with fail
  refine wp_region_quiet_lit (by kernel_rfl) (by kernel_rfl) ?_
  repeat (go_big_quiet_step (first | (go_at_call 38; exact Calls.quiet_of_same (HC.out _))))
  refine wpQuiet_nil ?_
  intro _ hw'
  obtain ⟨nq, hw''⟩ := hw'
  subst hw''
  generalize hW0 : w.alloc (Obj.cells #[.int .i64 3, .int .i64 0, .int .u64 0, .string s, .slice a 0 c] 25) = W0
  have hg : (W0.drewN nq).cell? ⟨w.heap.size, 4, none⟩ = some (.slice a 0 c) := by subst hW0; rw [World.cell?_drewN]; go_simp
  have HB : Hid (Below w.heap.size w (W0.drewN nq)) := by subst hW0; exact bel2 (bel1 _ _) (belN _ _)
  generalize W0.drewN nq = W1 at hg HB ⊢
  clear hW0
  go_wp2_with fail
  go_loopw [5] (fun i wr => i = .int .i64 0 ∧ wr = W1) (fun _ _ => 0)
  case atStart => exact ⟨rfl, rfl⟩
  case round =>
    obtain ⟨rfl, rfl⟩ := hrel
    go_wp2_with fail
    go_ret
    exact FP.yes HP.out HB.out
set_option maxHeartbeats 2000000 in
set_option maxRecDepth 100000 in
theorem shape_n3 (s : ByteArray) (h : ¬ s.size ≤ 200) (a : Option Addr) (c : Nat) (d : Int) (w : World) (p : Prop) (hp : ¬ p) :
    Calls Tryd.prog 40 #[.agg #[.int .i64 3, .int .i64 0, .int .u64 0, .string s, .slice a 0 c], .int .i64 d] w (FP p w) := by
  have HP : Hid (¬ p) := hp
  have HC : Hid (∀ w, Calls Tryd.prog 38 #[.int .u64 0] w fun e w' => e = .returned (.int .u64 0) ∧ w' = w) := fun w => refCanon_calls 0 w
  clear hp
  have f1 : decide (200 < (s.size : Int)) = true := decide_eq_true (by omega)
  have f2 : decide (200 < s.size) = true := decide_eq_true (by omega)
  clear h
  go_enter Tryd.func40, Tryd.ntmps40
  go_wp2_with fail
  refine wp_region_quiet_lit (by kernel_rfl) (by kernel_rfl) ?_
  repeat (go_big_quiet_step (first | (go_at_call 38; exact Calls.quiet_of_same (HC.out _))))
  refine wpQuiet_nil ?_
  intro _ hw'
  obtain ⟨nq, hw''⟩ := hw'
  subst hw''
  go_wp2_with fail
  go_ret
  exact FP.no HP.out (bel2 (bel1 _ _) (belN _ _))
set_option maxHeartbeats 2000000 in
set_option maxRecDepth 100000 in
theorem shape_n4 (N : Nat) (h : ¬ N ≤ 12) (a : Option Addr) (c : Nat) (d : Int) (w : World) (p : Prop) (hp : ¬ p) :
    Calls Tryd.prog 40 #[.agg #[.int .i64 4, .int .i64 0, .int .u64 0, .string ⟨#[]⟩, .slice a N c], .int .i64 d] w (FP p w) := by
  have HP : Hid (¬ p) := hp
  have HC : Hid (∀ w, Calls Tryd.prog 38 #[.int .u64 0] w fun e w' => e = .returned (.int .u64 0) ∧ w' = w) := fun w => refCanon_calls 0 w
  clear hp
  have f1 : decide (12 < (N : Int)) = true := decide_eq_true (by omega)
  have f2 : decide (12 < N) = true := decide_eq_true (by omega)
  clear h
  go_enter Tryd.func40, Tryd.ntmps40
  go_wp2_with fail
  refine wp_region_quiet_lit (by kernel_rfl) (by kernel_rfl) ?_
  repeat (go_big_quiet_step (first | (go_at_call 38; exact Calls.quiet_of_same (HC.out _))))
  refine wpQuiet_nil ?_
  intro _ hw'
  obtain ⟨nq, hw''⟩ := hw'
  subst hw''
  go_wp2_with fail
  go_ret
  exact FP.no HP.out (bel2 (bel1 _ _) (belN _ _))
set_option maxHeartbeats 2000000 in
set_option maxRecDepth 100000 in
theorem shape_d4 (N : Nat) (h : N ≤ 12) (a : Option Addr) (c : Nat) (w : World) (p : Prop) (hp : ¬ p) :
    Calls Tryd.prog 40 #[.agg #[.int .i64 4, .int .i64 0, .int .u64 0, .string ⟨#[]⟩, .slice a N c], .int .i64 0] w (FP p w) := by
  have HP : Hid (¬ p) := hp
  have HC : Hid (∀ w, Calls Tryd.prog 38 #[.int .u64 0] w fun e w' => e = .returned (.int .u64 0) ∧ w' = w) := fun w => refCanon_calls 0 w
  clear hp
  have f1 : decide (12 < (N : Int)) = false := decide_eq_false (by omega)
  have f2 : decide (12 < N) = false := decide_eq_false (by omega)
  clear h
  go_enter Tryd.func40, Tryd.ntmps40
  go_wp2_with fail
  refine wp_region_quiet_lit (by kernel_rfl) (by kernel_rfl) ?_
  repeat (go_big_quiet_step (first | (go_at_call 38; exact Calls.quiet_of_same (HC.out _))))
  refine wpQuiet_nil ?_
  intro _ hw'
  obtain ⟨nq, hw''⟩ := hw'
  subst hw''
  go_wp2_with fail
  go_ret
  exact FP.no HP.out (bel2 (bel1 _ _) (belN _ _))
end Go.Proofs.YtddigndamimmpaaDoor
namespace Go.Proofs.YtddigndamimmpaaDoor
open Go.ChangeShapes Go.WideShapes Go.ChangeAt Go.RowKit Go.BigFrame
def ShapeAt (n : Nat) : Prop := ∀ (v : Value) (t : Tv) (d : Int) (w : World), 0 ≤ d → d ≤ 4 → Is w n v t → Calls Tryd.prog 40 #[v, .int .i64 d] w (FP (ShapeT n d t) w)
set_option maxHeartbeats 2000000 in
set_option maxRecDepth 100000 in
theorem shape_y4 (n : Nat) (ih : ShapeAt n) (a : Option Addr) (c : Nat) (l : List Tv) (d : Int) (w : World) (hl : l.length ≤ 12) (d0 : 0 ≤ d) (d4 : d ≤ 4) (hd : d ≠ 0) (hr : Row (Is w n) w a l) (p : Prop) (hp : p ↔ ∀ (i : Nat) t, l[i]? = some t → ShapeT n (d - 1) t) :
    Calls Tryd.prog 40 #[.agg #[.int .i64 4, .int .i64 0, .int .u64 0, .string ⟨#[]⟩, .slice a l.length c], .int .i64 d] w (FP p w) := by
  obtain ⟨N, hN⟩ : ∃ N, N = l.length := ⟨_, rfl⟩
  obtain ⟨e, he⟩ : ∃ e : Int, e = d - 1 := ⟨_, rfl⟩
  have hw1 : wrap64 (d - 1) = e := by rw [he]; unfold wrap64; omega
  have hw2 : IntKind.i64.wrap (d - 1) = e := by rw [he, IntKind.wrap_i64]; omega
  rw [← hN]
  rw [← he] at hp
  have HP : Hid (p ↔ ∀ (i : Nat) t, l[i]? = some t → ShapeT n e t) := hp
  have HR : Hid (Row (Is w n) w a l) := hr
  have HN : Hid (N = l.length ∧ N ≤ 12) := ⟨hN, by omega⟩
  have HI : Hid (∀ (v : Value) (t : Tv) (w : World), Is w n v t → Calls Tryd.prog 40 #[v, .int .i64 e] w (FP (ShapeT n e t) w)) := fun v t w h => ih v t e w (by omega) (by omega) h
  have HC : Hid (∀ w, Calls Tryd.prog 38 #[.int .u64 0] w fun e w' => e = .returned (.int .u64 0) ∧ w' = w) := fun w => refCanon_calls 0 w
  have f1 : decide (12 < (N : Int)) = false := decide_eq_false (by omega)
  have f2 : decide (12 < N) = false := decide_eq_false (by omega)
  have f3 : (d == 0) = false := by simpa using hd
  clear hp hr hN hl d0 d4 hd he ih
  go_enter Tryd.func40, Tryd.ntmps40
  go_wp2_with fail
  refine wp_region_quiet_lit (by kernel_rfl) (by kernel_rfl) ?_
  repeat (go_big_quiet_step (first | (go_at_call 38; exact Calls.quiet_of_same (HC.out _))))
  refine wpQuiet_nil ?_
  intro _ hw'
  obtain ⟨nq, hw''⟩ := hw'
  subst hw''
  generalize hW0 : w.alloc (Obj.cells #[.int .i64 4, .int .i64 0, .int .u64 0, .string ⟨#[]⟩, .slice a N c] 25) = W0
  have hg : (W0.drewN nq).cell? ⟨w.heap.size, 4, none⟩ = some (.slice a N c) := by subst hW0; rw [World.cell?_drewN]; go_simp
  have HB : Hid (Below w.heap.size w (W0.drewN nq)) := by subst hW0; exact bel2 (bel1 _ _) (belN _ _)
  have HS : Hid (w.heap.size < (W0.drewN nq).heap.size) := by subst hW0; show _ < _; simp [World.drewN]
  generalize W0.drewN nq = W1 at hg HB HS ⊢
  clear hW0 f1 f2 f3
  have HG : Hid (W1.cell? ⟨w.heap.size, 4, none⟩ = some (.slice a N c)) := hg
  clear hg
  go_wp2_with fail
  go_loopw [5] (fun i wr => ∃ j : Nat, j ≤ N ∧ i = .int .i64 j ∧ Hid (∀ (i : Nat) t, i < j → l[i]? = some t → ShapeT n e t) ∧ Hid (Below W1.heap.size W1 wr)) (fun i _ => N - (intOf i).toNat)
  case atStart => exact ⟨0, Nat.zero_le _, rfl, fun i t hi => absurd hi (Nat.not_lt_zero i), Below.refl _ _⟩
  case round =>
    obtain ⟨j, hj, rfl, HE, HBr⟩ := hrel
    have g0 : wr.cell? ⟨w.heap.size, 4, none⟩ = some (.slice a N c) := (HBr.out.cell HS.out).trans HG.out
    by_cases hlt : j < N
    · have HT : Hid (j < l.length) := by have := HN.out.1; show _ < _; omega
      obtain ⟨B, o, c0, c1, c2, c3, c4, rfl, h5, hi⟩ := HR.out j _ (List.getElem?_eq_getElem HT.out)
      obtain ⟨k', x', b', s', a', m', c', rfl, rfl, rfl, rfl, rfl⟩ := hi.shape
      have HBw := bel2 HB.out HBr.out
      obtain ⟨e0, e1, e2, e3, e4⟩ := h5.below HBw
      have C0 : Hid (Calls Tryd.prog 40 #[_, .int .i64 e] wr _) := HI.out _ _ wr (hi.below HBw)
      have HW : Hid (wrap64 ((j : Int) + 1) = ((j + 1 : Nat) : Int)) := wr1 hlt (by have := HN.out.2; omega)
      have hjl : (j : Int) < (N : Int) := by omega
      clear hi h5 HBw
      go_wp2_with fail
      refine C0.out.mono ?_
      rintro x w1 ⟨⟨r1, rfl, hr1⟩, hb1⟩
      have HB1 : Hid (Below W1.heap.size W1 w1) := bel2 HBr.out hb1
      have HR1 : Hid (r1 = true ↔ ShapeT n e (l[j]'HT.out)) := hr1
      clear hb1 hr1
      cases r1
      · go_wp2_with fail
        go_ret
        exact FP.no (fun q => by cases HR1.out.2 (HP.out.1 q j _ (List.getElem?_eq_getElem HT.out))) (bel2 HB.out HB1.out)
      · go_wp2_with fail
        refine ⟨⟨j + 1, hlt, by rw [HW.out], fun i t hi ht => ?_, HB1⟩, meas hlt HW.out⟩
        by_cases hij : i = j
        · subst hij
          rw [List.getElem?_eq_getElem HT.out] at ht
          cases ht
          simpa using HR1.out
        · exact HE.out i t (by omega) ht
    · obtain rfl : j = N := by omega
      go_wp2_with fail
      go_ret
      exact FP.yes (HP.out.2 fun i t ht => HE.out i t (by have := (List.getElem?_eq_some_iff.1 ht).1; have := HN.out.1; omega) ht) (bel2 HB.out HBr.out)
theorem shape_calls : ∀ n, ShapeAt n := by
  intro n
  induction n with
  | zero => intro v t d w _ _ h; exact h.elim
  | succ n ih =>
    rintro v ⟨k, x, b, s, l⟩ d w d0 d4 ⟨a, c, rfl, hf, hr⟩
    obtain ⟨b, rfl⟩ : ∃ m : Nat, b = m := ⟨b.toNat, by have := hf.b0; omega⟩
    by_cases hP : Pre1 k x b s l.length
    · obtain ⟨k0, k4, hx, hb, hs, hn⟩ := hP
      have hcn0 : cn 0 = 0 := by decide
      have hz0 : (⟨#[]⟩ : ByteArray).toList = [] := by rw [Lib.toList_data]
      have hsz : ∀ s : ByteArray, s.toList = [] → s = ⟨#[]⟩ := fun s h => tl_inj (h.trans hz0.symm)
      rcases (by omega : k = 0 ∨ k = 1 ∨ k = 2 ∨ k = 3 ∨ k = 4) with rfl | rfl | rfl | rfl | rfl
      · obtain rfl : x = 0 := by omega
        obtain rfl : b = 0 := by omega
        obtain rfl := hsz s (hs.resolve_left (by decide))
        obtain rfl : l = [] := List.eq_nil_of_length_eq_zero (hn.resolve_left (by decide))
        exact shape_y0 a c d w _ ⟨⟨by decide, by decide, .inr rfl, .inr rfl, hcn0, .inr hz0, by decide, .inr rfl, by decide⟩, (fun h => by cases h), (fun i t h => by simp at h)⟩
      · obtain rfl : b = 0 := by omega
        obtain rfl := hsz s (hs.resolve_left (by decide))
        obtain rfl : l = [] := List.eq_nil_of_length_eq_zero (hn.resolve_left (by decide))
        exact shape_y1 x a c d w _ ⟨⟨by decide, by decide, .inl rfl, .inr rfl, hcn0, .inr hz0, by decide, .inr rfl, by decide⟩, (fun h => by cases h), (fun i t h => by simp at h)⟩
      · obtain rfl : x = 0 := by omega
        obtain rfl := hsz s (hs.resolve_left (by decide))
        obtain rfl : l = [] := List.eq_nil_of_length_eq_zero (hn.resolve_left (by decide))
        by_cases hc : cn b = b
        · exact shape_y2 b (cn b) (refCanon_calls b) hc a c d w _ ⟨⟨by decide, by decide, .inr rfl, .inl rfl, hc, .inr hz0, by decide, .inr rfl, by decide⟩, (fun h => by cases h), (fun i t h => by simp at h)⟩
        · exact shape_n2 b (cn b) (refCanon_calls b) hc a c d w _ (fun q => hc q.1.2.2.2.2.1)
      · obtain rfl : x = 0 := by omega
        obtain rfl : b = 0 := by omega
        obtain rfl : l = [] := List.eq_nil_of_length_eq_zero (hn.resolve_left (by decide))
        by_cases hc : s.size ≤ 200
        · exact shape_y3 s hc a c d w _ ⟨⟨by decide, by decide, .inr rfl, .inr rfl, hcn0, .inl rfl, hc, .inr rfl, by decide⟩, (fun h => by cases h), (fun i t h => by simp at h)⟩
        · exact shape_n3 s hc a c d w _ (fun q => hc q.1.2.2.2.2.2.2.1)
      · obtain rfl : x = 0 := by omega
        obtain rfl : b = 0 := by omega
        obtain rfl := hsz s (hs.resolve_left (by decide))
        by_cases hc : l.length ≤ 12
        · by_cases hd : d = 0
          · subst hd
            exact shape_d4 l.length hc a c w _ (fun q => q.2.1 rfl rfl)
          · exact shape_y4 n ih a c l d w hc d0 d4 hd hr _ ⟨fun q => q.2.2, fun q => ⟨⟨by decide, by decide, .inr rfl, .inr rfl, hcn0, .inr hz0, by decide, .inl rfl, hc⟩, (fun _ => hd), q⟩⟩
        · exact shape_n4 l.length hc a c d w _ (fun q => hc q.1.2.2.2.2.2.2.2.2)
    · refine shape_no1 k x b s a l.length c d w _ (fun q => hP ?_) hP
      obtain ⟨q1, q2, q3, q4, _, q6, _, q8, _⟩ := q.1
      exact ⟨q1, q2, q3, by simpa using q4, q6, q8⟩
end Go.Proofs.YtddigndamimmpaaDoor
namespace Go.Proofs.YtddigndamimmpaaDoor
open Go.ChangeShapes Go.WideShapes Go.ChangeAt Go.RowKit Go.BigFrame
def BD : Nat → Nat
  | 0 => 210
  | d + 1 => 210 + 13 * BD d
theorem flat_bd {n B : Nat} : ∀ (l : List Tv), (∀ (i : Nat) t, l[i]? = some t → (bytesT n t).length ≤ B) → ((l.map (bytesT n)).flatten).length ≤ l.length * B
  | [], _ => by simp
  | t :: l, h => by
    have h0 := h 0 t rfl
    have h1 := flat_bd l (fun i u hu => h (i + 1) u (by simpa using hu))
    simp only [List.map_cons, List.flatten_cons, List.length_append, List.length_cons]
    rw [Nat.succ_mul]
    omega
theorem bytes_bd : ∀ (n d : Nat) (t : Tv), ShapeT n (d : Int) t → (bytesT n t).length ≤ BD d
  | 0, _, _, h => h.elim
  | n + 1, d, .mk k x b s l, ⟨hf, hk, hl⟩ => by
    obtain ⟨k0, k4, _, _, _, _, hs, _, hn⟩ := hf
    have e1 : (enc k.toNat).length = 1 := enc_one (by omega)
    have e2 : (enc s.size).length = 1 := enc_small hs
    have e3 : (enc l.length).length = 1 := enc_one hn
    have hd : 210 ≤ BD d := by cases d <;> simp [BD]
    unfold bytesT
    rw [List.length_append, e1]
    split
    · rw [be_length]; omega
    · split
      · rw [be_length]; omega
      · split
        · rw [List.length_append, e2, str_len]; omega
        · split
          · rename_i h4
            rw [List.length_append, e3]
            have hd0 := hk h4
            obtain ⟨d', rfl⟩ : ∃ d', d = d' + 1 := ⟨d - 1, by omega⟩
            have := flat_bd l (B := BD d') (fun i t ht => bytes_bd n d' t (by have := hl i t ht; rwa [show (((d' + 1 : Nat) : Int) - 1) = (d' : Int) by omega] at this))
            have h12 : l.length * BD d' ≤ 12 * BD d' := Nat.mul_le_mul_right _ hn
            simp only [BD]
            omega
          · simp; omega
/-- What a writer of the reference gives. -/
def RH (w : World) (l : List UInt8) (e : Ending) (w' : World) : Prop := ∃ v', e = .returned v' ∧ Lib.HoldsBytes w' v' l ∧ Below w.heap.size w w'
def BytesAt (n : Nat) : Prop := ∀ (d : Nat) (v : Value) (t : Tv) (b : Value) (L : List UInt8) (w : World), Is w n v t → ShapeT n (d : Int) t → Lib.HoldsBytes w b L → L.length + BD d ≤ 70368744177663 → Calls Tryd.prog 41 #[b, v] w (RH w (L ++ bytesT n t))
theorem holds_sliceY {w : World} {v : Value} {l : List UInt8} (h : Lib.HoldsBytes w v l) : ∃ p m c, v = .slice p m c := by obtain ⟨p, c, rfl, _⟩ := h; exact ⟨_, _, _, rfl⟩
set_option maxHeartbeats 2000000 in
set_option maxRecDepth 100000 in
theorem bytes_flat (k x : Int) (b : Nat) (s : ByteArray) (a : Option Addr) (c : Nat) (bv : Value) (L : List UInt8) (w : World) (hk0 : 0 ≤ k) (hk : k ≤ 3) (hx : (Lit.int .i64 x).wf = true) (hb : b < 18446744073709551616) (hs : s.size ≤ 200) (hv : Lib.HoldsBytes w bv L) (hl : L.length + 210 ≤ 70368744177663) :
    Calls Tryd.prog 41 #[bv, .agg #[.int .i64 k, .int .i64 x, .int .u64 (b : Int), .string s, .slice a 0 c]] w (RH w (L ++ (enc k.toNat ++ (if k = 1 then be (tn x) 8 else if k = 2 then be b 8 else if k = 3 then enc s.size ++ s.data.toList else [])))) := by
  have he : (enc k.toNat).length = 1 := enc_one (by omega)
  have HN : Hid (∀ W, Below w.heap.size w W → Calls Tryd.prog 59 #[bv, .int .i64 k] W (RB W (L ++ enc k.toNat))) := fun W hB => refNum_calls bv L k (by omega) W (holds_below hv hB) (by omega)
  obtain ⟨bp, bm, bc, rfl⟩ := holds_sliceY hv
  obtain ⟨M, hM⟩ : ∃ M, M = L ++ enc k.toNat := ⟨_, rfl⟩
  have hml : M.length ≤ 70368744177463 := by rw [hM, List.length_append]; omega
  rw [← List.append_assoc]
  rw [← hM] at HN ⊢
  have H1 : Hid (∀ W v, Lib.HoldsBytes W v M → Calls Tryd.prog 60 #[v, .int .i64 x] W (RB W (M ++ be (tn x) 8))) := fun W v h => refInt_calls v M x hx W h (by omega)
  have H2 : Hid (∀ W v, Lib.HoldsBytes W v M → Calls Tryd.prog 61 #[v, .int .u64 (b : Int)] W (RB W (M ++ be b 8))) := fun W v h => refBits_calls v M b hb W h (by omega)
  have H3 : Hid (∀ W v, Lib.HoldsBytes W v M → Calls Tryd.prog 62 #[v, .string s] W (RB W (M ++ enc s.size ++ s.data.toList))) := fun W v h => refText_calls v M s W h (by omega) (by omega)
  clear hv hl he hM hml hx hb hs
  rcases (by omega : k = 0 ∨ k = 1 ∨ k = 2 ∨ k = 3) with rfl | rfl | rfl | rfl
  · rw [if_neg (by decide), if_neg (by decide), if_neg (by decide), List.append_nil]
    clear hk hk0
    go_enter Tryd.func41, Tryd.ntmps41
    go_wp2_with fail
    refine (HN.out _ (bel1 _ _)).mono ?_
    rintro e w1 ⟨v1, rfl, ho, hb⟩
    have HV : Hid (Lib.HoldsBytes w1 v1 M) := own_holds ho
    have HB : Hid (Below w.heap.size w w1) := bel2 (bel1 _ _) hb
    obtain ⟨p0, p1, p2, p3, p4⟩ := (box_at w (.int .i64 0) (.int .i64 x) (.int .u64 (b : Int)) (.string s) (.slice a 0 c)).below hb
    clear ho hb
    go_wp2_with fail
    go_ret
    exact ⟨_, rfl, HV.out, HB.out⟩
  · rw [if_pos rfl]
    clear hk hk0
    go_enter Tryd.func41, Tryd.ntmps41
    go_wp2_with fail
    refine (HN.out _ (bel1 _ _)).mono ?_
    rintro e w1 ⟨v1, rfl, ho, hb⟩
    have HV : Hid (Lib.HoldsBytes w1 v1 M) := own_holds ho
    have HB : Hid (Below w.heap.size w w1) := bel2 (bel1 _ _) hb
    obtain ⟨p0, p1, p2, p3, p4⟩ := (box_at w (.int .i64 1) (.int .i64 x) (.int .u64 (b : Int)) (.string s) (.slice a 0 c)).below hb
    clear ho hb
    go_wp2_with fail
    refine (H1.out _ _ HV.out).mono ?_
    rintro e w2 ⟨v2, rfl, ho, hb⟩
    have HV2 : Hid (Lib.HoldsBytes w2 v2 _) := own_holds ho
    have HB2 : Hid (Below w.heap.size w w2) := bel2 HB.out hb
    clear ho hb
    go_wp2_with fail
    go_ret
    exact ⟨_, rfl, HV2.out, HB2.out⟩
  · rw [if_neg (by decide), if_pos rfl]
    clear hk hk0
    go_enter Tryd.func41, Tryd.ntmps41
    go_wp2_with fail
    refine (HN.out _ (bel1 _ _)).mono ?_
    rintro e w1 ⟨v1, rfl, ho, hb⟩
    have HV : Hid (Lib.HoldsBytes w1 v1 M) := own_holds ho
    have HB : Hid (Below w.heap.size w w1) := bel2 (bel1 _ _) hb
    obtain ⟨p0, p1, p2, p3, p4⟩ := (box_at w (.int .i64 2) (.int .i64 x) (.int .u64 (b : Int)) (.string s) (.slice a 0 c)).below hb
    clear ho hb
    go_wp2_with fail
    refine (H2.out _ _ HV.out).mono ?_
    rintro e w2 ⟨v2, rfl, ho, hb⟩
    have HV2 : Hid (Lib.HoldsBytes w2 v2 _) := own_holds ho
    have HB2 : Hid (Below w.heap.size w w2) := bel2 HB.out hb
    clear ho hb
    go_wp2_with fail
    go_ret
    exact ⟨_, rfl, HV2.out, HB2.out⟩
  · rw [if_neg (by decide), if_neg (by decide), if_pos rfl, ← List.append_assoc]
    clear hk hk0
    go_enter Tryd.func41, Tryd.ntmps41
    go_wp2_with fail
    refine (HN.out _ (bel1 _ _)).mono ?_
    rintro e w1 ⟨v1, rfl, ho, hb⟩
    have HV : Hid (Lib.HoldsBytes w1 v1 M) := own_holds ho
    have HB : Hid (Below w.heap.size w w1) := bel2 (bel1 _ _) hb
    obtain ⟨p0, p1, p2, p3, p4⟩ := (box_at w (.int .i64 3) (.int .i64 x) (.int .u64 (b : Int)) (.string s) (.slice a 0 c)).below hb
    clear ho hb
    go_wp2_with fail
    refine (H3.out _ _ HV.out).mono ?_
    rintro e w2 ⟨v2, rfl, ho, hb⟩
    have HV2 : Hid (Lib.HoldsBytes w2 v2 _) := own_holds ho
    have HB2 : Hid (Below w.heap.size w w2) := bel2 HB.out hb
    clear ho hb
    go_wp2_with fail
    go_ret
    exact ⟨_, rfl, HV2.out, HB2.out⟩
end Go.Proofs.YtddigndamimmpaaDoor
namespace Go.Proofs.YtddigndamimmpaaDoor
open Go.ChangeShapes Go.WideShapes Go.ChangeAt Go.RowKit Go.BigFrame
set_option maxHeartbeats 2000000 in
set_option maxRecDepth 100000 in
theorem bytes_list (n d : Nat) (ih : BytesAt n) (x : Int) (b : Int) (s : ByteArray) (a : Option Addr) (c : Nat) (l : List Tv) (bv : Value) (L : List UInt8) (w : World) (hn : l.length ≤ 12) (hr : Row (Is w n) w a l) (hs : ∀ (i : Nat) t, l[i]? = some t → ShapeT n (d : Int) t) (hv : Lib.HoldsBytes w bv L) (hl : L.length + BD (d + 1) ≤ 70368744177663) :
    Calls Tryd.prog 41 #[bv, .agg #[.int .i64 4, .int .i64 x, .int .u64 b, .string s, .slice a l.length c]] w (RH w (L ++ enc 4 ++ enc l.length ++ (l.map (bytesT n)).flatten)) := by
  have hbd : ∀ (i : Nat) t, l[i]? = some t → (bytesT n t).length ≤ BD d := fun i t ht => bytes_bd n d t (hs i t ht)
  have hfl : ∀ j, (((l.take j).map (bytesT n)).flatten).length ≤ 12 * BD d := fun j => by
    have h1 := flat_le (n := n) (l := l) (j := j)
    have h2 := flat_bd l hbd
    have h3 : l.length * BD d ≤ 12 * BD d := Nat.mul_le_mul_right _ hn
    omega
  have e1 : (enc 4).length = 1 := enc_one (by omega)
  have e2 : (enc l.length).length = 1 := enc_one hn
  simp only [BD] at hl
  have HN : Hid (∀ W, Below w.heap.size w W → Calls Tryd.prog 59 #[bv, .int .i64 4] W (RB W (L ++ enc 4))) := fun W hB => refNum_calls bv L 4 (by omega) W (holds_below hv hB) (by omega)
  have HM : Hid (∀ W v, Lib.HoldsBytes W v (L ++ enc 4) → Calls Tryd.prog 59 #[v, .int .i64 (l.length : Int)] W (RB W (L ++ enc 4 ++ enc l.length))) := fun W v h => by
    have := refNum_calls v (L ++ enc 4) (l.length : Int) (by omega) W h (by rw [List.length_append]; omega)
    rwa [Int.toNat_natCast] at this
  obtain ⟨M, hM⟩ : ∃ M, M = L ++ enc 4 ++ enc l.length := ⟨_, rfl⟩
  have hml : M.length = L.length + 2 := by rw [hM, List.length_append, List.length_append]; omega
  rw [← hM] at HM ⊢
  obtain ⟨bp, bm, bc, rfl⟩ := holds_sliceY hv
  have HI : Hid (∀ (j : Nat) (hj : j < l.length) (v : Value) (bv : Value) (W : World), Is W n v (l[j]) → Lib.HoldsBytes W bv (M ++ ((l.take j).map (bytesT n)).flatten) → Calls Tryd.prog 41 #[bv, v] W (RH W (M ++ ((l.take (j + 1)).map (bytesT n)).flatten))) := fun j hj v bv W hi hb => by
    have := ih d v l[j] bv _ W hi (hs j _ (List.getElem?_eq_getElem hj)) hb (by rw [List.length_append]; have := hfl j; omega)
    rwa [List.append_assoc, ← flat_more hj] at this
  have HR : Hid (Row (Is w n) w a l) := hr
  obtain ⟨N, hN⟩ : ∃ N, N = l.length := ⟨_, rfl⟩
  rw [← hN] at HM ⊢
  have HNN : Hid (N = l.length ∧ N ≤ 12) := ⟨hN, by omega⟩
  clear hr hv hl hs hbd hfl e1 e2 hM hml hN hn ih
  go_enter Tryd.func41, Tryd.ntmps41
  go_wp2_with fail
  refine (HN.out _ (bel1 _ _)).mono ?_
  rintro e w1 ⟨v1, rfl, ho, hb⟩
  have HV : Hid (Lib.HoldsBytes w1 v1 _) := own_holds ho
  have HB : Hid (Below w.heap.size w w1) := bel2 (bel1 _ _) hb
  have HP : Hid (At5 w1 w.heap.size 0 (.int .i64 4) (.int .i64 x) (.int .u64 b) (.string s) (.slice a N c)) := (box_at w (.int .i64 4) (.int .i64 x) (.int .u64 b) (.string s) (.slice a N c)).below hb
  clear ho hb
  obtain ⟨p0, p1, p2, p3, p4⟩ := HP.out
  go_wp2_with fail
  refine (HM.out _ _ HV.out).mono ?_
  rintro e w2 ⟨v2, rfl, ho, hb⟩
  have HV2 : Hid (Lib.HoldsBytes w2 v2 M) := own_holds ho
  have HB2 : Hid (Below w.heap.size w w2) := bel2 HB.out hb
  have HP2 : Hid (At5 w2 w.heap.size 0 (.int .i64 4) (.int .i64 x) (.int .u64 b) (.string s) (.slice a N c)) := HP.out.below hb
  clear ho hb p0 p1 p2 p3 p4
  go_wp2_with fail
  go_loopw [0, 5] (fun bb i wr => ∃ j : Nat, j ≤ N ∧ i = .int .i64 j ∧ Hid (Lib.HoldsBytes wr bb (M ++ ((l.take j).map (bytesT n)).flatten)) ∧ Hid (Below w2.heap.size w2 wr)) (fun _ i _ => N - (intOf i).toNat)
  case atStart => exact ⟨0, Nat.zero_le _, rfl, by simpa using HV2, Below.refl _ _⟩
  case round =>
    obtain ⟨j, hj, rfl, HE, HBr⟩ := hrel
    obtain ⟨p0, p1, p2, p3, p4⟩ := HP2.out.below HBr.out
    by_cases hlt : j < N
    · have HT : Hid (j < l.length) := by have := HNN.out.1; show _ < _; omega
      obtain ⟨B, o, c0, c1, c2, c3, c4, rfl, h5, hi⟩ := HR.out j _ (List.getElem?_eq_getElem HT.out)
      obtain ⟨k', x', b', s', a', m', c', rfl, rfl, rfl, rfl, rfl⟩ := hi.shape
      have HBw := bel2 HB2.out HBr.out
      obtain ⟨e0, e1, e2, e3, e4⟩ := h5.below HBw
      have C0 : Hid (Calls Tryd.prog 41 #[_, _] wr _) := HI.out j HT.out _ _ wr (hi.below HBw) HE.out
      have HW : Hid (wrap64 ((j : Int) + 1) = ((j + 1 : Nat) : Int)) := wr1 hlt (by have := HNN.out.2; omega)
      have hjl : (j : Int) < (N : Int) := by omega
      clear hi h5 HBw
      go_wp2_with fail
      refine C0.out.mono ?_
      rintro x w3 ⟨v3, rfl, hv3, hb3⟩
      have HV3 : Hid (Lib.HoldsBytes w3 v3 _) := hv3
      have HB3 : Hid (Below w2.heap.size w2 w3) := bel2 HBr.out hb3
      clear hv3 hb3
      go_wp2_with fail
      exact ⟨⟨j + 1, hlt, by rw [HW.out], HV3, HB3⟩, meas hlt HW.out⟩
    · obtain rfl : j = N := by omega
      go_wp2_with fail
      go_ret
      refine ⟨_, rfl, ?_, bel2 HB2.out HBr.out⟩
      have := HE.out
      rwa [List.take_of_length_le (by have := HNN.out.1; omega)] at this
theorem bytes_calls45 : ∀ n, BytesAt n := by
  intro n
  induction n with
  | zero => intro d v t b L w h; exact h.elim
  | succ n ih =>
    rintro d v ⟨k, x, b, s, l⟩ bv L w ⟨a, c, rfl, hf, hr⟩ ⟨hfi, hk, hs⟩ hv hl
    obtain ⟨b, rfl⟩ : ∃ m : Nat, b = m := ⟨b.toNat, by have := hf.b0; omega⟩
    obtain ⟨k0, k4, _, _, _, _, hsz, hn0, hn⟩ := hfi
    have hd : 210 ≤ BD d := by cases d <;> simp [BD]
    by_cases h4 : k = 4
    · subst h4
      obtain ⟨d', rfl⟩ : ∃ d', d = d' + 1 := ⟨d - 1, by have := hk rfl; omega⟩
      have := bytes_list n d' ih x b s a c l bv L w hn hr (fun i t ht => by have := hs i t ht; rwa [show (((d' + 1 : Nat) : Int) - 1) = (d' : Int) by omega] at this) hv hl
      unfold bytesT
      rw [if_neg (by decide), if_neg (by decide), if_neg (by decide), if_pos rfl, ← List.append_assoc, ← List.append_assoc]
      exact this
    · obtain rfl : l = [] := List.eq_nil_of_length_eq_zero (hn0.resolve_left h4)
      have hx : (Lit.int .i64 x).wf = true := by
        have h1 := hf.x0
        have h2 := hf.x1
        simp only [Lit.wf, IntKind.min, IntKind.max, IntKind.signed, IntKind.bits, Bool.and_eq_true, decide_eq_true_eq, if_true]
        omega
      have := bytes_flat k x b s a c bv L w k0 (by omega) hx (by have := hf.b1; omega) hsz hv (by omega)
      unfold bytesT
      rw [if_neg (c := k = 4) h4, Int.toNat_natCast]
      exact this
end Go.Proofs.YtddigndamimmpaaDoor
namespace Go.Proofs.YtddigndamimmpaaDoor
open Go.ChangeShapes Go.WideShapes Go.ChangeAt Go.RowKit Go.BigFrame
/-- What a Check says. -/
def VkP (w : World) (p : Prop) (e : Ending) (w' : World) : Prop := (∃ r : Int, e = .returned (.int .i64 r) ∧ (p → r = 0) ∧ (¬ p → r = 1)) ∧ Below w.heap.size w w'
theorem holds_len {w : World} {v : Value} {l : List UInt8} (h : Lib.HoldsBytes w v l) : ∃ p c, v = .slice p l.length c := by obtain ⟨p, c, rfl, _⟩ := h; exact ⟨_, _, rfl⟩
set_option maxHeartbeats 2000000 in
set_option maxRecDepth 100000 in
theorem rcheck_calls (n : Nat) (v : Value) (t : Tv) (w : World) (h : Is w n v t) : Calls Tryd.prog 26 #[v] w (VkP w (May n t)) := by
  have HS : Hid (∀ W, Below w.heap.size w W → Calls Tryd.prog 40 #[v, .int .i64 4] W (FP (ShapeT n 4 t) W)) := fun W hB => shape_calls n v t 4 W (by omega) (by omega) (h.below hB)
  have HBy : Hid (ShapeT n 4 t → ∀ W, Below w.heap.size w W → Calls Tryd.prog 41 #[.slice none 0 0, v] W (RH W (bytesT n t))) := fun hs W hB => by
    have := bytes_calls45 n 4 v t (.slice none 0 0) [] W (h.below hB) hs (holds_nil W) (by simp [BD])
    rwa [List.nil_append] at this
  obtain ⟨k, x, b, s, a, m, c, rfl⟩ : ∃ k x b s a m c, v = .agg #[.int .i64 k, .int .i64 x, .int .u64 b, .string s, .slice a m c] := by
    cases n with
    | zero => exact h.elim
    | succ n => obtain ⟨k, x, b, s, l⟩ := t; obtain ⟨a, c, rfl, _⟩ := h; exact ⟨_, _, _, _, _, _, _, rfl⟩
  clear h
  go_enter Tryd.func26, Tryd.ntmps26
  go_wp2_with fail
  refine (HS.out _ (bel1 _ _)).mono ?_
  rintro e w1 ⟨⟨r1, rfl, hr1⟩, hb1⟩
  have HB1 : Hid (Below w.heap.size w w1) := bel2 (bel1 _ _) hb1
  have HR1 : Hid (r1 = true ↔ ShapeT n 4 t) := hr1
  obtain ⟨p0, p1, p2, p3, p4⟩ := (box_at w (.int .i64 k) (.int .i64 x) (.int .u64 b) (.string s) (.slice a m c)).below hb1
  clear hb1 hr1
  cases r1 with
  | false =>
    go_wp2_with fail
    go_ret
    exact ⟨⟨1, rfl, fun q => (by cases HR1.out.2 q.1), fun _ => rfl⟩, HB1.out⟩
  | true =>
    have HSh : Hid (ShapeT n 4 t) := HR1.out.1 rfl
    clear HR1
    go_wp2_with fail
    refine (HBy.out HSh.out w1 HB1.out).mono ?_
    rintro e w2 ⟨v2, rfl, hv2, hb2⟩
    have HB2 : Hid (Below w.heap.size w w2) := bel2 HB1.out hb2
    obtain ⟨vp, vc, rfl⟩ := holds_len hv2
    clear hb2 hv2 p0 p1 p2 p3 p4
    obtain ⟨Z, hZ⟩ : ∃ Z, Z = (bytesT n t).length := ⟨_, rfl⟩
    have HZ : Hid (Z = (bytesT n t).length) := hZ
    rw [← hZ]
    clear hZ
    by_cases hb : 1000 < Z
    · have f1 : decide (1000 < (Z : Int)) = true := decide_eq_true (by omega)
      have f2 : decide (1000 < Z) = true := decide_eq_true hb
      have HH : Hid (1000 < Z) := hb
      clear hb
      go_wp2_with fail
      go_ret
      exact ⟨⟨1, rfl, fun q => absurd q.2 (by have := HH.out; have := HZ.out; omega), fun _ => rfl⟩, HB2.out⟩
    · have f1 : decide (1000 < (Z : Int)) = false := decide_eq_false (by omega)
      have f2 : decide (1000 < Z) = false := decide_eq_false hb
      have HH : Hid (¬ 1000 < Z) := hb
      clear hb
      go_wp2_with fail
      go_ret
      exact ⟨⟨0, rfl, fun _ => rfl, fun q => absurd ⟨HSh.out, by have := HH.out; have := HZ.out; omega⟩ q⟩, HB2.out⟩
end Go.Proofs.YtddigndamimmpaaDoor
namespace Go.Proofs.YtddigndamimmpaaDoor
open Go.ChangeShapes Go.WideShapes Go.ChangeAt Go.RowKit
theorem rletter_calls (c : Nat) (h : c < 256) (w : World) : Calls Tryd.prog 56 #[.int .u8 (c : Int)] w fun e w' => e = .returned (.bool (okc c)) ∧ w' = w := by
  go_enter Tryd.func56, Tryd.ntmps56
  go_wp2
  all_goals go_ret
  all_goals refine ⟨?_, rfl⟩
  all_goals show Ending.returned (Value.bool _) = Ending.returned (Value.bool _)
  all_goals congr 2
  all_goals rw [Bool.eq_iff_iff]
  all_goals simp [okc, lett, digi]
  all_goals omega
theorem rname_calls (s : ByteArray) (w : World) : Calls Tryd.prog 36 #[.string s] w fun e w' => e = .returned (.bool (nmB s)) ∧ w' = w := by
  by_cases h1 : s.size < 1
  · rw [nm_small s h1]
    have d1 : decide ((s.size : Int) < 1) = true := decide_eq_true (by omega)
    go_enter Tryd.func36, Tryd.ntmps36
    go_wp2
    go_ret
    exact ⟨rfl, rfl⟩
  by_cases h2 : 24 < s.size
  · rw [nm_big s h2]
    have d1 : decide ((s.size : Int) < 1) = false := decide_eq_false (by omega)
    have d2 : decide (24 < (s.size : Int)) = true := decide_eq_true (by omega)
    go_enter Tryd.func36, Tryd.ntmps36
    go_wp2
    go_ret
    exact ⟨rfl, rfl⟩
  have d1 : decide ((s.size : Int) < 1) = false := decide_eq_false (by omega)
  have d2 : decide (24 < (s.size : Int)) = false := decide_eq_false (by omega)
  have g1 : 1 ≤ s.size := by omega
  have g2 : s.size ≤ 24 := by omega
  have h0 : 0 < s.size := by omega
  rw [nm_in s g1 g2]
  clear h1 h2
  by_cases h3 : s[0].toNat = 46 ∨ s[0].toNat = 45
  · rw [allG_false s (fun h => by have := h 0 h0; rw [gd_zero _ h3] at this; cases this)]
    rcases h3 with h3 | h3
    · have e1 : ((s[0].toNat : Int) == 46) = true := by rw [h3]; rfl
      go_enter Tryd.func36, Tryd.ntmps36
      go_wp2
      go_ret
      exact ⟨rfl, rfl⟩
    · have e1 : ((s[0].toNat : Int) == 46) = false := by rw [h3]; rfl
      have e2 : ((s[0].toNat : Int) == 45) = true := by rw [h3]; rfl
      go_enter Tryd.func36, Tryd.ntmps36
      go_wp2
      go_ret
      exact ⟨rfl, rfl⟩
  have e1 : ((s[0].toNat : Int) == 46) = false := by simp; omega
  have e2 : ((s[0].toNat : Int) == 45) = false := by simp; omega
  have H3 : Hid (∀ i (h : i < s.size), i = 0 → ¬ (s[i].toNat = 46 ∨ s[i].toNat = 45)) := by
    intro i h e
    subst e
    exact h3
  clear h3
  go_enter Tryd.func36, Tryd.ntmps36
  go_wp2
  go_loop [3] (fun i => ∃ j : Nat, j ≤ s.size ∧ i = .int .i64 j ∧ Hid (∀ i (_ : i < j) (h : i < s.size), gd i s[i] = true)) (fun i => s.size - (intOf i).toNat)
  case atStart => exact ⟨0, Nat.zero_le _, rfl, fun i h => absurd h (by omega)⟩
  case round =>
    obtain ⟨j, hj, rfl, HG⟩ := hrel
    by_cases hlt : j < s.size
    · have hc : s[j].toNat < 256 := s[j].toNat_lt
      have LC : Hid (Calls _ _ _ _ _) := rletter_calls s[j].toNat hc w
      have hw : wrap64 ((j : Int) + 1) = (j : Int) + 1 := by unfold wrap64; omega
      cases hL : okc s[j].toNat with
      | true =>
        rw [hL] at LC
        have HQ : Hid (∀ i (_ : i < j + 1) (h : i < s.size), gd i s[i] = true) := by
          intro i hi h2
          by_cases e : i = j
          · subst e; exact gd_ok _ _ hL (H3.out _ h2)
          · exact HG.out i (by omega) h2
        clear hL
        go_wp2_with fail
        refine Calls.mono LC.out ?_
        rintro e w1 ⟨rfl, hw1⟩
        have hw2 := hw1.symm
        subst hw2
        go_wp2
        go_round
        case rel => exact ⟨j + 1, hlt, by first | rfl | (rw [hw]; rfl), HQ⟩
        case measure => first | exact measM _ _ hlt | (rw [hw]; exact measM _ _ hlt)
      | false =>
        rw [hL] at LC
        have HQ : Hid (allG s = false) := allG_false s (fun h => by have := h j hlt; rw [gd_bad _ _ hL] at this; cases this)
        clear hL
        go_wp2_with fail
        refine Calls.mono LC.out ?_
        rintro e w1 ⟨rfl, hw1⟩
        have hw2 := hw1.symm
        subst hw2
        go_wp2
        go_ret
        exact ⟨by rw [HQ.out]; rfl, rfl⟩
    · obtain rfl : j = s.size := by omega
      have HQ : Hid (allG s = true) := allG_true s (fun i h => HG.out i h h)
      go_wp2
      go_ret
      exact ⟨by rw [HQ.out]; rfl, rfl⟩
theorem rtext_calls (s : ByteArray) (w : World) : Calls Tryd.prog 37 #[.string s] w fun e w' => e = .returned (.bool (decide (s.size ≤ 200))) ∧ w' = w := by
  by_cases h : s.size ≤ 200
  · have h1 : (s.size : Int) ≤ 200 := by omega
    go_enter Tryd.func37, Tryd.ntmps37
    go_wp2
    go_ret
    simp [h]
  · have h1 : ¬ (s.size : Int) ≤ 200 := by omega
    go_enter Tryd.func37, Tryd.ntmps37
    go_wp2
    go_ret
    simp
end Go.Proofs.YtddigndamimmpaaDoor
