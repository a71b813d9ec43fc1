/- The Go function StateForward returns true for every input, and its arguments read afterwards as they did before: put together from EQ JA MR HC HD (moved from the event seat), XF XG XH XI XJ XK SW XL XM XN XO XQ XR and the law's text. -/
import Derived.Test.YthphgkaifnacbaaGreatRows
import Derived.Test.YthphgkaifnacbaaGreatPP
import Derived.Test.YthphgkaifnacbaaGreatFT1
import Derived.Test.YthphgkaifnacbaaGreatFFm
import Derived.WalkKit
import Derived.WalkLawsBesides
import Derived.ProofKit
import Derived.OpenShut
import Derived.Test.YthphgkaifnacbaaGreatFCon
import Derived.Laws.BitsAllLaws
import Derived.Test.YthphgkaifnacbaaGreatPE
import Derived.Test.YthphgkaifnacbaaGreatPR
import Derived.Test.YthphgkaifnacbaaGreatPS
import Derived.Test.YthphgkaifnacbaaGreatPQ
import Derived.Lib.AppendStr
import Derived.Shelf.Bytes.SlClone
import Derived.Test.YthphgkaifnacbaaGreatLA
import Derived.Deep.QuietTactic
import Derived.BigQuiet
import Derived.Test.YthphgkaifnacbaaGreatVK
import Derived.Test.YthphgkaifnacbaaGreatVB
import Derived.Deep.DeepCutAuto
import Derived.Test.YthphgkaifnacbaaGreatVI
import Derived.Test.YthphgkaifnacbaaGreatMB
import Derived.Test.YthphgkaifnacbaaGreatGA
import Derived.Test.YthphgkaifnacbaaGreatUX
import Derived.Deep.RegionHeld3
import Derived.Test.YthphgkaifnacbaaGreatSQ
import Derived.Test.YthphgkaifnacbaaGreatSS
import Derived.ChangeOld
import Derived.Below
import Derived.SizedLaws
namespace Go.Proofs.YthphgkaifnacbaaGreat
open Go.ChangeShapes Go.WideShapes Go.ChangeAt Go.RowKit
open FM

attribute [local go_sem] o_eq o_lt o_gt o_ne frombits tobits

theorem refCanon_calls (x : Nat) (w : World) : Calls Tryz.prog 63 #[.int .u64 (x : Int)] w fun e w' => e = .returned (.int .u64 (cn x : Nat)) ∧ w' = w := by
  cases hx : isN x
  · have hc : cn x = x := by simp [cn, hx]
    rw [hc]
    go_enter Tryz.func63, Tryz.ntmps63
    go_wp2
    go_ret
    exact ⟨rfl, rfl⟩
  · have hc : cn x = 9221120237041090560 := by simp [cn, hx]
    rw [hc]
    go_enter Tryz.func63, Tryz.ntmps63
    go_wp2
    go_ret
    exact ⟨rfl, rfl⟩
theorem nan_calls (x : Nat) (w : World) : Calls Tryz.prog 91 #[.int .u64 (x : Int)] w fun e w' => e = .returned (.bool (isN x)) ∧ w' = w := by
  go_enter Tryz.func91, Tryz.ntmps91
  go_wp2
  go_ret
  exact ⟨rfl, rfl⟩
end Go.Proofs.YthphgkaifnacbaaGreat
namespace Go.Proofs.YthphgkaifnacbaaGreat
open Go.ChangeShapes Go.WideShapes Go.ChangeAt Go.RowKit
open FM
attribute [local go_sem] o_eq o_lt o_gt o_ne frombits tobits emod_top eql_inf eql_zero lss_sub
theorem refKind_calls (x : Nat) (w : World) : Calls Tryz.prog 64 #[.int .u64 (x : Int)] w fun e w' => e = .returned (.int .i64 (kd x)) ∧ w' = w := by
  cases h1 : isN x
  · cases h2 : isI x
    · cases h3 : isZ x
      · cases h4 : isS x
        · have hk : kd x = 5 := by simp [kd, h1, h2, h3, h4]
          rw [hk]
          go_enter Tryz.func64, Tryz.ntmps64
          go_wp2
          go_ret
          exact ⟨rfl, rfl⟩
        · have hk : kd x = 4 := by simp [kd, h1, h2, h3, h4]
          rw [hk]
          go_enter Tryz.func64, Tryz.ntmps64
          go_wp2
          go_ret
          exact ⟨rfl, rfl⟩
      · have hk : kd x = 3 := by simp [kd, h1, h2, h3]
        rw [hk]
        go_enter Tryz.func64, Tryz.ntmps64
        go_wp2
        go_ret
        exact ⟨rfl, rfl⟩
    · have hk : kd x = 2 := by simp [kd, h1, h2]
      rw [hk]
      go_enter Tryz.func64, Tryz.ntmps64
      go_wp2
      go_ret
      exact ⟨rfl, rfl⟩
  · have hk : kd x = 1 := by simp [kd, h1]
    rw [hk]
    go_enter Tryz.func64, Tryz.ntmps64
    go_wp2
    go_ret
    exact ⟨rfl, rfl⟩
end Go.Proofs.YthphgkaifnacbaaGreat
namespace Go.Proofs.YthphgkaifnacbaaGreat
open Go.ChangeShapes Go.WideShapes Go.ChangeAt Go.RowKit
theorem copied_calls (v : Value) (l : List UInt8) (w : World) (hv : Lib.HoldsBytes w v l) (hl : l.length ≤ 70368744177664) :
    Calls Tryz.prog 108 #[v] w fun e w' => ∃ v', e = .returned v' ∧ Own w.heap.size w' v' l ∧ Below w.heap.size w w' := by
  obtain ⟨p, cap, rfl, h1, h2⟩ := hv
  obtain ⟨i0, hi, hz0, hz1, hz2⟩ := info_parts Tryz.info5
  cases p with
  | none =>
    have hn : l = [] := h1 rfl
    subst hn
    clear h1 h2 hl
    go_enter Tryz.func108, Tryz.ntmps108
    go_wp2
    go_ret
    exact ⟨_, rfl, World.ownsRow_nil _ _ _ _, Below.refl _ _⟩
  | some a =>
    have HC : Hid (∀ (i : Nat) x, l[i]? = some x → w.cell? (a.add i) = some (.int .u8 (x.toNat : Int))) := h2 a rfl
    clear h1 h2
    go_enter Tryz.func108, Tryz.ntmps108
    go_wp2_with (at_builtin; refine wpList_append_own _ rfl _ _ 82 rfl w.heap.size 5 i0 (.int .u8 0) 1 1 Tryz.underlying82 hi hz0 hz1 hz2 rfl (by decide) _ _ _ rfl (World.ownsRow_nil _ _ _ _) a l.length cap (bval l) rfl ?qc1 ?qc2 ?qc3 ?qc4 ?qc5 ?qc6 ?_)
    case qc1 => simp [bval]
    case qc2 =>
      intro j u hj
      unfold bval at hj
      rw [List.getElem?_map] at hj
      obtain ⟨x, hx, rfl⟩ := Option.map_eq_some_iff.1 hj
      exact HC.out j x hx
    case qc3 => intro u hu; obtain ⟨x, _, rfl⟩ := List.mem_map.1 hu; rfl
    case qc4 => unfold maxLen; omega
    case qc5 => omega
    case qc6 => exact Nat.le_refl _
    intro v' w1 hown hgrow hnil
    go_wp2
    go_ret
    refine ⟨v', rfl, by simpa [Own] using hown, ?_⟩
    exact (Below.refl _ w).grown hgrow (Nat.le_refl _) (by intro k hk; simp [Value.ownBlock] at hk)
set_option maxHeartbeats 1000000 in
theorem high_calls (B : Nat) (v : Value) (l : List UInt8) (x k : Nat) (w : World) (hx : x < 18446744073709551616) (hk : k ≤ 8) (hB : B ≤ w.heap.size) (hv : Own B w v l) (hl : l.length ≤ 70368744177664) :
    Calls Tryz.prog 110 #[v, .int .u64 (x : Int), .int .i64 (k : Int)] w fun e w' => ∃ v', e = .returned v' ∧ Own B w' v' (l ++ be x k) ∧ Below B w w' := by
  obtain ⟨i0, hi, hz0, hz1, hz2⟩ := info_parts Tryz.info5
  have HV : Hid (Own B w v l) := hv
  clear hv
  obtain ⟨L, hL⟩ : ∃ L, L = l ++ be x k := ⟨_, rfl⟩
  have HL : Hid (L = l ++ be x k) := hL
  rw [← hL]
  have HX : Hid (x < 18446744073709551616) := hx
  clear hL hx
  go_enter Tryz.func110, Tryz.ntmps110
  go_wp2
  go_loopw [0, 2] (fun b i wr => ∃ (j : Nat) (acc : List UInt8), j ≤ k ∧ i = .int .i64 j ∧ Hid (Own B wr b acc) ∧ Hid (Below B w wr) ∧ Hid (acc ++ be x j = L)) (fun _ i _ => (intOf i).toNat)
  case atStart => exact ⟨k, l, Nat.le_refl _, rfl, HV, Below.refl _ _, HL.out.symm⟩
  case round =>
    obtain ⟨j, acc, hj, rfl, HO, HB, HE⟩ := hrel
    cases j with
    | zero =>
      go_wp2
      go_ret
      have he : acc = L := by have := HE.out; simpa [be] using this
      rw [he] at HO
      exact ⟨_, rfl, HO.out, HB.out⟩
    | succ j =>
      have hj0 : (0 : Int) < ((j + 1 : Nat) : Int) := by omega
      have hacc : acc.length ≤ 70368744177672 := by
        have h1 := congrArg List.length HE.out
        rw [HL.out] at h1
        simp [be_length] at h1
        omega
      have hws : B ≤ wr.heap.size := Nat.le_trans hB HB.out.size
      go_wp2
      go_loop [7, 8] (fun y i => ∃ m : Nat, m ≤ j ∧ i = .int .i64 m ∧ y = .int .u64 ((x / 256 ^ m : Nat) : Int)) (fun _ i => j - (intOf i).toNat)
      case atStart => exact ⟨0, Nat.zero_le _, rfl, by simp⟩
      case round =>
        obtain ⟨m, hm, rfl, rfl⟩ := hrel
        have HS : Hid (x / 256 ^ (m + 1) = x / 256 ^ m / 256) := div_step x m
        obtain ⟨q, hq⟩ : ∃ q, x / 256 ^ m = q := ⟨_, rfl⟩
        rw [hq] at HS ⊢
        have HQ : Hid (x / 256 ^ m = q) := hq
        have hqu : (q : Int) ≤ 18446744073709551615 := by
          have h1 := HX.out
          have h2 := Nat.div_le_self x (256 ^ m)
          omega
        clear hq
        by_cases hlt : m < j
        · go_wp2
          go_round
          case rel => exact ⟨m + 1, by omega, by go_num, by rw [HS.out]; go_num⟩
          case measure => simp [intOf]; omega
        · obtain rfl : m = j := by omega
          go_wp2_with (at_builtin; refine wpList_append_own _ rfl _ _ 82 rfl B 5 i0 (.int .u8 0) 1 1 Tryz.underlying82 hi hz0 hz1 hz2 rfl (by decide) _ _ _ rfl (HO.out.alloc _) ⟨wr.heap.size, 0, none⟩ 1 1 (bval [UInt8.ofNat q]) rfl ?qc1 ?qc2 ?qc3 ?qc4 ?qc5 ?qc6 ?_)
          case qc1 => rfl
          case qc2 =>
            intro i u hu
            rw [byte_lit q]
            exact hu
          case qc3 => intro u hu; obtain ⟨x, _, rfl⟩ := List.mem_map.1 hu; rfl
          case qc4 => unfold maxLen; omega
          case qc5 => omega
          case qc6 => omega
          intro v' w1 hown hgrow hnil
          have HW : Hid (Own B w1 v' (acc ++ [UInt8.ofNat q])) := by
            show w1.ownsRow B 5 1 v' _ _
            have e1 : (acc ++ [UInt8.ofNat q]).length = acc.length + 1 := by simp
            have e2 : bval (acc ++ [UInt8.ofNat q]) = bval acc ++ bval [UInt8.ofNat q] := by simp [bval]
            rw [e1, e2]
            exact hown
          have HBW : Hid (Below B w w1) := by
            refine (HB.out.alloc hws _).grown hgrow (by simp; omega) ?_
            intro kk hkk
            exact (World.ownsRow.lt HO.out kk hkk).1
          clear hown hgrow hnil
          go_wp2
          go_roundw
          case rel =>
            refine ⟨m, acc ++ [UInt8.ofNat q], by omega, by go_num, HW, HBW, ?_⟩
            show _ = L
            rw [← HE.out, ← HQ.out, pow_256]
            simp [be]
          case measure => simp [intOf]
end Go.Proofs.YthphgkaifnacbaaGreat
namespace Go.Proofs.YthphgkaifnacbaaGreat
open Go.ChangeShapes Go.WideShapes Go.ChangeAt Go.RowKit
theorem bytes_calls (x : Nat) (w : World) (hx : x < 9223372036854775808) : Calls Tryz.prog 109 #[.int .i64 (x : Int)] w fun e w' => e = .returned (.int .i64 (nb x : Nat)) ∧ w' = w := by
  have HX : Hid (x < 9223372036854775808) := hx
  have HB : Hid (nb x ≤ 8) := by
    show nb x ≤ 8
    have := bl_le x hx
    unfold nb; omega
  clear hx
  go_enter Tryz.func109, Tryz.ntmps109
  go_wp2
  go_loop [0, 3] (fun n k => ∃ j q : Nat, Hid (x / 256 ^ j = q) ∧ Hid (j = 0 ∨ 0 < x / 256 ^ (j - 1)) ∧ j ≤ 9 ∧ n = .int .i64 q ∧ k = .int .i64 j) (fun n _ => (intOf n).toNat)
  case atStart => exact ⟨0, x, (show x / 256 ^ 0 = x by simp), .inl rfl, by omega, rfl, rfl⟩
  case round =>
    obtain ⟨j, q, HQ, HP, hj, rfl, rfl⟩ := hrel
    have hqu : (q : Int) ≤ 9223372036854775807 := by
      have h1 := HX.out
      have h2 := Nat.div_le_self x (256 ^ j)
      have h3 := HQ.out
      omega
    by_cases h0 : 0 < q
    · have hj8 : j ≤ 8 := by
        rcases Nat.lt_or_ge j 9 with h | h
        · omega
        · have a := nb_lt x
          have b := HB.out
          have c : (2 : Nat) ^ (8 * nb x) ≤ 2 ^ (8 * j) := Nat.pow_le_pow_right (by decide) (by omega)
          rw [← pow_256 j] at c
          have := Nat.div_eq_of_lt (Nat.lt_of_lt_of_le a c)
          have := HQ.out
          omega
      have h0z : (0 : Int) < (q : Int) := by omega
      go_wp2
      go_round
      case rel =>
        refine ⟨j + 1, q / 256, (show x / 256 ^ (j + 1) = q / 256 by rw [div_step, HQ.out]), (show Hid _ from .inr ?_), by omega, by go_num, by go_num⟩
        rw [Nat.add_sub_cancel, HQ.out]
        exact h0
      case measure => simp [intOf]; omega
    · obtain rfl : q = 0 := by omega
      have hn := nb_of x j HQ.out HP.out
      subst hn
      go_wp2
      go_ret
      exact ⟨rfl, rfl⟩
theorem refNum_small (v : Value) (l : List UInt8) (m : Nat) (n : Int) (hn : n < 240) (hm : m = n.toNat) (w : World) (hv : Lib.HoldsBytes w v l) (hl : l.length ≤ 70368744177664) : Calls Tryz.prog 86 #[v, .int .i64 n] w (RB w (l ++ enc m)) := by
  obtain ⟨i0, hi, hz0, hz1, hz2⟩ := info_parts Tryz.info5
  have HV : Hid (Lib.HoldsBytes w v l) := hv
  have HLL : Hid (l.length ≤ 70368744177664) := hl
  obtain ⟨L, hL⟩ : ∃ L, L = l ++ enc m := ⟨_, rfl⟩
  have HL : Hid (L = l ++ enc m) := hL
  rw [← hL]
  have HE : Hid (enc m = [UInt8.ofNat m]) := by show enc m = _; unfold enc; rw [if_pos (by omega)]
  have BY : Hid (bval [UInt8.ofNat m] = [.int .u8 (m : Int)]) := by
    show bval [UInt8.ofNat m] = _
    have e : ((UInt8.ofNat m).toNat : Int) = (m : Int) := by rw [UInt8.toNat_ofNat']; omega
    simp only [bval, List.map_cons, List.map_nil]
    rw [e]
  have hm240 : (m : Int) < 240 := by omega
  rw [HE.out] at HL
  obtain ⟨p, cap, rfl, q1, q2⟩ := hv
  clear q1 q2 hL
  by_cases h0 : n < 0
  · obtain rfl : m = 0 := by omega
    clear hm
    have BY0 : Hid (bval [UInt8.ofNat 0] = [.int .u8 0]) := BY.out
    clear BY
    go_enter Tryz.func86, Tryz.ntmps86
    go_wp2_with fail
    refine (copied_calls _ _ _ HV.out HLL.out).mono ?_
    rintro e w1 ⟨v1, rfl, ho, hb⟩
    have HO : Hid (Own w.heap.size w1 v1 l) := ho
    have HB : Hid (Below w.heap.size w w1) := hb
    clear ho hb
    go_wp2_with (at_builtin; refine wpList_append_own _ rfl _ _ 82 rfl w.heap.size 5 i0 (.int .u8 0) 1 1 Tryz.underlying82 hi hz0 hz1 hz2 rfl (by decide) _ _ _ rfl (HO.out.alloc _) ⟨w1.heap.size, 0, none⟩ 1 1 (bval [UInt8.ofNat 0]) rfl ?qc1 ?qc2 ?qc3 ?qc4 ?qc5 ?qc6 ?_)
    case qc1 => rfl
    case qc2 =>
      intro i u hu
      rw [BY0.out] at hu
      first | exact hu | (rw [add_plain, Nat.zero_add]; simpa using hu)
    case qc3 => intro u hu; obtain ⟨x, _, rfl⟩ := List.mem_map.1 hu; rfl
    case qc4 => unfold maxLen; omega
    case qc5 => omega
    case qc6 => have := HB.out.size; simp; omega
    intro v2 w2 hown hgrow hnil
    have HW : Hid (Own w.heap.size w2 v2 (l ++ [UInt8.ofNat 0])) := own_snoc hown
    have HBW : Hid (Below w.heap.size w w2) := by
      refine (HB.out.alloc HB.out.size _).grown hgrow (by have := HB.out.size; simp; omega) ?_
      intro kk hkk
      exact (World.ownsRow.lt HO.out kk hkk).1
    clear hown hgrow hnil
    go_wp2
    go_ret
    exact ⟨_, rfl, by rw [HL.out]; exact HW.out, HBW.out⟩
  · obtain rfl : n = (m : Int) := by omega
    clear hm
    go_enter Tryz.func86, Tryz.ntmps86
    go_wp2_with fail
    refine (copied_calls _ _ _ HV.out HLL.out).mono ?_
    rintro e w1 ⟨v1, rfl, ho, hb⟩
    have HO : Hid (Own w.heap.size w1 v1 l) := ho
    have HB : Hid (Below w.heap.size w w1) := hb
    clear ho hb
    go_wp2_with (at_builtin; refine wpList_append_own _ rfl _ _ 82 rfl w.heap.size 5 i0 (.int .u8 0) 1 1 Tryz.underlying82 hi hz0 hz1 hz2 rfl (by decide) _ _ _ rfl (HO.out.alloc _) ⟨w1.heap.size, 0, none⟩ 1 1 (bval [UInt8.ofNat m]) rfl ?qc1 ?qc2 ?qc3 ?qc4 ?qc5 ?qc6 ?_)
    case qc1 => rfl
    case qc2 =>
      intro i u hu
      rw [BY.out] at hu
      first | exact hu | (rw [add_plain, Nat.zero_add]; simpa using hu)
    case qc3 => intro u hu; obtain ⟨x, _, rfl⟩ := List.mem_map.1 hu; rfl
    case qc4 => unfold maxLen; omega
    case qc5 => omega
    case qc6 => have := HB.out.size; simp; omega
    intro v2 w2 hown hgrow hnil
    have HW : Hid (Own w.heap.size w2 v2 (l ++ [UInt8.ofNat m])) := own_snoc hown
    have HBW : Hid (Below w.heap.size w w2) := by
      refine (HB.out.alloc HB.out.size _).grown hgrow (by have := HB.out.size; simp; omega) ?_
      intro kk hkk
      exact (World.ownsRow.lt HO.out kk hkk).1
    clear hown hgrow hnil
    go_wp2
    go_ret
    exact ⟨_, rfl, by rw [HL.out]; exact HW.out, HBW.out⟩
end Go.Proofs.YthphgkaifnacbaaGreat
namespace Go.Proofs.YthphgkaifnacbaaGreat
open Go.ChangeShapes Go.WideShapes Go.ChangeAt Go.RowKit
theorem refNum_big (v : Value) (l : List UInt8) (m : Nat) (h0 : 240 ≤ m) (h1 : m < 9223372036854775808) (w : World) (hv : Lib.HoldsBytes w v l) (hl : l.length ≤ 70368744177663) : Calls Tryz.prog 86 #[v, .int .i64 (m : Int)] w (RB w (l ++ enc m)) := by
  obtain ⟨i0, hi, hz0, hz1, hz2⟩ := info_parts Tryz.info5
  have HV : Hid (Lib.HoldsBytes w v l) := hv
  have HLL : Hid (l.length ≤ 70368744177664) := by show l.length ≤ 70368744177664; omega
  obtain ⟨L, hL⟩ : ∃ L, L = l ++ enc m := ⟨_, rfl⟩
  have HL : Hid (L = l ++ enc m) := hL
  rw [← hL]
  have HE : Hid (enc m = [UInt8.ofNat (239 + nb m)] ++ be m (nb m)) := by show enc m = _; unfold enc; rw [if_neg (by omega)]; rfl
  obtain ⟨k1, k8⟩ := nb_bounds m h0 h1
  have BY : Hid (bval [UInt8.ofNat (239 + nb m)] = [.int .u8 (239 + (nb m : Nat) : Int)]) := by
    show bval [UInt8.ofNat (239 + nb m)] = _
    have e : ((UInt8.ofNat (239 + nb m)).toNat : Int) = 239 + (nb m : Nat) := by rw [UInt8.toNat_ofNat']; omega
    simp only [bval, List.map_cons, List.map_nil]
    rw [e]
  obtain ⟨b0, hb0⟩ : ∃ b, UInt8.ofNat (239 + nb m) = b := ⟨_, rfl⟩
  rw [hb0] at HE BY
  clear hb0
  have H1 : Hid (m < 9223372036854775808) := h1
  have d0 : decide ((m : Int) < 0) = false := decide_eq_false (by omega)
  have d1 : decide ((m : Int) < 240) = false := decide_eq_false (by omega)
  have hw : IntKind.u64.wrap (m : Int) = (m : Int) := by rw [IntKind.wrap_u64]; omega
  have HLM : Hid (l.length ≤ 70368744177663) := hl
  obtain ⟨p, cap, rfl, q1, q2⟩ := hv
  clear q1 q2 hL
  clear h0 h1
  go_enter Tryz.func86, Tryz.ntmps86
  go_wp2_with fail
  refine (bytes_calls _ _ H1.out).mono ?_
  rintro e w0 ⟨rfl, hw0⟩
  have hw00 := hw0.symm
  subst hw00
  go_wp2_with fail
  refine (copied_calls _ _ _ HV.out HLL.out).mono ?_
  rintro e w1 ⟨v1, rfl, ho, hb⟩
  have HO : Hid (Own w.heap.size w1 v1 l) := ho
  have HB : Hid (Below w.heap.size w w1) := hb
  clear ho hb
  go_wp2_with (at_builtin; refine wpList_append_own _ rfl _ _ 82 rfl w.heap.size 5 i0 (.int .u8 0) 1 1 Tryz.underlying82 hi hz0 hz1 hz2 rfl (by decide) _ _ _ rfl (HO.out.alloc _) ⟨w1.heap.size, 0, none⟩ 1 1 (bval [b0]) rfl ?qc1 ?qc2 ?qc3 ?qc4 ?qc5 ?qc6 ?_)
  case qc1 => rfl
  case qc2 =>
    intro i u hu
    rw [BY.out] at hu
    first | exact hu | (rw [add_plain, Nat.zero_add]; simpa using hu)
  case qc3 => intro u hu; obtain ⟨x, _, rfl⟩ := List.mem_map.1 hu; rfl
  case qc4 => unfold maxLen; omega
  case qc5 => omega
  case qc6 => have := HB.out.size; simp; omega
  intro v2 w2 hown hgrow hnil
  have HW : Hid (Own w.heap.size w2 v2 (l ++ [b0])) := own_snoc hown
  have HBW : Hid (Below w.heap.size w w2) := by
    refine (HB.out.alloc HB.out.size _).grown hgrow (by have := HB.out.size; simp; omega) ?_
    intro kk hkk
    exact (World.ownsRow.lt HO.out kk hkk).1
  clear hown hgrow hnil
  go_wp2_with fail
  refine (high_calls w.heap.size _ _ _ _ _ (by have := H1.out; omega) k8 HBW.out.size HW.out (by have := HLM.out; simp; omega)).mono ?_
  rintro e w3 ⟨v3, rfl, ho, hb⟩
  have HO3 : Hid (Own w.heap.size w3 v3 (l ++ [b0] ++ be m (nb m))) := ho
  have HB3 : Hid (Below w.heap.size w2 w3) := hb
  clear ho hb
  go_wp2
  go_ret
  refine ⟨_, rfl, ?_, HBW.out.trans HB3.out⟩
  rw [HL.out, HE.out, ← List.append_assoc]
  exact HO3.out
theorem refBits_calls (v : Value) (l : List UInt8) (x : Nat) (hx : x < 18446744073709551616) (w : World) (hv : Lib.HoldsBytes w v l) (hl : l.length ≤ 70368744177664) : Calls Tryz.prog 88 #[v, .int .u64 (x : Int)] w (RB w (l ++ be x 8)) := by
  have HV : Hid (Lib.HoldsBytes w v l) := hv
  have HLL : Hid (l.length ≤ 70368744177664) := hl
  obtain ⟨L, hL⟩ : ∃ L, L = l ++ be x 8 := ⟨_, rfl⟩
  have HL : Hid (L = l ++ be x 8) := hL
  rw [← hL]
  have HX : Hid (x < 18446744073709551616) := hx
  clear hx
  obtain ⟨p, cap, rfl, q1, q2⟩ := hv
  clear q1 q2 hL
  go_enter Tryz.func88, Tryz.ntmps88
  go_wp2_with fail
  refine (copied_calls _ _ _ HV.out HLL.out).mono ?_
  rintro e w1 ⟨v1, rfl, ho, hb⟩
  have HO : Hid (Own w.heap.size w1 v1 l) := ho
  have HB : Hid (Below w.heap.size w w1) := hb
  clear ho hb
  go_wp2_with fail
  refine (high_calls w.heap.size _ _ x 8 _ HX.out (by omega) HB.out.size HO.out HLL.out).mono ?_
  rintro e w3 ⟨v3, rfl, ho, hb⟩
  have HO3 : Hid (Own w.heap.size w3 v3 (l ++ be x 8)) := ho
  have HB3 : Hid (Below w.heap.size w1 w3) := hb
  clear ho hb
  go_wp2
  go_ret
  exact ⟨_, rfl, by rw [HL.out]; exact HO3.out, HB.out.trans HB3.out⟩
theorem refInt_calls (v : Value) (l : List UInt8) (n : Int) (hn : (Lit.int .i64 n).wf = true) (w : World) (hv : Lib.HoldsBytes w v l) (hl : l.length ≤ 70368744177664) : Calls Tryz.prog 87 #[v, .int .i64 n] w (RB w (l ++ be (tn n) 8)) := by
  have HV : Hid (Lib.HoldsBytes w v l) := hv
  have HLL : Hid (l.length ≤ 70368744177664) := hl
  obtain ⟨L, hL⟩ : ∃ L, L = l ++ be (tn n) 8 := ⟨_, rfl⟩
  have HL : Hid (L = l ++ be (tn n) 8) := hL
  rw [← hL]
  have HX : Hid (tn n < 18446744073709551616) := tn_lt n hn
  have ht := turn_top n hn
  clear hn
  obtain ⟨p, cap, rfl, q1, q2⟩ := hv
  clear q1 q2 hL
  go_enter Tryz.func87, Tryz.ntmps87
  go_wp2_with fail
  refine (copied_calls _ _ _ HV.out HLL.out).mono ?_
  rintro e w1 ⟨v1, rfl, ho, hb⟩
  have HO : Hid (Own w.heap.size w1 v1 l) := ho
  have HB : Hid (Below w.heap.size w w1) := hb
  clear ho hb
  go_wp2_with fail
  refine (high_calls w.heap.size _ _ (tn n) 8 _ HX.out (by omega) HB.out.size HO.out HLL.out).mono ?_
  rintro e w3 ⟨v3, rfl, ho, hb⟩
  have HO3 : Hid (Own w.heap.size w3 v3 (l ++ be (tn n) 8)) := ho
  have HB3 : Hid (Below w.heap.size w1 w3) := hb
  clear ho hb
  go_wp2
  go_ret
  exact ⟨_, rfl, by rw [HL.out]; exact HO3.out, HB.out.trans HB3.out⟩
end Go.Proofs.YthphgkaifnacbaaGreat
namespace Go.Proofs.YthphgkaifnacbaaGreat
open Go.ChangeShapes Go.WideShapes Go.ChangeAt Go.RowKit
theorem refNum_calls (v : Value) (l : List UInt8) (n : Int) (hn : n < 9223372036854775808) (w : World) (hv : Lib.HoldsBytes w v l) (hl : l.length ≤ 70368744177663) : Calls Tryz.prog 86 #[v, .int .i64 n] w (RB w (l ++ enc n.toNat)) := by
  by_cases h : n < 240
  · exact refNum_small v l n.toNat n h rfl w hv (by omega)
  · obtain ⟨m, rfl⟩ := Int.eq_ofNat_of_zero_le (show 0 ≤ n by omega)
    exact refNum_big v l m (by omega) (by omega) w hv hl
theorem refText_calls (v : Value) (l : List UInt8) (s : ByteArray) (w : World) (hv : Lib.HoldsBytes w v l) (hl : l.length ≤ 70368744177663) (hs : s.size ≤ 35184372088832) :
    Calls Tryz.prog 89 #[v, .string s] w (RB w (l ++ enc s.size ++ s.data.toList)) := by
  obtain ⟨i0, hi, hz0, hz1, hz2⟩ := info_parts Tryz.info5
  obtain ⟨L, hL⟩ : ∃ L, L = l ++ enc s.size ++ s.data.toList := ⟨_, rfl⟩
  have HL : Hid (L = l ++ enc s.size ++ s.data.toList) := hL
  rw [← hL]
  have NC := refNum_calls v l (s.size : Int) (by omega) w hv hl
  rw [Int.toNat_natCast] at NC
  have HC : Hid (Calls Tryz.prog 86 #[v, .int .i64 (s.size : Int)] w (RB w (l ++ enc s.size))) := NC
  have he := enc_length s.size (by omega)
  have hlen : (l ++ enc s.size).length ≤ 70368744177672 := by rw [List.length_append]; omega
  generalize l ++ enc s.size = l2 at HC HL hlen
  obtain ⟨p, cap, rfl, q1, q2⟩ := hv
  clear q1 q2 hL NC he hl
  go_enter Tryz.func89, Tryz.ntmps89
  go_wp2_with fail
  refine HC.out.mono ?_
  rintro e w1 ⟨v1, rfl, ho, hb⟩
  have HO : Hid (Own w.heap.size w1 v1 l2) := ho
  have HB : Hid (Below w.heap.size w w1) := hb
  clear ho hb
  go_wp2_with (at_builtin; refine Lib.wpList_append_own_string _ rfl _ _ 82 9 rfl w.heap.size 5 i0 Tryz.underlying82 Tryz.underlying9 hi hz0 hz1 hz2 _ _ _ rfl HO.out s rfl ?qc4 ?qc5 ?qc6 ?_)
  case qc4 => unfold maxLen; omega
  case qc5 => omega
  case qc6 => exact HB.out.size
  intro v2 w2 hown hgrow hnil
  have HW : Hid (Own w.heap.size w2 v2 (l2 ++ s.data.toList)) := by
    show w2.ownsRow w.heap.size 5 1 v2 _ _
    have e1 : (l2 ++ s.data.toList).length = l2.length + s.size := by rw [List.length_append, str_len]
    have e2 : bval (l2 ++ s.data.toList) = bval l2 ++ Lib.strCells s := by simp [bval, Lib.strCells]
    rw [e1, e2]
    exact hown
  have HBW : Hid (Below w.heap.size w w2) := by
    refine HB.out.grown hgrow HB.out.size ?_
    intro kk hkk
    exact (World.ownsRow.lt HO.out kk hkk).1
  clear hown hgrow hnil
  go_wp2
  go_ret
  exact ⟨_, rfl, by rw [HL.out]; exact HW.out, HBW.out⟩
end Go.Proofs.YthphgkaifnacbaaGreat
namespace Go.Proofs.YthphgkaifnacbaaGreat
open Go.ChangeShapes Go.WideShapes Go.ChangeAt Go.RowKit
open FM
theorem belNP (w : World) (n : Nat) : Below w.heap.size w (w.drewN n) := ⟨rfl, rfl, rfl, Nat.le_refl _, fun _ _ => rfl⟩
theorem kd_onei (c : Nat) : ((kd c : Int) == 1) = isN c := kd_one c
theorem refCheck_0 (f : Int) (c : Nat) (m : Int) (hf0 : decide (f < 0) = true) (w : World) :
    Calls Tryz.prog 31 #[.agg #[.int .i64 f, .int .u64 (c : Int), .int .i64 m]] w fun e w' => e = .returned (.int .i64 1) ∧ Below w.heap.size w w' := by
  go_enter Tryz.func31, Tryz.ntmps31
  go_wp2_with fail
  go_quiet (first | (go_at_call 63; exact Calls.quiet_of_same (refCanon_calls c _)) | (go_at_call 64; exact Calls.quiet_of_same (refKind_calls c _)))
  go_wp2_with fail
  go_ret
  exact ⟨rfl, (bel1 _ _).trans ((belNP _ _).mono (by simp))⟩
theorem refCheck_1 (f : Int) (c : Nat) (m : Int) (hf0 : decide (f < 0) = false) (hf1 : decide (1073741824 < f) = true) (w : World) :
    Calls Tryz.prog 31 #[.agg #[.int .i64 f, .int .u64 (c : Int), .int .i64 m]] w fun e w' => e = .returned (.int .i64 1) ∧ Below w.heap.size w w' := by
  go_enter Tryz.func31, Tryz.ntmps31
  go_wp2_with fail
  go_quiet (first | (go_at_call 63; exact Calls.quiet_of_same (refCanon_calls c _)) | (go_at_call 64; exact Calls.quiet_of_same (refKind_calls c _)))
  go_wp2_with fail
  go_ret
  exact ⟨rfl, (bel1 _ _).trans ((belNP _ _).mono (by simp))⟩
theorem refCheck_2 (f : Int) (c : Nat) (m : Int) (hf0 : decide (f < 0) = false) (hf1 : decide (1073741824 < f) = false) (hm0 : decide (m < 0) = true) (w : World) :
    Calls Tryz.prog 31 #[.agg #[.int .i64 f, .int .u64 (c : Int), .int .i64 m]] w fun e w' => e = .returned (.int .i64 1) ∧ Below w.heap.size w w' := by
  go_enter Tryz.func31, Tryz.ntmps31
  go_wp2_with fail
  go_quiet (first | (go_at_call 63; exact Calls.quiet_of_same (refCanon_calls c _)) | (go_at_call 64; exact Calls.quiet_of_same (refKind_calls c _)))
  go_wp2_with fail
  go_ret
  exact ⟨rfl, (bel1 _ _).trans ((belNP _ _).mono (by simp))⟩
theorem refCheck_3 (f : Int) (c : Nat) (m : Int) (hf0 : decide (f < 0) = false) (hf1 : decide (1073741824 < f) = false) (hm0 : decide (m < 0) = false) (hm1 : decide (1073741824 < m) = true) (w : World) :
    Calls Tryz.prog 31 #[.agg #[.int .i64 f, .int .u64 (c : Int), .int .i64 m]] w fun e w' => e = .returned (.int .i64 1) ∧ Below w.heap.size w w' := by
  go_enter Tryz.func31, Tryz.ntmps31
  go_wp2_with fail
  go_quiet (first | (go_at_call 63; exact Calls.quiet_of_same (refCanon_calls c _)) | (go_at_call 64; exact Calls.quiet_of_same (refKind_calls c _)))
  go_wp2_with fail
  go_ret
  exact ⟨rfl, (bel1 _ _).trans ((belNP _ _).mono (by simp))⟩
theorem refCheck_4 (f : Int) (c : Nat) (m : Int) (hf0 : decide (f < 0) = false) (hf1 : decide (1073741824 < f) = false) (hm0 : decide (m < 0) = false) (hm1 : decide (1073741824 < m) = false) (hcn : ((c : Int) != ((cn c : Nat) : Int)) = true) (w : World) :
    Calls Tryz.prog 31 #[.agg #[.int .i64 f, .int .u64 (c : Int), .int .i64 m]] w fun e w' => e = .returned (.int .i64 1) ∧ Below w.heap.size w w' := by
  go_enter Tryz.func31, Tryz.ntmps31
  go_wp2_with fail
  go_quiet (first | (go_at_call 63; exact Calls.quiet_of_same (refCanon_calls c _)) | (go_at_call 64; exact Calls.quiet_of_same (refKind_calls c _)))
  go_wp2_with fail
  go_ret
  exact ⟨rfl, (bel1 _ _).trans ((belNP _ _).mono (by simp))⟩
theorem refCheck_5 (f : Int) (c : Nat) (m : Int) (hf0 : decide (f < 0) = false) (hf1 : decide (1073741824 < f) = false) (hm0 : decide (m < 0) = false) (hm1 : decide (1073741824 < m) = false) (hcn : ((c : Int) != ((cn c : Nat) : Int)) = false) (hna : ((kd c : Int) == 1) = true) (w : World) :
    Calls Tryz.prog 31 #[.agg #[.int .i64 f, .int .u64 (c : Int), .int .i64 m]] w fun e w' => e = .returned (.int .i64 1) ∧ Below w.heap.size w w' := by
  go_enter Tryz.func31, Tryz.ntmps31
  go_wp2_with fail
  go_quiet (first | (go_at_call 63; exact Calls.quiet_of_same (refCanon_calls c _)) | (go_at_call 64; exact Calls.quiet_of_same (refKind_calls c _)))
  go_wp2_with fail
  go_ret
  exact ⟨rfl, (bel1 _ _).trans ((belNP _ _).mono (by simp))⟩
theorem refCheck_6 (f : Int) (c : Nat) (m : Int) (hf0 : decide (f < 0) = false) (hf1 : decide (1073741824 < f) = false) (hm0 : decide (m < 0) = false) (hm1 : decide (1073741824 < m) = false) (hcn : ((c : Int) != ((cn c : Nat) : Int)) = false) (hna : ((kd c : Int) == 1) = false) (w : World) :
    Calls Tryz.prog 31 #[.agg #[.int .i64 f, .int .u64 (c : Int), .int .i64 m]] w fun e w' => e = .returned (.int .i64 0) ∧ Below w.heap.size w w' := by
  go_enter Tryz.func31, Tryz.ntmps31
  go_wp2_with fail
  go_quiet (first | (go_at_call 63; exact Calls.quiet_of_same (refCanon_calls c _)) | (go_at_call 64; exact Calls.quiet_of_same (refKind_calls c _)))
  go_wp2_with fail
  go_ret
  exact ⟨rfl, (bel1 _ _).trans ((belNP _ _).mono (by simp))⟩
theorem refCheck_calls (f : Int) (c : Nat) (m : Int) (w : World) :
    Calls Tryz.prog 31 #[.agg #[.int .i64 f, .int .u64 (c : Int), .int .i64 m]] w fun e w' => e = .returned (.int .i64 (ce (may f c m))) ∧ Below w.heap.size w w' := by
  have hk := kd_one c
  cases hf0 : decide (f < 0)
  · cases hf1 : decide (1073741824 < f)
    · cases hm0 : decide (m < 0)
      · cases hm1 : decide (1073741824 < m)
        · cases hcn : ((c : Int) == ((cn c : Nat) : Int))
          · have hne : ((c : Int) != ((cn c : Nat) : Int)) = true := by unfold bne; rw [hcn]; rfl
            have : may f c m = false := by
              unfold may isC; rw [beq_eq_false_iff_ne] at hcn
              have : ¬ cn c = c := fun h => hcn (by rw [h])
              simp [this]
            rw [this]; exact refCheck_4 f c m hf0 hf1 hm0 hm1 hne w
          · have hne : ((c : Int) != ((cn c : Nat) : Int)) = false := by unfold bne; rw [hcn]; rfl
            cases hna : ((kd c : Int) == 1)
            · have : may f c m = true := by
                unfold may isC isD
                rw [hna] at hk
                rw [beq_iff_eq] at hcn
                simp at hf0 hf1 hm0 hm1
                have hc : cn c = c := by omega
                simp [← hk, hc]
                omega
              rw [this]; exact refCheck_6 f c m hf0 hf1 hm0 hm1 hne hna w
            · have : may f c m = false := by
                unfold may isC
                rw [hna] at hk
                simp [← hk]
              rw [this]; exact refCheck_5 f c m hf0 hf1 hm0 hm1 hne hna w
        · have : may f c m = false := by unfold may isD; simp at hm1; simp; omega
          rw [this]; exact refCheck_3 f c m hf0 hf1 hm0 hm1 w
      · have : may f c m = false := by unfold may isD; simp at hm0; simp; omega
        rw [this]; exact refCheck_2 f c m hf0 hf1 hm0 w
    · have : may f c m = false := by unfold may isD; simp at hf1; simp; omega
      rw [this]; exact refCheck_1 f c m hf0 hf1 w
  · have : may f c m = false := by unfold may isD; simp at hf0; simp; omega
    rw [this]; exact refCheck_0 f c m hf0 w
end Go.Proofs.YthphgkaifnacbaaGreat
namespace Go.Proofs.YthphgkaifnacbaaGreat
open Go.ChangeShapes Go.WideShapes Go.ChangeAt Go.RowKit Go.BigFrame
def Pre1 (k x : Int) (b : Nat) (s : ByteArray) (n : Nat) : Prop := 0 ≤ k ∧ k ≤ 4 ∧ (k = 1 ∨ x = 0) ∧ (k = 2 ∨ b = 0) ∧ (k = 3 ∨ s.toList = []) ∧ (k = 4 ∨ n = 0)
theorem no_n {k : Int} {N : Nat} (h : (0 ≤ k ∧ k ≤ 4) ∧ ((k != 4) = false ∨ ¬ 0 < N)) (h4 : ¬ k = 4) : N = 0 := by
  rcases h.2 with h | h
  · exact absurd (by simpa using h) h4
  · omega
set_option maxHeartbeats 2000000 in
set_option maxRecDepth 100000 in
theorem shape_no1 (k x : Int) (b : Nat) (s : ByteArray) (a : Option Addr) (N c : Nat) (d : Int) (w : World) (p : Prop) (hp : ¬ p) (h : ¬ Pre1 k x b s N) :
    Calls Tryz.prog 61 #[.agg #[.int .i64 k, .int .i64 x, .int .u64 (b : Int), .string s, .slice a N c], .int .i64 d] w (FP p w) := by
  have HP : Hid (¬ p) := hp
  have HQ : Hid (¬ Pre1 k x b s N) := h
  clear hp h
  go_enter Tryz.func61, Tryz.ntmps61
  go_wp2_with fail
  all_goals first
    | (go_ret; exact FP.no HP.out (bel1 _ _))
    | (refine absurd ⟨by assumption, by assumption, by first | exact .inl (by assumption) | exact .inr (by assumption), by first | exact .inl (by assumption) | exact .inr (by assumption), by first | exact .inl (by assumption) | exact .inr (by assumption), by first | exact .inl (by assumption) | exact .inr (by omega) | exact .inr (no_n (by assumption) (by assumption))⟩ HQ.out)
end Go.Proofs.YthphgkaifnacbaaGreat
namespace Go.Proofs.YthphgkaifnacbaaGreat
open Go.ChangeShapes Go.WideShapes Go.ChangeAt Go.RowKit Go.BigFrame
set_option maxHeartbeats 2000000 in
set_option maxRecDepth 100000 in
theorem shape_y0 (a : Option Addr) (c : Nat) (d : Int) (w : World) (p : Prop) (hp : p) :
    Calls Tryz.prog 61 #[.agg #[.int .i64 0, .int .i64 0, .int .u64 0, .string ⟨#[]⟩, .slice a 0 c], .int .i64 d] w (FP p w) := by
  have HP : Hid (p) := hp
  have HC : Hid (∀ w, Calls Tryz.prog 63 #[.int .u64 0] w fun e w' => e = .returned (.int .u64 0) ∧ w' = w) := fun w => refCanon_calls 0 w
  clear hp
  go_enter Tryz.func61, Tryz.ntmps61
  go_wp2_with fail
  refine wp_region_quiet_lit (by kernel_rfl) (by kernel_rfl) ?_
  repeat (go_big_quiet_step (first | (go_at_call 63; exact Calls.quiet_of_same (HC.out _))))
  refine wpQuiet_nil ?_
  intro _ hw'
  obtain ⟨nq, hw''⟩ := hw'
  subst hw''
  generalize hW0 : w.alloc (Obj.cells #[.int .i64 0, .int .i64 0, .int .u64 0, .string ⟨#[]⟩, .slice a 0 c] 25) = W0
  have hg : (W0.drewN nq).cell? ⟨w.heap.size, 4, none⟩ = some (.slice a 0 c) := by subst hW0; rw [World.cell?_drewN]; go_simp
  have HB : Hid (Below w.heap.size w (W0.drewN nq)) := by subst hW0; exact bel2 (bel1 _ _) (belN _ _)
  generalize W0.drewN nq = W1 at hg HB ⊢
  clear hW0
  go_wp2_with fail
  go_loopw [5] (fun i wr => i = .int .i64 0 ∧ wr = W1) (fun _ _ => 0)
  case atStart => exact ⟨rfl, rfl⟩
  case round =>
    obtain ⟨rfl, rfl⟩ := hrel
    go_wp2_with fail
    go_ret
    exact FP.yes HP.out HB.out
set_option maxHeartbeats 2000000 in
set_option maxRecDepth 100000 in
theorem shape_y1 (x : Int) (a : Option Addr) (c : Nat) (d : Int) (w : World) (p : Prop) (hp : p) :
    Calls Tryz.prog 61 #[.agg #[.int .i64 1, .int .i64 x, .int .u64 0, .string ⟨#[]⟩, .slice a 0 c], .int .i64 d] w (FP p w) := by
  have HP : Hid (p) := hp
  have HC : Hid (∀ w, Calls Tryz.prog 63 #[.int .u64 0] w fun e w' => e = .returned (.int .u64 0) ∧ w' = w) := fun w => refCanon_calls 0 w
  clear hp
  go_enter Tryz.func61, Tryz.ntmps61
  go_wp2_with fail
  refine wp_region_quiet_lit (by kernel_rfl) (by kernel_rfl) ?_
  repeat (go_big_quiet_step (first | (go_at_call 63; exact Calls.quiet_of_same (HC.out _))))
  refine wpQuiet_nil ?_
  intro _ hw'
  obtain ⟨nq, hw''⟩ := hw'
  subst hw''
  generalize hW0 : w.alloc (Obj.cells #[.int .i64 1, .int .i64 x, .int .u64 0, .string ⟨#[]⟩, .slice a 0 c] 25) = W0
  have hg : (W0.drewN nq).cell? ⟨w.heap.size, 4, none⟩ = some (.slice a 0 c) := by subst hW0; rw [World.cell?_drewN]; go_simp
  have HB : Hid (Below w.heap.size w (W0.drewN nq)) := by subst hW0; exact bel2 (bel1 _ _) (belN _ _)
  generalize W0.drewN nq = W1 at hg HB ⊢
  clear hW0
  go_wp2_with fail
  go_loopw [5] (fun i wr => i = .int .i64 0 ∧ wr = W1) (fun _ _ => 0)
  case atStart => exact ⟨rfl, rfl⟩
  case round =>
    obtain ⟨rfl, rfl⟩ := hrel
    go_wp2_with fail
    go_ret
    exact FP.yes HP.out HB.out
set_option maxHeartbeats 2000000 in
set_option maxRecDepth 100000 in
theorem shape_y2 (b b' : Nat) (hC : ∀ w, Calls Tryz.prog 63 #[.int .u64 (b : Int)] w fun e w' => e = .returned (.int .u64 (b' : Int)) ∧ w' = w) (h : b' = b) (a : Option Addr) (c : Nat) (d : Int) (w : World) (p : Prop) (hp : p) :
    Calls Tryz.prog 61 #[.agg #[.int .i64 2, .int .i64 0, .int .u64 (b : Int), .string ⟨#[]⟩, .slice a 0 c], .int .i64 d] w (FP p w) := by
  have HP : Hid (p) := hp
  have HC : Hid (∀ w, Calls Tryz.prog 63 #[.int .u64 (b : Int)] w fun e w' => e = .returned (.int .u64 (b' : Int)) ∧ w' = w) := hC
  clear hp
  have f1 : ((b : Int) != (b' : Int)) = false := by simp [h]
  have f2 : (b != b') = false := by simp [h]
  clear h hC
  go_enter Tryz.func61, Tryz.ntmps61
  go_wp2_with fail
  refine wp_region_quiet_lit (by kernel_rfl) (by kernel_rfl) ?_
  repeat (go_big_quiet_step (first | (go_at_call 63; exact Calls.quiet_of_same (HC.out _))))
  refine wpQuiet_nil ?_
  intro _ hw'
  obtain ⟨nq, hw''⟩ := hw'
  subst hw''
  generalize hW0 : w.alloc (Obj.cells #[.int .i64 2, .int .i64 0, .int .u64 (b : Int), .string ⟨#[]⟩, .slice a 0 c] 25) = W0
  have hg : (W0.drewN nq).cell? ⟨w.heap.size, 4, none⟩ = some (.slice a 0 c) := by subst hW0; rw [World.cell?_drewN]; go_simp
  have HB : Hid (Below w.heap.size w (W0.drewN nq)) := by subst hW0; exact bel2 (bel1 _ _) (belN _ _)
  generalize W0.drewN nq = W1 at hg HB ⊢
  clear hW0
  go_wp2_with fail
  go_loopw [5] (fun i wr => i = .int .i64 0 ∧ wr = W1) (fun _ _ => 0)
  case atStart => exact ⟨rfl, rfl⟩
  case round =>
    obtain ⟨rfl, rfl⟩ := hrel
    go_wp2_with fail
    go_ret
    exact FP.yes HP.out HB.out
set_option maxHeartbeats 2000000 in
set_option maxRecDepth 100000 in
theorem shape_n2 (b b' : Nat) (hC : ∀ w, Calls Tryz.prog 63 #[.int .u64 (b : Int)] w fun e w' => e = .returned (.int .u64 (b' : Int)) ∧ w' = w) (h : ¬ b' = b) (a : Option Addr) (c : Nat) (d : Int) (w : World) (p : Prop) (hp : ¬ p) :
    Calls Tryz.prog 61 #[.agg #[.int .i64 2, .int .i64 0, .int .u64 (b : Int), .string ⟨#[]⟩, .slice a 0 c], .int .i64 d] w (FP p w) := by
  have HP : Hid (¬ p) := hp
  have HC : Hid (∀ w, Calls Tryz.prog 63 #[.int .u64 (b : Int)] w fun e w' => e = .returned (.int .u64 (b' : Int)) ∧ w' = w) := hC
  clear hp
  have f1 : ((b : Int) != (b' : Int)) = true := by simp; omega
  have f2 : (b != b') = true := by simp; omega
  clear h hC
  go_enter Tryz.func61, Tryz.ntmps61
  go_wp2_with fail
  refine wp_region_quiet_lit (by kernel_rfl) (by kernel_rfl) ?_
  repeat (go_big_quiet_step (first | (go_at_call 63; exact Calls.quiet_of_same (HC.out _))))
  refine wpQuiet_nil ?_
  intro _ hw'
  obtain ⟨nq, hw''⟩ := hw'
  subst hw''
  go_wp2_with fail
  go_ret
  exact FP.no HP.out (bel2 (bel1 _ _) (belN _ _))
set_option maxHeartbeats 2000000 in
set_option maxRecDepth 100000 in
theorem shape_y3 (s : ByteArray) (h : s.size ≤ 200) (a : Option Addr) (c : Nat) (d : Int) (w : World) (p : Prop) (hp : p) :
    Calls Tryz.prog 61 #[.agg #[.int .i64 3, .int .i64 0, .int .u64 0, .string s, .slice a 0 c], .int .i64 d] w (FP p w) := by
  have HP : Hid (p) := hp
  have HC : Hid (∀ w, Calls Tryz.prog 63 #[.int .u64 0] w fun e w' => e = .returned (.int .u64 0) ∧ w' = w) := fun w => refCanon_calls 0 w
  clear hp
  have f1 : decide (200 < (s.size : Int)) = false := decide_eq_false (by omega)
  have f2 : decide (200 < s.size) = false := decide_eq_false (by omega)
  clear h
  go_enter Tryz.func61, Tryz.ntmps61
  go_wp2_with fail
  refine wp_region_quiet_lit (by kernel_rfl) (by kernel_rfl) ?_
  repeat (go_big_quiet_step (first | (go_at_call 63; exact Calls.quiet_of_same (HC.out _))))
  refine wpQuiet_nil ?_
  intro _ hw'
  obtain ⟨nq, hw''⟩ := hw'
  subst hw''
  generalize hW0 : w.alloc (Obj.cells #[.int .i64 3, .int .i64 0, .int .u64 0, .string s, .slice a 0 c] 25) = W0
  have hg : (W0.drewN nq).cell? ⟨w.heap.size, 4, none⟩ = some (.slice a 0 c) := by subst hW0; rw [World.cell?_drewN]; go_simp
  have HB : Hid (Below w.heap.size w (W0.drewN nq)) := by subst hW0; exact bel2 (bel1 _ _) (belN _ _)
  generalize W0.drewN nq = W1 at hg HB ⊢
  clear hW0
  go_wp2_with fail
  go_loopw [5] (fun i wr => i = .int .i64 0 ∧ wr = W1) (fun _ _ => 0)
  case atStart => exact ⟨rfl, rfl⟩
  case round =>
    obtain ⟨rfl, rfl⟩ := hrel
    go_wp2_with fail
    go_ret
    exact FP.yes HP.out HB.out
set_option maxHeartbeats 2000000 in
set_option maxRecDepth 100000 in
theorem shape_n3 (s : ByteArray) (h : ¬ s.size ≤ 200) (a : Option Addr) (c : Nat) (d : Int) (w : World) (p : Prop) (hp : ¬ p) :
    Calls Tryz.prog 61 #[.agg #[.int .i64 3, .int .i64 0, .int .u64 0, .string s, .slice a 0 c], .int .i64 d] w (FP p w) := by
  have HP : Hid (¬ p) := hp
  have HC : Hid (∀ w, Calls Tryz.prog 63 #[.int .u64 0] w fun e w' => e = .returned (.int .u64 0) ∧ w' = w) := fun w => refCanon_calls 0 w
  clear hp
  have f1 : decide (200 < (s.size : Int)) = true := decide_eq_true (by omega)
  have f2 : decide (200 < s.size) = true := decide_eq_true (by omega)
  clear h
  go_enter Tryz.func61, Tryz.ntmps61
  go_wp2_with fail
  refine wp_region_quiet_lit (by kernel_rfl) (by kernel_rfl) ?_
  repeat (go_big_quiet_step (first | (go_at_call 63; exact Calls.quiet_of_same (HC.out _))))
  refine wpQuiet_nil ?_
  intro _ hw'
  obtain ⟨nq, hw''⟩ := hw'
  subst hw''
  go_wp2_with fail
  go_ret
  exact FP.no HP.out (bel2 (bel1 _ _) (belN _ _))
set_option maxHeartbeats 2000000 in
set_option maxRecDepth 100000 in
theorem shape_n4 (N : Nat) (h : ¬ N ≤ 12) (a : Option Addr) (c : Nat) (d : Int) (w : World) (p : Prop) (hp : ¬ p) :
    Calls Tryz.prog 61 #[.agg #[.int .i64 4, .int .i64 0, .int .u64 0, .string ⟨#[]⟩, .slice a N c], .int .i64 d] w (FP p w) := by
  have HP : Hid (¬ p) := hp
  have HC : Hid (∀ w, Calls Tryz.prog 63 #[.int .u64 0] w fun e w' => e = .returned (.int .u64 0) ∧ w' = w) := fun w => refCanon_calls 0 w
  clear hp
  have f1 : decide (12 < (N : Int)) = true := decide_eq_true (by omega)
  have f2 : decide (12 < N) = true := decide_eq_true (by omega)
  clear h
  go_enter Tryz.func61, Tryz.ntmps61
  go_wp2_with fail
  refine wp_region_quiet_lit (by kernel_rfl) (by kernel_rfl) ?_
  repeat (go_big_quiet_step (first | (go_at_call 63; exact Calls.quiet_of_same (HC.out _))))
  refine wpQuiet_nil ?_
  intro _ hw'
  obtain ⟨nq, hw''⟩ := hw'
  subst hw''
  go_wp2_with fail
  go_ret
  exact FP.no HP.out (bel2 (bel1 _ _) (belN _ _))
set_option maxHeartbeats 2000000 in
set_option maxRecDepth 100000 in
theorem shape_d4 (N : Nat) (h : N ≤ 12) (a : Option Addr) (c : Nat) (w : World) (p : Prop) (hp : ¬ p) :
    Calls Tryz.prog 61 #[.agg #[.int .i64 4, .int .i64 0, .int .u64 0, .string ⟨#[]⟩, .slice a N c], .int .i64 0] w (FP p w) := by
  have HP : Hid (¬ p) := hp
  have HC : Hid (∀ w, Calls Tryz.prog 63 #[.int .u64 0] w fun e w' => e = .returned (.int .u64 0) ∧ w' = w) := fun w => refCanon_calls 0 w
  clear hp
  have f1 : decide (12 < (N : Int)) = false := decide_eq_false (by omega)
  have f2 : decide (12 < N) = false := decide_eq_false (by omega)
  clear h
  go_enter Tryz.func61, Tryz.ntmps61
  go_wp2_with fail
  refine wp_region_quiet_lit (by kernel_rfl) (by kernel_rfl) ?_
  repeat (go_big_quiet_step (first | (go_at_call 63; exact Calls.quiet_of_same (HC.out _))))
  refine wpQuiet_nil ?_
  intro _ hw'
  obtain ⟨nq, hw''⟩ := hw'
  subst hw''
  go_wp2_with fail
  go_ret
  exact FP.no HP.out (bel2 (bel1 _ _) (belN _ _))
end Go.Proofs.YthphgkaifnacbaaGreat
namespace Go.Proofs.YthphgkaifnacbaaGreat
open Go.ChangeShapes Go.WideShapes Go.ChangeAt Go.RowKit Go.BigFrame
def ShapeAt (n : Nat) : Prop := ∀ (v : Value) (t : Tv) (d : Int) (w : World), 0 ≤ d → d ≤ 4 → Is w n v t → Calls Tryz.prog 61 #[v, .int .i64 d] w (FP (ShapeT n d t) w)
set_option maxHeartbeats 2000000 in
set_option maxRecDepth 100000 in
theorem shape_y4 (n : Nat) (ih : ShapeAt n) (a : Option Addr) (c : Nat) (l : List Tv) (d : Int) (w : World) (hl : l.length ≤ 12) (d0 : 0 ≤ d) (d4 : d ≤ 4) (hd : d ≠ 0) (hr : Row (Is w n) w a l) (p : Prop) (hp : p ↔ ∀ (i : Nat) t, l[i]? = some t → ShapeT n (d - 1) t) :
    Calls Tryz.prog 61 #[.agg #[.int .i64 4, .int .i64 0, .int .u64 0, .string ⟨#[]⟩, .slice a l.length c], .int .i64 d] w (FP p w) := by
  obtain ⟨N, hN⟩ : ∃ N, N = l.length := ⟨_, rfl⟩
  obtain ⟨e, he⟩ : ∃ e : Int, e = d - 1 := ⟨_, rfl⟩
  have hw1 : wrap64 (d - 1) = e := by rw [he]; unfold wrap64; omega
  have hw2 : IntKind.i64.wrap (d - 1) = e := by rw [he, IntKind.wrap_i64]; omega
  rw [← hN]
  rw [← he] at hp
  have HP : Hid (p ↔ ∀ (i : Nat) t, l[i]? = some t → ShapeT n e t) := hp
  have HR : Hid (Row (Is w n) w a l) := hr
  have HN : Hid (N = l.length ∧ N ≤ 12) := ⟨hN, by omega⟩
  have HI : Hid (∀ (v : Value) (t : Tv) (w : World), Is w n v t → Calls Tryz.prog 61 #[v, .int .i64 e] w (FP (ShapeT n e t) w)) := fun v t w h => ih v t e w (by omega) (by omega) h
  have HC : Hid (∀ w, Calls Tryz.prog 63 #[.int .u64 0] w fun e w' => e = .returned (.int .u64 0) ∧ w' = w) := fun w => refCanon_calls 0 w
  have f1 : decide (12 < (N : Int)) = false := decide_eq_false (by omega)
  have f2 : decide (12 < N) = false := decide_eq_false (by omega)
  have f3 : (d == 0) = false := by simpa using hd
  clear hp hr hN hl d0 d4 hd he ih
  go_enter Tryz.func61, Tryz.ntmps61
  go_wp2_with fail
  refine wp_region_quiet_lit (by kernel_rfl) (by kernel_rfl) ?_
  repeat (go_big_quiet_step (first | (go_at_call 63; exact Calls.quiet_of_same (HC.out _))))
  refine wpQuiet_nil ?_
  intro _ hw'
  obtain ⟨nq, hw''⟩ := hw'
  subst hw''
  generalize hW0 : w.alloc (Obj.cells #[.int .i64 4, .int .i64 0, .int .u64 0, .string ⟨#[]⟩, .slice a N c] 25) = W0
  have hg : (W0.drewN nq).cell? ⟨w.heap.size, 4, none⟩ = some (.slice a N c) := by subst hW0; rw [World.cell?_drewN]; go_simp
  have HB : Hid (Below w.heap.size w (W0.drewN nq)) := by subst hW0; exact bel2 (bel1 _ _) (belN _ _)
  have HS : Hid (w.heap.size < (W0.drewN nq).heap.size) := by subst hW0; show _ < _; simp [World.drewN]
  generalize W0.drewN nq = W1 at hg HB HS ⊢
  clear hW0 f1 f2 f3
  have HG : Hid (W1.cell? ⟨w.heap.size, 4, none⟩ = some (.slice a N c)) := hg
  clear hg
  go_wp2_with fail
  go_loopw [5] (fun i wr => ∃ j : Nat, j ≤ N ∧ i = .int .i64 j ∧ Hid (∀ (i : Nat) t, i < j → l[i]? = some t → ShapeT n e t) ∧ Hid (Below W1.heap.size W1 wr)) (fun i _ => N - (intOf i).toNat)
  case atStart => exact ⟨0, Nat.zero_le _, rfl, fun i t hi => absurd hi (Nat.not_lt_zero i), Below.refl _ _⟩
  case round =>
    obtain ⟨j, hj, rfl, HE, HBr⟩ := hrel
    have g0 : wr.cell? ⟨w.heap.size, 4, none⟩ = some (.slice a N c) := (HBr.out.cell HS.out).trans HG.out
    by_cases hlt : j < N
    · have HT : Hid (j < l.length) := by have := HN.out.1; show _ < _; omega
      obtain ⟨B, o, c0, c1, c2, c3, c4, rfl, h5, hi⟩ := HR.out j _ (List.getElem?_eq_getElem HT.out)
      obtain ⟨k', x', b', s', a', m', c', rfl, rfl, rfl, rfl, rfl⟩ := hi.shape
      have HBw := bel2 HB.out HBr.out
      obtain ⟨e0, e1, e2, e3, e4⟩ := h5.below HBw
      have C0 : Hid (Calls Tryz.prog 61 #[_, .int .i64 e] wr _) := HI.out _ _ wr (hi.below HBw)
      have HW : Hid (wrap64 ((j : Int) + 1) = ((j + 1 : Nat) : Int)) := wr1 hlt (by have := HN.out.2; omega)
      have hjl : (j : Int) < (N : Int) := by omega
      clear hi h5 HBw
      go_wp2_with fail
      refine C0.out.mono ?_
      rintro x w1 ⟨⟨r1, rfl, hr1⟩, hb1⟩
      have HB1 : Hid (Below W1.heap.size W1 w1) := bel2 HBr.out hb1
      have HR1 : Hid (r1 = true ↔ ShapeT n e (l[j]'HT.out)) := hr1
      clear hb1 hr1
      cases r1
      · go_wp2_with fail
        go_ret
        exact FP.no (fun q => by cases HR1.out.2 (HP.out.1 q j _ (List.getElem?_eq_getElem HT.out))) (bel2 HB.out HB1.out)
      · go_wp2_with fail
        refine ⟨⟨j + 1, hlt, by rw [HW.out], fun i t hi ht => ?_, HB1⟩, meas hlt HW.out⟩
        by_cases hij : i = j
        · subst hij
          rw [List.getElem?_eq_getElem HT.out] at ht
          cases ht
          simpa using HR1.out
        · exact HE.out i t (by omega) ht
    · obtain rfl : j = N := by omega
      go_wp2_with fail
      go_ret
      exact FP.yes (HP.out.2 fun i t ht => HE.out i t (by have := (List.getElem?_eq_some_iff.1 ht).1; have := HN.out.1; omega) ht) (bel2 HB.out HBr.out)
theorem shape_calls : ∀ n, ShapeAt n := by
  intro n
  induction n with
  | zero => intro v t d w _ _ h; exact h.elim
  | succ n ih =>
    rintro v ⟨k, x, b, s, l⟩ d w d0 d4 ⟨a, c, rfl, hf, hr⟩
    obtain ⟨b, rfl⟩ : ∃ m : Nat, b = m := ⟨b.toNat, by have := hf.b0; omega⟩
    by_cases hP : Pre1 k x b s l.length
    · obtain ⟨k0, k4, hx, hb, hs, hn⟩ := hP
      have hcn0 : cn 0 = 0 := by decide
      have hz0 : (⟨#[]⟩ : ByteArray).toList = [] := by rw [Lib.toList_data]
      have hsz : ∀ s : ByteArray, s.toList = [] → s = ⟨#[]⟩ := fun s h => tl_inj (h.trans hz0.symm)
      rcases (by omega : k = 0 ∨ k = 1 ∨ k = 2 ∨ k = 3 ∨ k = 4) with rfl | rfl | rfl | rfl | rfl
      · obtain rfl : x = 0 := by omega
        obtain rfl : b = 0 := by omega
        obtain rfl := hsz s (hs.resolve_left (by decide))
        obtain rfl : l = [] := List.eq_nil_of_length_eq_zero (hn.resolve_left (by decide))
        exact shape_y0 a c d w _ ⟨⟨by decide, by decide, .inr rfl, .inr rfl, hcn0, .inr hz0, by decide, .inr rfl, by decide⟩, (fun h => by cases h), (fun i t h => by simp at h)⟩
      · obtain rfl : b = 0 := by omega
        obtain rfl := hsz s (hs.resolve_left (by decide))
        obtain rfl : l = [] := List.eq_nil_of_length_eq_zero (hn.resolve_left (by decide))
        exact shape_y1 x a c d w _ ⟨⟨by decide, by decide, .inl rfl, .inr rfl, hcn0, .inr hz0, by decide, .inr rfl, by decide⟩, (fun h => by cases h), (fun i t h => by simp at h)⟩
      · obtain rfl : x = 0 := by omega
        obtain rfl := hsz s (hs.resolve_left (by decide))
        obtain rfl : l = [] := List.eq_nil_of_length_eq_zero (hn.resolve_left (by decide))
        by_cases hc : cn b = b
        · exact shape_y2 b (cn b) (refCanon_calls b) hc a c d w _ ⟨⟨by decide, by decide, .inr rfl, .inl rfl, hc, .inr hz0, by decide, .inr rfl, by decide⟩, (fun h => by cases h), (fun i t h => by simp at h)⟩
        · exact shape_n2 b (cn b) (refCanon_calls b) hc a c d w _ (fun q => hc q.1.2.2.2.2.1)
      · obtain rfl : x = 0 := by omega
        obtain rfl : b = 0 := by omega
        obtain rfl : l = [] := List.eq_nil_of_length_eq_zero (hn.resolve_left (by decide))
        by_cases hc : s.size ≤ 200
        · exact shape_y3 s hc a c d w _ ⟨⟨by decide, by decide, .inr rfl, .inr rfl, hcn0, .inl rfl, hc, .inr rfl, by decide⟩, (fun h => by cases h), (fun i t h => by simp at h)⟩
        · exact shape_n3 s hc a c d w _ (fun q => hc q.1.2.2.2.2.2.2.1)
      · obtain rfl : x = 0 := by omega
        obtain rfl : b = 0 := by omega
        obtain rfl := hsz s (hs.resolve_left (by decide))
        by_cases hc : l.length ≤ 12
        · by_cases hd : d = 0
          · subst hd
            exact shape_d4 l.length hc a c w _ (fun q => q.2.1 rfl rfl)
          · exact shape_y4 n ih a c l d w hc d0 d4 hd hr _ ⟨fun q => q.2.2, fun q => ⟨⟨by decide, by decide, .inr rfl, .inr rfl, hcn0, .inr hz0, by decide, .inl rfl, hc⟩, (fun _ => hd), q⟩⟩
        · exact shape_n4 l.length hc a c d w _ (fun q => hc q.1.2.2.2.2.2.2.2.2)
    · refine shape_no1 k x b s a l.length c d w _ (fun q => hP ?_) hP
      obtain ⟨q1, q2, q3, q4, _, q6, _, q8, _⟩ := q.1
      exact ⟨q1, q2, q3, by simpa using q4, q6, q8⟩
end Go.Proofs.YthphgkaifnacbaaGreat
namespace Go.Proofs.YthphgkaifnacbaaGreat
open Go.ChangeShapes Go.WideShapes Go.ChangeAt Go.RowKit Go.BigFrame
def BD : Nat → Nat
  | 0 => 210
  | d + 1 => 210 + 13 * BD d
theorem flat_bd {n B : Nat} : ∀ (l : List Tv), (∀ (i : Nat) t, l[i]? = some t → (bytesT n t).length ≤ B) → ((l.map (bytesT n)).flatten).length ≤ l.length * B
  | [], _ => by simp
  | t :: l, h => by
    have h0 := h 0 t rfl
    have h1 := flat_bd l (fun i u hu => h (i + 1) u (by simpa using hu))
    simp only [List.map_cons, List.flatten_cons, List.length_append, List.length_cons]
    rw [Nat.succ_mul]
    omega
theorem bytes_bd : ∀ (n d : Nat) (t : Tv), ShapeT n (d : Int) t → (bytesT n t).length ≤ BD d
  | 0, _, _, h => h.elim
  | n + 1, d, .mk k x b s l, ⟨hf, hk, hl⟩ => by
    obtain ⟨k0, k4, _, _, _, _, hs, _, hn⟩ := hf
    have e1 : (enc k.toNat).length = 1 := enc_one (by omega)
    have e2 : (enc s.size).length = 1 := enc_small hs
    have e3 : (enc l.length).length = 1 := enc_one hn
    have hd : 210 ≤ BD d := by cases d <;> simp [BD]
    unfold bytesT
    rw [List.length_append, e1]
    split
    · rw [be_length]; omega
    · split
      · rw [be_length]; omega
      · split
        · rw [List.length_append, e2, str_len]; omega
        · split
          · rename_i h4
            rw [List.length_append, e3]
            have hd0 := hk h4
            obtain ⟨d', rfl⟩ : ∃ d', d = d' + 1 := ⟨d - 1, by omega⟩
            have := flat_bd l (B := BD d') (fun i t ht => bytes_bd n d' t (by have := hl i t ht; rwa [show (((d' + 1 : Nat) : Int) - 1) = (d' : Int) by omega] at this))
            have h12 : l.length * BD d' ≤ 12 * BD d' := Nat.mul_le_mul_right _ hn
            simp only [BD]
            omega
          · simp; omega
/-- What a writer of the reference gives. -/
def RH (w : World) (l : List UInt8) (e : Ending) (w' : World) : Prop := ∃ v', e = .returned v' ∧ Lib.HoldsBytes w' v' l ∧ Below w.heap.size w w'
def BytesAt (n : Nat) : Prop := ∀ (d : Nat) (v : Value) (t : Tv) (b : Value) (L : List UInt8) (w : World), Is w n v t → ShapeT n (d : Int) t → Lib.HoldsBytes w b L → L.length + BD d ≤ 70368744177663 → Calls Tryz.prog 62 #[b, v] w (RH w (L ++ bytesT n t))
theorem holds_sliceY {w : World} {v : Value} {l : List UInt8} (h : Lib.HoldsBytes w v l) : ∃ p m c, v = .slice p m c := by obtain ⟨p, c, rfl, _⟩ := h; exact ⟨_, _, _, rfl⟩
set_option maxHeartbeats 2000000 in
set_option maxRecDepth 100000 in
theorem bytes_flat (k x : Int) (b : Nat) (s : ByteArray) (a : Option Addr) (c : Nat) (bv : Value) (L : List UInt8) (w : World) (hk0 : 0 ≤ k) (hk : k ≤ 3) (hx : (Lit.int .i64 x).wf = true) (hb : b < 18446744073709551616) (hs : s.size ≤ 200) (hv : Lib.HoldsBytes w bv L) (hl : L.length + 210 ≤ 70368744177663) :
    Calls Tryz.prog 62 #[bv, .agg #[.int .i64 k, .int .i64 x, .int .u64 (b : Int), .string s, .slice a 0 c]] w (RH w (L ++ (enc k.toNat ++ (if k = 1 then be (tn x) 8 else if k = 2 then be b 8 else if k = 3 then enc s.size ++ s.data.toList else [])))) := by
  have he : (enc k.toNat).length = 1 := enc_one (by omega)
  have HN : Hid (∀ W, Below w.heap.size w W → Calls Tryz.prog 86 #[bv, .int .i64 k] W (RB W (L ++ enc k.toNat))) := fun W hB => refNum_calls bv L k (by omega) W (holds_below hv hB) (by omega)
  obtain ⟨bp, bm, bc, rfl⟩ := holds_sliceY hv
  obtain ⟨M, hM⟩ : ∃ M, M = L ++ enc k.toNat := ⟨_, rfl⟩
  have hml : M.length ≤ 70368744177463 := by rw [hM, List.length_append]; omega
  rw [← List.append_assoc]
  rw [← hM] at HN ⊢
  have H1 : Hid (∀ W v, Lib.HoldsBytes W v M → Calls Tryz.prog 87 #[v, .int .i64 x] W (RB W (M ++ be (tn x) 8))) := fun W v h => refInt_calls v M x hx W h (by omega)
  have H2 : Hid (∀ W v, Lib.HoldsBytes W v M → Calls Tryz.prog 88 #[v, .int .u64 (b : Int)] W (RB W (M ++ be b 8))) := fun W v h => refBits_calls v M b hb W h (by omega)
  have H3 : Hid (∀ W v, Lib.HoldsBytes W v M → Calls Tryz.prog 89 #[v, .string s] W (RB W (M ++ enc s.size ++ s.data.toList))) := fun W v h => refText_calls v M s W h (by omega) (by omega)
  clear hv hl he hM hml hx hb hs
  rcases (by omega : k = 0 ∨ k = 1 ∨ k = 2 ∨ k = 3) with rfl | rfl | rfl | rfl
  · rw [if_neg (by decide), if_neg (by decide), if_neg (by decide), List.append_nil]
    clear hk hk0
    go_enter Tryz.func62, Tryz.ntmps62
    go_wp2_with fail
    refine (HN.out _ (bel1 _ _)).mono ?_
    rintro e w1 ⟨v1, rfl, ho, hb⟩
    have HV : Hid (Lib.HoldsBytes w1 v1 M) := own_holds ho
    have HB : Hid (Below w.heap.size w w1) := bel2 (bel1 _ _) hb
    obtain ⟨p0, p1, p2, p3, p4⟩ := (box_at w (.int .i64 0) (.int .i64 x) (.int .u64 (b : Int)) (.string s) (.slice a 0 c)).below hb
    clear ho hb
    go_wp2_with fail
    go_ret
    exact ⟨_, rfl, HV.out, HB.out⟩
  · rw [if_pos rfl]
    clear hk hk0
    go_enter Tryz.func62, Tryz.ntmps62
    go_wp2_with fail
    refine (HN.out _ (bel1 _ _)).mono ?_
    rintro e w1 ⟨v1, rfl, ho, hb⟩
    have HV : Hid (Lib.HoldsBytes w1 v1 M) := own_holds ho
    have HB : Hid (Below w.heap.size w w1) := bel2 (bel1 _ _) hb
    obtain ⟨p0, p1, p2, p3, p4⟩ := (box_at w (.int .i64 1) (.int .i64 x) (.int .u64 (b : Int)) (.string s) (.slice a 0 c)).below hb
    clear ho hb
    go_wp2_with fail
    refine (H1.out _ _ HV.out).mono ?_
    rintro e w2 ⟨v2, rfl, ho, hb⟩
    have HV2 : Hid (Lib.HoldsBytes w2 v2 _) := own_holds ho
    have HB2 : Hid (Below w.heap.size w w2) := bel2 HB.out hb
    clear ho hb
    go_wp2_with fail
    go_ret
    exact ⟨_, rfl, HV2.out, HB2.out⟩
  · rw [if_neg (by decide), if_pos rfl]
    clear hk hk0
    go_enter Tryz.func62, Tryz.ntmps62
    go_wp2_with fail
    refine (HN.out _ (bel1 _ _)).mono ?_
    rintro e w1 ⟨v1, rfl, ho, hb⟩
    have HV : Hid (Lib.HoldsBytes w1 v1 M) := own_holds ho
    have HB : Hid (Below w.heap.size w w1) := bel2 (bel1 _ _) hb
    obtain ⟨p0, p1, p2, p3, p4⟩ := (box_at w (.int .i64 2) (.int .i64 x) (.int .u64 (b : Int)) (.string s) (.slice a 0 c)).below hb
    clear ho hb
    go_wp2_with fail
    refine (H2.out _ _ HV.out).mono ?_
    rintro e w2 ⟨v2, rfl, ho, hb⟩
    have HV2 : Hid (Lib.HoldsBytes w2 v2 _) := own_holds ho
    have HB2 : Hid (Below w.heap.size w w2) := bel2 HB.out hb
    clear ho hb
    go_wp2_with fail
    go_ret
    exact ⟨_, rfl, HV2.out, HB2.out⟩
  · rw [if_neg (by decide), if_neg (by decide), if_pos rfl, ← List.append_assoc]
    clear hk hk0
    go_enter Tryz.func62, Tryz.ntmps62
    go_wp2_with fail
    refine (HN.out _ (bel1 _ _)).mono ?_
    rintro e w1 ⟨v1, rfl, ho, hb⟩
    have HV : Hid (Lib.HoldsBytes w1 v1 M) := own_holds ho
    have HB : Hid (Below w.heap.size w w1) := bel2 (bel1 _ _) hb
    obtain ⟨p0, p1, p2, p3, p4⟩ := (box_at w (.int .i64 3) (.int .i64 x) (.int .u64 (b : Int)) (.string s) (.slice a 0 c)).below hb
    clear ho hb
    go_wp2_with fail
    refine (H3.out _ _ HV.out).mono ?_
    rintro e w2 ⟨v2, rfl, ho, hb⟩
    have HV2 : Hid (Lib.HoldsBytes w2 v2 _) := own_holds ho
    have HB2 : Hid (Below w.heap.size w w2) := bel2 HB.out hb
    clear ho hb
    go_wp2_with fail
    go_ret
    exact ⟨_, rfl, HV2.out, HB2.out⟩
end Go.Proofs.YthphgkaifnacbaaGreat
namespace Go.Proofs.YthphgkaifnacbaaGreat
open Go.ChangeShapes Go.WideShapes Go.ChangeAt Go.RowKit Go.BigFrame
set_option maxHeartbeats 2000000 in
set_option maxRecDepth 100000 in
theorem bytes_list (n d : Nat) (ih : BytesAt n) (x : Int) (b : Int) (s : ByteArray) (a : Option Addr) (c : Nat) (l : List Tv) (bv : Value) (L : List UInt8) (w : World) (hn : l.length ≤ 12) (hr : Row (Is w n) w a l) (hs : ∀ (i : Nat) t, l[i]? = some t → ShapeT n (d : Int) t) (hv : Lib.HoldsBytes w bv L) (hl : L.length + BD (d + 1) ≤ 70368744177663) :
    Calls Tryz.prog 62 #[bv, .agg #[.int .i64 4, .int .i64 x, .int .u64 b, .string s, .slice a l.length c]] w (RH w (L ++ enc 4 ++ enc l.length ++ (l.map (bytesT n)).flatten)) := by
  have hbd : ∀ (i : Nat) t, l[i]? = some t → (bytesT n t).length ≤ BD d := fun i t ht => bytes_bd n d t (hs i t ht)
  have hfl : ∀ j, (((l.take j).map (bytesT n)).flatten).length ≤ 12 * BD d := fun j => by
    have h1 := flat_le (n := n) (l := l) (j := j)
    have h2 := flat_bd l hbd
    have h3 : l.length * BD d ≤ 12 * BD d := Nat.mul_le_mul_right _ hn
    omega
  have e1 : (enc 4).length = 1 := enc_one (by omega)
  have e2 : (enc l.length).length = 1 := enc_one hn
  simp only [BD] at hl
  have HN : Hid (∀ W, Below w.heap.size w W → Calls Tryz.prog 86 #[bv, .int .i64 4] W (RB W (L ++ enc 4))) := fun W hB => refNum_calls bv L 4 (by omega) W (holds_below hv hB) (by omega)
  have HM : Hid (∀ W v, Lib.HoldsBytes W v (L ++ enc 4) → Calls Tryz.prog 86 #[v, .int .i64 (l.length : Int)] W (RB W (L ++ enc 4 ++ enc l.length))) := fun W v h => by
    have := refNum_calls v (L ++ enc 4) (l.length : Int) (by omega) W h (by rw [List.length_append]; omega)
    rwa [Int.toNat_natCast] at this
  obtain ⟨M, hM⟩ : ∃ M, M = L ++ enc 4 ++ enc l.length := ⟨_, rfl⟩
  have hml : M.length = L.length + 2 := by rw [hM, List.length_append, List.length_append]; omega
  rw [← hM] at HM ⊢
  obtain ⟨bp, bm, bc, rfl⟩ := holds_sliceY hv
  have HI : Hid (∀ (j : Nat) (hj : j < l.length) (v : Value) (bv : Value) (W : World), Is W n v (l[j]) → Lib.HoldsBytes W bv (M ++ ((l.take j).map (bytesT n)).flatten) → Calls Tryz.prog 62 #[bv, v] W (RH W (M ++ ((l.take (j + 1)).map (bytesT n)).flatten))) := fun j hj v bv W hi hb => by
    have := ih d v l[j] bv _ W hi (hs j _ (List.getElem?_eq_getElem hj)) hb (by rw [List.length_append]; have := hfl j; omega)
    rwa [List.append_assoc, ← flat_more hj] at this
  have HR : Hid (Row (Is w n) w a l) := hr
  obtain ⟨N, hN⟩ : ∃ N, N = l.length := ⟨_, rfl⟩
  rw [← hN] at HM ⊢
  have HNN : Hid (N = l.length ∧ N ≤ 12) := ⟨hN, by omega⟩
  clear hr hv hl hs hbd hfl e1 e2 hM hml hN hn ih
  go_enter Tryz.func62, Tryz.ntmps62
  go_wp2_with fail
  refine (HN.out _ (bel1 _ _)).mono ?_
  rintro e w1 ⟨v1, rfl, ho, hb⟩
  have HV : Hid (Lib.HoldsBytes w1 v1 _) := own_holds ho
  have HB : Hid (Below w.heap.size w w1) := bel2 (bel1 _ _) hb
  have HP : Hid (At5 w1 w.heap.size 0 (.int .i64 4) (.int .i64 x) (.int .u64 b) (.string s) (.slice a N c)) := (box_at w (.int .i64 4) (.int .i64 x) (.int .u64 b) (.string s) (.slice a N c)).below hb
  clear ho hb
  obtain ⟨p0, p1, p2, p3, p4⟩ := HP.out
  go_wp2_with fail
  refine (HM.out _ _ HV.out).mono ?_
  rintro e w2 ⟨v2, rfl, ho, hb⟩
  have HV2 : Hid (Lib.HoldsBytes w2 v2 M) := own_holds ho
  have HB2 : Hid (Below w.heap.size w w2) := bel2 HB.out hb
  have HP2 : Hid (At5 w2 w.heap.size 0 (.int .i64 4) (.int .i64 x) (.int .u64 b) (.string s) (.slice a N c)) := HP.out.below hb
  clear ho hb p0 p1 p2 p3 p4
  go_wp2_with fail
  go_loopw [0, 5] (fun bb i wr => ∃ j : Nat, j ≤ N ∧ i = .int .i64 j ∧ Hid (Lib.HoldsBytes wr bb (M ++ ((l.take j).map (bytesT n)).flatten)) ∧ Hid (Below w2.heap.size w2 wr)) (fun _ i _ => N - (intOf i).toNat)
  case atStart => exact ⟨0, Nat.zero_le _, rfl, by simpa using HV2, Below.refl _ _⟩
  case round =>
    obtain ⟨j, hj, rfl, HE, HBr⟩ := hrel
    obtain ⟨p0, p1, p2, p3, p4⟩ := HP2.out.below HBr.out
    by_cases hlt : j < N
    · have HT : Hid (j < l.length) := by have := HNN.out.1; show _ < _; omega
      obtain ⟨B, o, c0, c1, c2, c3, c4, rfl, h5, hi⟩ := HR.out j _ (List.getElem?_eq_getElem HT.out)
      obtain ⟨k', x', b', s', a', m', c', rfl, rfl, rfl, rfl, rfl⟩ := hi.shape
      have HBw := bel2 HB2.out HBr.out
      obtain ⟨e0, e1, e2, e3, e4⟩ := h5.below HBw
      have C0 : Hid (Calls Tryz.prog 62 #[_, _] wr _) := HI.out j HT.out _ _ wr (hi.below HBw) HE.out
      have HW : Hid (wrap64 ((j : Int) + 1) = ((j + 1 : Nat) : Int)) := wr1 hlt (by have := HNN.out.2; omega)
      have hjl : (j : Int) < (N : Int) := by omega
      clear hi h5 HBw
      go_wp2_with fail
      refine C0.out.mono ?_
      rintro x w3 ⟨v3, rfl, hv3, hb3⟩
      have HV3 : Hid (Lib.HoldsBytes w3 v3 _) := hv3
      have HB3 : Hid (Below w2.heap.size w2 w3) := bel2 HBr.out hb3
      clear hv3 hb3
      go_wp2_with fail
      exact ⟨⟨j + 1, hlt, by rw [HW.out], HV3, HB3⟩, meas hlt HW.out⟩
    · obtain rfl : j = N := by omega
      go_wp2_with fail
      go_ret
      refine ⟨_, rfl, ?_, bel2 HB2.out HBr.out⟩
      have := HE.out
      rwa [List.take_of_length_le (by have := HNN.out.1; omega)] at this
theorem bytes_calls45 : ∀ n, BytesAt n := by
  intro n
  induction n with
  | zero => intro d v t b L w h; exact h.elim
  | succ n ih =>
    rintro d v ⟨k, x, b, s, l⟩ bv L w ⟨a, c, rfl, hf, hr⟩ ⟨hfi, hk, hs⟩ hv hl
    obtain ⟨b, rfl⟩ : ∃ m : Nat, b = m := ⟨b.toNat, by have := hf.b0; omega⟩
    obtain ⟨k0, k4, _, _, _, _, hsz, hn0, hn⟩ := hfi
    have hd : 210 ≤ BD d := by cases d <;> simp [BD]
    by_cases h4 : k = 4
    · subst h4
      obtain ⟨d', rfl⟩ : ∃ d', d = d' + 1 := ⟨d - 1, by have := hk rfl; omega⟩
      have := bytes_list n d' ih x b s a c l bv L w hn hr (fun i t ht => by have := hs i t ht; rwa [show (((d' + 1 : Nat) : Int) - 1) = (d' : Int) by omega] at this) hv hl
      unfold bytesT
      rw [if_neg (by decide), if_neg (by decide), if_neg (by decide), if_pos rfl, ← List.append_assoc, ← List.append_assoc]
      exact this
    · obtain rfl : l = [] := List.eq_nil_of_length_eq_zero (hn0.resolve_left h4)
      have hx : (Lit.int .i64 x).wf = true := by
        have h1 := hf.x0
        have h2 := hf.x1
        simp only [Lit.wf, IntKind.min, IntKind.max, IntKind.signed, IntKind.bits, Bool.and_eq_true, decide_eq_true_eq, if_true]
        omega
      have := bytes_flat k x b s a c bv L w k0 (by omega) hx (by have := hf.b1; omega) hsz hv (by omega)
      unfold bytesT
      rw [if_neg (c := k = 4) h4, Int.toNat_natCast]
      exact this
end Go.Proofs.YthphgkaifnacbaaGreat
namespace Go.Proofs.YthphgkaifnacbaaGreat
open Go.ChangeShapes Go.WideShapes Go.ChangeAt Go.RowKit Go.BigFrame
/-- What a Check says. -/
def VkP (w : World) (p : Prop) (e : Ending) (w' : World) : Prop := (∃ r : Int, e = .returned (.int .i64 r) ∧ (p → r = 0) ∧ (¬ p → r = 1)) ∧ Below w.heap.size w w'
theorem holds_len {w : World} {v : Value} {l : List UInt8} (h : Lib.HoldsBytes w v l) : ∃ p c, v = .slice p l.length c := by obtain ⟨p, c, rfl, _⟩ := h; exact ⟨_, _, rfl⟩
set_option maxHeartbeats 2000000 in
set_option maxRecDepth 100000 in
theorem rcheck_calls (n : Nat) (v : Value) (t : Tv) (w : World) (h : Is w n v t) : Calls Tryz.prog 30 #[v] w (VkP w (May n t)) := by
  have HS : Hid (∀ W, Below w.heap.size w W → Calls Tryz.prog 61 #[v, .int .i64 4] W (FP (ShapeT n 4 t) W)) := fun W hB => shape_calls n v t 4 W (by omega) (by omega) (h.below hB)
  have HBy : Hid (ShapeT n 4 t → ∀ W, Below w.heap.size w W → Calls Tryz.prog 62 #[.slice none 0 0, v] W (RH W (bytesT n t))) := fun hs W hB => by
    have := bytes_calls45 n 4 v t (.slice none 0 0) [] W (h.below hB) hs (holds_nil W) (by simp [BD])
    rwa [List.nil_append] at this
  obtain ⟨k, x, b, s, a, m, c, rfl⟩ : ∃ k x b s a m c, v = .agg #[.int .i64 k, .int .i64 x, .int .u64 b, .string s, .slice a m c] := by
    cases n with
    | zero => exact h.elim
    | succ n => obtain ⟨k, x, b, s, l⟩ := t; obtain ⟨a, c, rfl, _⟩ := h; exact ⟨_, _, _, _, _, _, _, rfl⟩
  clear h
  go_enter Tryz.func30, Tryz.ntmps30
  go_wp2_with fail
  refine (HS.out _ (bel1 _ _)).mono ?_
  rintro e w1 ⟨⟨r1, rfl, hr1⟩, hb1⟩
  have HB1 : Hid (Below w.heap.size w w1) := bel2 (bel1 _ _) hb1
  have HR1 : Hid (r1 = true ↔ ShapeT n 4 t) := hr1
  obtain ⟨p0, p1, p2, p3, p4⟩ := (box_at w (.int .i64 k) (.int .i64 x) (.int .u64 b) (.string s) (.slice a m c)).below hb1
  clear hb1 hr1
  cases r1 with
  | false =>
    go_wp2_with fail
    go_ret
    exact ⟨⟨1, rfl, fun q => (by cases HR1.out.2 q.1), fun _ => rfl⟩, HB1.out⟩
  | true =>
    have HSh : Hid (ShapeT n 4 t) := HR1.out.1 rfl
    clear HR1
    go_wp2_with fail
    refine (HBy.out HSh.out w1 HB1.out).mono ?_
    rintro e w2 ⟨v2, rfl, hv2, hb2⟩
    have HB2 : Hid (Below w.heap.size w w2) := bel2 HB1.out hb2
    obtain ⟨vp, vc, rfl⟩ := holds_len hv2
    clear hb2 hv2 p0 p1 p2 p3 p4
    obtain ⟨Z, hZ⟩ : ∃ Z, Z = (bytesT n t).length := ⟨_, rfl⟩
    have HZ : Hid (Z = (bytesT n t).length) := hZ
    rw [← hZ]
    clear hZ
    by_cases hb : 1000 < Z
    · have f1 : decide (1000 < (Z : Int)) = true := decide_eq_true (by omega)
      have f2 : decide (1000 < Z) = true := decide_eq_true hb
      have HH : Hid (1000 < Z) := hb
      clear hb
      go_wp2_with fail
      go_ret
      exact ⟨⟨1, rfl, fun q => absurd q.2 (by have := HH.out; have := HZ.out; omega), fun _ => rfl⟩, HB2.out⟩
    · have f1 : decide (1000 < (Z : Int)) = false := decide_eq_false (by omega)
      have f2 : decide (1000 < Z) = false := decide_eq_false hb
      have HH : Hid (¬ 1000 < Z) := hb
      clear hb
      go_wp2_with fail
      go_ret
      exact ⟨⟨0, rfl, fun _ => rfl, fun q => absurd ⟨HSh.out, by have := HH.out; have := HZ.out; omega⟩ q⟩, HB2.out⟩
end Go.Proofs.YthphgkaifnacbaaGreat
namespace Go.Proofs.YthphgkaifnacbaaGreat
open Go.ChangeShapes Go.WideShapes Go.ChangeAt Go.RowKit
theorem rletter_calls (c : Nat) (h : c < 256) (w : World) : Calls Tryz.prog 60 #[.int .u8 (c : Int)] w fun e w' => e = .returned (.bool (okc c)) ∧ w' = w := by
  go_enter Tryz.func60, Tryz.ntmps60
  go_wp2
  all_goals go_ret
  all_goals refine ⟨?_, rfl⟩
  all_goals show Ending.returned (Value.bool _) = Ending.returned (Value.bool _)
  all_goals congr 2
  all_goals rw [Bool.eq_iff_iff]
  all_goals simp [okc, lett, digi]
  all_goals omega
theorem rname_calls (s : ByteArray) (w : World) : Calls Tryz.prog 29 #[.string s] w fun e w' => e = .returned (.bool (nmB s)) ∧ w' = w := by
  by_cases h1 : s.size < 1
  · rw [nm_small s h1]
    have d1 : decide ((s.size : Int) < 1) = true := decide_eq_true (by omega)
    go_enter Tryz.func29, Tryz.ntmps29
    go_wp2
    go_ret
    exact ⟨rfl, rfl⟩
  by_cases h2 : 24 < s.size
  · rw [nm_big s h2]
    have d1 : decide ((s.size : Int) < 1) = false := decide_eq_false (by omega)
    have d2 : decide (24 < (s.size : Int)) = true := decide_eq_true (by omega)
    go_enter Tryz.func29, Tryz.ntmps29
    go_wp2
    go_ret
    exact ⟨rfl, rfl⟩
  have d1 : decide ((s.size : Int) < 1) = false := decide_eq_false (by omega)
  have d2 : decide (24 < (s.size : Int)) = false := decide_eq_false (by omega)
  have g1 : 1 ≤ s.size := by omega
  have g2 : s.size ≤ 24 := by omega
  have h0 : 0 < s.size := by omega
  rw [nm_in s g1 g2]
  clear h1 h2
  by_cases h3 : s[0].toNat = 46 ∨ s[0].toNat = 45
  · rw [allG_false s (fun h => by have := h 0 h0; rw [gd_zero _ h3] at this; cases this)]
    rcases h3 with h3 | h3
    · have e1 : ((s[0].toNat : Int) == 46) = true := by rw [h3]; rfl
      go_enter Tryz.func29, Tryz.ntmps29
      go_wp2
      go_ret
      exact ⟨rfl, rfl⟩
    · have e1 : ((s[0].toNat : Int) == 46) = false := by rw [h3]; rfl
      have e2 : ((s[0].toNat : Int) == 45) = true := by rw [h3]; rfl
      go_enter Tryz.func29, Tryz.ntmps29
      go_wp2
      go_ret
      exact ⟨rfl, rfl⟩
  have e1 : ((s[0].toNat : Int) == 46) = false := by simp; omega
  have e2 : ((s[0].toNat : Int) == 45) = false := by simp; omega
  have H3 : Hid (∀ i (h : i < s.size), i = 0 → ¬ (s[i].toNat = 46 ∨ s[i].toNat = 45)) := by
    intro i h e
    subst e
    exact h3
  clear h3
  go_enter Tryz.func29, Tryz.ntmps29
  go_wp2
  go_loop [3] (fun i => ∃ j : Nat, j ≤ s.size ∧ i = .int .i64 j ∧ Hid (∀ i (_ : i < j) (h : i < s.size), gd i s[i] = true)) (fun i => s.size - (intOf i).toNat)
  case atStart => exact ⟨0, Nat.zero_le _, rfl, fun i h => absurd h (by omega)⟩
  case round =>
    obtain ⟨j, hj, rfl, HG⟩ := hrel
    by_cases hlt : j < s.size
    · have hc : s[j].toNat < 256 := s[j].toNat_lt
      have LC : Hid (Calls _ _ _ _ _) := rletter_calls s[j].toNat hc w
      have hw : wrap64 ((j : Int) + 1) = (j : Int) + 1 := by unfold wrap64; omega
      cases hL : okc s[j].toNat with
      | true =>
        rw [hL] at LC
        have HQ : Hid (∀ i (_ : i < j + 1) (h : i < s.size), gd i s[i] = true) := by
          intro i hi h2
          by_cases e : i = j
          · subst e; exact gd_ok _ _ hL (H3.out _ h2)
          · exact HG.out i (by omega) h2
        clear hL
        go_wp2_with fail
        refine Calls.mono LC.out ?_
        rintro e w1 ⟨rfl, hw1⟩
        have hw2 := hw1.symm
        subst hw2
        go_wp2
        go_round
        case rel => exact ⟨j + 1, hlt, by first | rfl | (rw [hw]; rfl), HQ⟩
        case measure => first | exact measM _ _ hlt | (rw [hw]; exact measM _ _ hlt)
      | false =>
        rw [hL] at LC
        have HQ : Hid (allG s = false) := allG_false s (fun h => by have := h j hlt; rw [gd_bad _ _ hL] at this; cases this)
        clear hL
        go_wp2_with fail
        refine Calls.mono LC.out ?_
        rintro e w1 ⟨rfl, hw1⟩
        have hw2 := hw1.symm
        subst hw2
        go_wp2
        go_ret
        exact ⟨by rw [HQ.out]; rfl, rfl⟩
    · obtain rfl : j = s.size := by omega
      have HQ : Hid (allG s = true) := allG_true s (fun i h => HG.out i h h)
      go_wp2
      go_ret
      exact ⟨by rw [HQ.out]; rfl, rfl⟩
end Go.Proofs.YthphgkaifnacbaaGreat
namespace Go.Proofs.YthphgkaifnacbaaGreat
open Go.ChangeShapes Go.WideShapes Go.ChangeAt Go.RowKit
/-- The numbers zs lie in block g. -/
def Ih (w : World) (g : Nat) (zs : List Int) : Prop := ∀ (i : Nat) z, zs[i]? = some z → w.cell? ⟨g, i, none⟩ = some (.int .i64 z)
theorem in_calls (k : Int) (g n : Nat) (zs : List Int) (hn : zs.length = n) (h10 : n ≤ 10) (w : World) (h : Ih w g zs) :
    Calls Tryz.prog 79 #[.int .i64 k, .slice (some ⟨g, 0, none⟩) n n] w fun e w' => e = .returned (.bool (zs.contains k)) ∧ w' = w := by
  have HZ : Hid (Ih w g zs) := h
  have HN : Hid (zs.length = n) := hn
  have H10 : Hid (n ≤ 10) := h10
  obtain ⟨B, hB⟩ : ∃ B, B = zs.contains k := ⟨_, rfl⟩
  have HB : Hid (B = zs.contains k) := hB
  rw [← hB]
  clear h hn h10 hB
  go_enter Tryz.func79, Tryz.ntmps79
  go_wp2_with fail
  go_loop [5] (fun i => ∃ j : Nat, j ≤ n ∧ i = .int .i64 j ∧ Hid (∀ q, q < j → zs[q]? ≠ some k)) (fun i => n - (intOf i).toNat)
  case atStart => exact ⟨0, Nat.zero_le _, rfl, fun q hq => absurd hq (Nat.not_lt_zero _)⟩
  case round =>
    obtain ⟨j, hj, rfl, HQ⟩ := hrel
    by_cases hlt : j < n
    · have hjl : (j : Int) < (n : Int) := by omega
      have hj9 : (j : Int) < 10 := by have := H10.out; omega
      obtain ⟨z, hz⟩ : ∃ z, zs[j]? = some z := ⟨_, List.getElem?_eq_getElem (by have := HN.out; omega)⟩
      have hc := HZ.out j z hz
      have HZJ : Hid (zs[j]? = some z) := hz
      clear hz
      by_cases hzk : z = k
      · subst hzk
        have hb : B = true := by rw [HB.out]; exact List.contains_iff_mem.2 (List.mem_of_getElem? HZJ.out)
        subst hb
        go_wp2_with fail
        go_ret
        exact ⟨rfl, rfl⟩
      · have hzf : (z == k) = false := by simpa using hzk
        have HQ2 : Hid (∀ q, q < j + 1 → zs[q]? ≠ some k) := fun q hq => by
          by_cases e : q = j
          · subst e; rw [HZJ.out]; intro h; injection h with h; exact hzk h
          · exact HQ.out q (by omega)
        clear hzk
        go_wp2_with fail
        refine ⟨⟨j + 1, hlt, by first | rfl | (rw [Int.natCast_add]; rfl), HQ2⟩, ?_⟩
        simp only [intOf]
        omega
    · obtain rfl : j = n := by omega
      have hb : B = false := by
        rw [HB.out, ← Bool.not_eq_true]
        intro hm
        obtain ⟨q, hq⟩ := List.mem_iff_getElem?.1 (List.contains_iff_mem.1 hm)
        have hql : q < j := by have := (List.getElem?_eq_some_iff.1 hq).1; have := HN.out; omega
        exact HQ.out q hql hq
      subst hb
      go_wp2_with fail
      go_ret
      exact ⟨rfl, rfl⟩
theorem hD_eq (k : Int) : ([1, 2, 3, 9] : List Int).contains k = hD k := by
  unfold hD pt bt
  (repeat' split) <;> (simp_all; try omega)
theorem hM_eq (k : Int) : ([1, 7, 9, 10, 11, 12, 13] : List Int).contains k = hM k := by
  unfold hM pt bt
  (repeat' split) <;> (simp_all; try omega)
theorem hT_eq (k : Int) : ([5, 16, 18] : List Int).contains k = hT k := by
  unfold hT pt bt
  (repeat' split) <;> (simp_all; try omega)
theorem hV_eq (k : Int) : ([1, 7, 12, 13, 14, 15] : List Int).contains k = hV k := by
  unfold hV pt bt
  (repeat' split) <;> (simp_all; try omega)
theorem hP_eq (k : Int) : (k == 1) = hP k := by
  unfold hP pt bt
  (repeat' split) <;> (simp_all; try omega)
theorem hasD_calls (k : Int) (w : World) : Calls Tryz.prog 46 #[.int .i64 k] w fun e w' => e = .returned (.bool (hD k)) ∧ Below w.heap.size w w' := by
  have IC : Hid (Calls Tryz.prog 79 #[.int .i64 k, .slice (some ⟨w.heap.size, 0, none⟩) 4 4] (w.alloc (.cells #[.int .i64 1, .int .i64 2, .int .i64 3, .int .i64 9] 3)) fun e w' => e = .returned (.bool (hD k)) ∧ w' = (w.alloc (.cells #[.int .i64 1, .int .i64 2, .int .i64 3, .int .i64 9] 3))) := by
    have := in_calls k w.heap.size 4 [1, 2, 3, 9] rfl (by decide) (w.alloc (.cells #[.int .i64 1, .int .i64 2, .int .i64 3, .int .i64 9] 3)) (fun i z hz => by
      have : (#[.int .i64 1, .int .i64 2, .int .i64 3, .int .i64 9] : Array Value)[i]? = some (.int .i64 z) := by
        match i, hz with
        | 0, hz => cases hz; rfl
        | 1, hz => cases hz; rfl
        | 2, hz => cases hz; rfl
        | 3, hz => cases hz; rfl
        | i + 4, hz => simp at hz
      simpa using this)
    rw [hD_eq] at this
    exact this
  go_enter Tryz.func46, Tryz.ntmps46
  go_wp2_with fail
  refine IC.out.mono ?_
  rintro e w1 ⟨rfl, e1⟩
  subst e1
  go_wp2_with fail
  go_ret
  exact ⟨rfl, bel1 _ _⟩
theorem hasM_calls (k : Int) (w : World) : Calls Tryz.prog 77 #[.int .i64 k] w fun e w' => e = .returned (.bool (hM k)) ∧ Below w.heap.size w w' := by
  have IC : Hid (Calls Tryz.prog 79 #[.int .i64 k, .slice (some ⟨w.heap.size, 0, none⟩) 7 7] (w.alloc (.cells #[.int .i64 1, .int .i64 7, .int .i64 9, .int .i64 10, .int .i64 11, .int .i64 12, .int .i64 13] 3)) fun e w' => e = .returned (.bool (hM k)) ∧ w' = (w.alloc (.cells #[.int .i64 1, .int .i64 7, .int .i64 9, .int .i64 10, .int .i64 11, .int .i64 12, .int .i64 13] 3))) := by
    have := in_calls k w.heap.size 7 [1, 7, 9, 10, 11, 12, 13] rfl (by decide) (w.alloc (.cells #[.int .i64 1, .int .i64 7, .int .i64 9, .int .i64 10, .int .i64 11, .int .i64 12, .int .i64 13] 3)) (fun i z hz => by
      have : (#[.int .i64 1, .int .i64 7, .int .i64 9, .int .i64 10, .int .i64 11, .int .i64 12, .int .i64 13] : Array Value)[i]? = some (.int .i64 z) := by
        match i, hz with
        | 0, hz => cases hz; rfl
        | 1, hz => cases hz; rfl
        | 2, hz => cases hz; rfl
        | 3, hz => cases hz; rfl
        | 4, hz => cases hz; rfl
        | 5, hz => cases hz; rfl
        | 6, hz => cases hz; rfl
        | i + 7, hz => simp at hz
      simpa using this)
    rw [hM_eq] at this
    exact this
  go_enter Tryz.func77, Tryz.ntmps77
  go_wp2_with fail
  refine IC.out.mono ?_
  rintro e w1 ⟨rfl, e1⟩
  subst e1
  go_wp2_with fail
  go_ret
  exact ⟨rfl, bel1 _ _⟩
theorem hasT_calls (k : Int) (w : World) : Calls Tryz.prog 78 #[.int .i64 k] w fun e w' => e = .returned (.bool (hT k)) ∧ Below w.heap.size w w' := by
  have IC : Hid (Calls Tryz.prog 79 #[.int .i64 k, .slice (some ⟨w.heap.size, 0, none⟩) 3 3] (w.alloc (.cells #[.int .i64 5, .int .i64 16, .int .i64 18] 3)) fun e w' => e = .returned (.bool (hT k)) ∧ w' = (w.alloc (.cells #[.int .i64 5, .int .i64 16, .int .i64 18] 3))) := by
    have := in_calls k w.heap.size 3 [5, 16, 18] rfl (by decide) (w.alloc (.cells #[.int .i64 5, .int .i64 16, .int .i64 18] 3)) (fun i z hz => by
      have : (#[.int .i64 5, .int .i64 16, .int .i64 18] : Array Value)[i]? = some (.int .i64 z) := by
        match i, hz with
        | 0, hz => cases hz; rfl
        | 1, hz => cases hz; rfl
        | 2, hz => cases hz; rfl
        | i + 3, hz => simp at hz
      simpa using this)
    rw [hT_eq] at this
    exact this
  go_enter Tryz.func78, Tryz.ntmps78
  go_wp2_with fail
  refine IC.out.mono ?_
  rintro e w1 ⟨rfl, e1⟩
  subst e1
  go_wp2_with fail
  go_ret
  exact ⟨rfl, bel1 _ _⟩
theorem hasV_calls (k : Int) (w : World) : Calls Tryz.prog 47 #[.int .i64 k] w fun e w' => e = .returned (.bool (hV k)) ∧ Below w.heap.size w w' := by
  have IC : Hid (Calls Tryz.prog 79 #[.int .i64 k, .slice (some ⟨w.heap.size, 0, none⟩) 6 6] (w.alloc (.cells #[.int .i64 1, .int .i64 7, .int .i64 12, .int .i64 13, .int .i64 14, .int .i64 15] 3)) fun e w' => e = .returned (.bool (hV k)) ∧ w' = (w.alloc (.cells #[.int .i64 1, .int .i64 7, .int .i64 12, .int .i64 13, .int .i64 14, .int .i64 15] 3))) := by
    have := in_calls k w.heap.size 6 [1, 7, 12, 13, 14, 15] rfl (by decide) (w.alloc (.cells #[.int .i64 1, .int .i64 7, .int .i64 12, .int .i64 13, .int .i64 14, .int .i64 15] 3)) (fun i z hz => by
      have : (#[.int .i64 1, .int .i64 7, .int .i64 12, .int .i64 13, .int .i64 14, .int .i64 15] : Array Value)[i]? = some (.int .i64 z) := by
        match i, hz with
        | 0, hz => cases hz; rfl
        | 1, hz => cases hz; rfl
        | 2, hz => cases hz; rfl
        | 3, hz => cases hz; rfl
        | 4, hz => cases hz; rfl
        | 5, hz => cases hz; rfl
        | i + 6, hz => simp at hz
      simpa using this)
    rw [hV_eq] at this
    exact this
  go_enter Tryz.func47, Tryz.ntmps47
  go_wp2_with fail
  refine IC.out.mono ?_
  rintro e w1 ⟨rfl, e1⟩
  subst e1
  go_wp2_with fail
  go_ret
  exact ⟨rfl, bel1 _ _⟩
theorem hasP_calls (k : Int) (w : World) : Calls Tryz.prog 48 #[.int .i64 k] w fun e w' => e = .returned (.bool (hP k)) ∧ w' = w := by
  rw [← hP_eq]
  go_enter Tryz.func48, Tryz.ntmps48
  go_wp2
  go_ret
  exact ⟨rfl, rfl⟩
theorem rtext_calls (s : ByteArray) (w : World) : Calls Tryz.prog 34 #[.string s] w fun e w' => e = .returned (.bool (decide (s.size ≤ 200))) ∧ w' = w := by
  by_cases h : s.size ≤ 200
  · have h1 : (s.size : Int) ≤ 200 := by omega
    go_enter Tryz.func34, Tryz.ntmps34
    go_wp2
    go_ret
    simp [h]
  · have h1 : ¬ (s.size : Int) ≤ 200 := by omega
    go_enter Tryz.func34, Tryz.ntmps34
    go_wp2
    go_ret
    simp
set_option maxRecDepth 100000 in
theorem num_ok (k t n d : Int) (s : ByteArray) (vk vx vb : Int) (vs : ByteArray) (la : Option Addr) (ll lc : Nat) (f : Int) (c : Nat) (m : Int) (w : World) : Calls Tryz.prog 44 #[(.agg #[.int .i64 k, .int .i64 t, .int .i64 n, .int .i64 d, .string s, .int .i64 vk, .int .i64 vx, .int .u64 vb, .string vs, .slice la ll lc, .int .i64 f, .int .u64 (c : Int), .int .i64 m])] w fun e w' => e = .returned (.bool (wi n (nl k) (nm k))) ∧ Below w.heap.size w w' := by
  unfold wi
  by_cases h2 : k = 2
  · subst h2
    rw [show nl 2 = 1 from rfl, show nm 2 = 2147483648 from rfl]
    by_cases h1 : 1 ≤ n
    · by_cases h3 : n ≤ 2147483648
      · go_enter Tryz.func44, Tryz.ntmps44
        go_wp2_with fail
        go_ret
        exact ⟨by simp [h1, h3], bel1 _ _⟩
      · go_enter Tryz.func44, Tryz.ntmps44
        go_wp2_with fail
        go_ret
        exact ⟨by simp [h3], bel1 _ _⟩
    · go_enter Tryz.func44, Tryz.ntmps44
      go_wp2_with fail
      go_ret
      exact ⟨by simp; omega, bel1 _ _⟩
  · by_cases h5 : k = 5
    · subst h5
      rw [show nl 5 = 0 from rfl, show nm 5 = 10 from rfl]
      by_cases h1 : 0 ≤ n
      · by_cases h3 : n ≤ 10
        · go_enter Tryz.func44, Tryz.ntmps44
          go_wp2_with fail
          go_ret
          exact ⟨by simp [h1, h3], bel1 _ _⟩
        · go_enter Tryz.func44, Tryz.ntmps44
          go_wp2_with fail
          go_ret
          exact ⟨by simp [h3], bel1 _ _⟩
      · go_enter Tryz.func44, Tryz.ntmps44
        go_wp2_with fail
        go_ret
        exact ⟨by simp; omega, bel1 _ _⟩
    · have e1 : nl k = 0 := by unfold nl; simp [h2]
      have e2 : nm k = 0 := by unfold nm; simp [h2, h5]
      have d2 : (k == 2) = false := by simpa using h2
      have d5 : (k == 5) = false := by simpa using h5
      rw [e1, e2]
      clear e1 e2 h2 h5
      go_enter Tryz.func44, Tryz.ntmps44
      go_wp2_with fail
      go_ret
      refine ⟨?_, bel1 _ _⟩
      by_cases hn : n = 0
      · subst hn; rfl
      · have : ¬ (0 ≤ n ∧ n ≤ 0) := by omega
        have e : (decide (0 ≤ n) && decide (n ≤ 0)) = false := by
          rw [← Bool.decide_and]; exact decide_eq_false this
        rw [e]
        simp [hn]
set_option maxHeartbeats 1000000 in
set_option maxRecDepth 100000 in
theorem name_ok (k t n d : Int) (s : ByteArray) (vk vx vb : Int) (vs : ByteArray) (la : Option Addr) (ll lc : Nat) (f : Int) (c : Nat) (m : Int) (w : World) : Calls Tryz.prog 45 #[(.agg #[.int .i64 k, .int .i64 t, .int .i64 n, .int .i64 d, .string s, .int .i64 vk, .int .i64 vx, .int .u64 vb, .string vs, .slice la ll lc, .int .i64 f, .int .u64 (c : Int), .int .i64 m])] w fun e w' => e = .returned (.bool (nmf k s)) ∧ Below w.heap.size w w' := by
  have HX0 : Hid (At13 (w.alloc (.cells #[.int .i64 k, .int .i64 t, .int .i64 n, .int .i64 d, .string s, .int .i64 vk, .int .i64 vx, .int .u64 vb, .string vs, .slice la ll lc, .int .i64 f, .int .u64 (c : Int), .int .i64 m] 43)) w.heap.size (.int .i64 k) (.int .i64 t) (.int .i64 n) (.int .i64 d) (.string s) (.int .i64 vk) (.int .i64 vx) (.int .u64 vb) (.string vs) (.slice la ll lc) (.int .i64 f) (.int .u64 (c : Int)) (.int .i64 m)) := At13.box w (.int .i64 k) (.int .i64 t) (.int .i64 n) (.int .i64 d) (.string s) (.int .i64 vk) (.int .i64 vx) (.int .u64 vb) (.string vs) (.slice la ll lc) (.int .i64 f) (.int .u64 (c : Int)) (.int .i64 m)
  have MC : Hid (∀ W, _) := fun W => hasM_calls k W
  have TC : Hid (∀ W, _) := fun W => hasT_calls k W
  unfold nmf
  cases hm : hM k with
  | true =>
    rw [hm] at MC
    simp only [if_true]
    clear hm
    go_enter Tryz.func45, Tryz.ntmps45
    go_wp2_with fail
    refine (MC.out _).mono ?_
    rintro e w1 ⟨rfl, hb⟩
    have HB1 : Hid (Below w.heap.size w w1) := bel2 (bel1 _ _) hb
    obtain ⟨x0, x1, x2, x3, x4, x5, x6, x7, x8, x9, x10, x11, x12⟩ := HX0.out.below hb
    clear hb
    go_wp2_with fail
    refine (rname_calls _ _).mono ?_
    rintro e w2 ⟨rfl, e1⟩
    subst e1
    go_wp2_with fail
    go_ret
    exact ⟨rfl, HB1.out⟩
  | false =>
    rw [hm] at MC
    simp only [Bool.false_eq_true, if_false]
    clear hm
    cases ht : hT k with
    | true =>
      rw [ht] at TC
      simp only [if_true]
      clear ht
      go_enter Tryz.func45, Tryz.ntmps45
      go_wp2_with fail
      refine (MC.out _).mono ?_
      rintro e w1 ⟨rfl, hb⟩
      have HB1 : Hid (Below w.heap.size w w1) := bel2 (bel1 _ _) hb
      have HX1 : Hid (At13 w1 w.heap.size (.int .i64 k) (.int .i64 t) (.int .i64 n) (.int .i64 d) (.string s) (.int .i64 vk) (.int .i64 vx) (.int .u64 vb) (.string vs) (.slice la ll lc) (.int .i64 f) (.int .u64 (c : Int)) (.int .i64 m)) := HX0.out.below hb
      obtain ⟨x0, x1, x2, x3, x4, x5, x6, x7, x8, x9, x10, x11, x12⟩ := HX1.out
      clear hb
      go_wp2_with fail
      refine (TC.out _).mono ?_
      rintro e w2 ⟨rfl, hb⟩
      have HB2 : Hid (Below w.heap.size w w2) := bel2 HB1.out hb
      clear x0 x1 x2 x3 x4 x5 x6 x7 x8 x9 x10 x11 x12
      obtain ⟨x0, x1, x2, x3, x4, x5, x6, x7, x8, x9, x10, x11, x12⟩ := HX1.out.below hb
      clear hb
      go_wp2_with fail
      refine (rtext_calls _ _).mono ?_
      rintro e w3 ⟨rfl, e1⟩
      subst e1
      go_wp2_with fail
      go_ret
      exact ⟨rfl, HB2.out⟩
    | false =>
      rw [ht] at TC
      simp only [Bool.false_eq_true, if_false]
      clear ht
      go_enter Tryz.func45, Tryz.ntmps45
      go_wp2_with fail
      refine (MC.out _).mono ?_
      rintro e w1 ⟨rfl, hb⟩
      have HB1 : Hid (Below w.heap.size w w1) := bel2 (bel1 _ _) hb
      have HX1 : Hid (At13 w1 w.heap.size (.int .i64 k) (.int .i64 t) (.int .i64 n) (.int .i64 d) (.string s) (.int .i64 vk) (.int .i64 vx) (.int .u64 vb) (.string vs) (.slice la ll lc) (.int .i64 f) (.int .u64 (c : Int)) (.int .i64 m)) := HX0.out.below hb
      obtain ⟨x0, x1, x2, x3, x4, x5, x6, x7, x8, x9, x10, x11, x12⟩ := HX1.out
      clear hb
      go_wp2_with fail
      refine (TC.out _).mono ?_
      rintro e w2 ⟨rfl, hb⟩
      have HB2 : Hid (Below w.heap.size w w2) := bel2 HB1.out hb
      clear x0 x1 x2 x3 x4 x5 x6 x7 x8 x9 x10 x11 x12
      obtain ⟨x0, x1, x2, x3, x4, x5, x6, x7, x8, x9, x10, x11, x12⟩ := HX1.out.below hb
      clear hb
      go_wp2_with fail
      go_ret
      exact ⟨rfl, HB2.out⟩
end Go.Proofs.YthphgkaifnacbaaGreat
namespace Go.Proofs.YthphgkaifnacbaaGreat
open Go.ChangeShapes Go.WideShapes Go.ChangeAt Go.RowKit
/-- Between two of Check's statements: what was found, and where the event lies. -/
def Jn (P : Prop) (w : World) (c0 c1 c2 c3 c4 c5 c6 c7 c8 c9 c10 c11 c12 : Value) (x : Value) (wx : World) : Prop := (∃ b : Bool, x = .bool b ∧ (b = true ↔ P)) ∧ Below w.heap.size w wx ∧ At13 wx w.heap.size c0 c1 c2 c3 c4 c5 c6 c7 c8 c9 c10 c11 c12
theorem wi_iff (n a b : Int) : wi n a b = true ↔ (a ≤ n ∧ n ≤ b) := by simp [wi]
set_option maxHeartbeats 4000000 in
set_option maxRecDepth 100000 in
theorem evrefcheck_calls (nn : Nat) (tv : Tv) (k t n d : Int) (s : ByteArray) (vk vx vb : Int) (vs : ByteArray) (la : Option Addr) (ll lc : Nat) (f : Int) (c : Nat) (m : Int) (w : World) (h : Is w (nn + 1) (.agg #[.int .i64 vk, .int .i64 vx, .int .u64 vb, .string vs, .slice la ll lc]) tv) :
    Calls Tryz.prog 17 #[(.agg #[.int .i64 k, .int .i64 t, .int .i64 n, .int .i64 d, .string s, .int .i64 vk, .int .i64 vx, .int .u64 vb, .string vs, .slice la ll lc, .int .i64 f, .int .u64 (c : Int), .int .i64 m])] w (CkP (MayE (nn + 1) ⟨k, t, n, d, s, tv, f, c, m⟩) w) := by
  have HX0 : Hid (At13 (w.alloc (.cells #[.int .i64 k, .int .i64 t, .int .i64 n, .int .i64 d, .string s, .int .i64 vk, .int .i64 vx, .int .u64 vb, .string vs, .slice la ll lc, .int .i64 f, .int .u64 (c : Int), .int .i64 m] 43)) w.heap.size (.int .i64 k) (.int .i64 t) (.int .i64 n) (.int .i64 d) (.string s) (.int .i64 vk) (.int .i64 vx) (.int .u64 vb) (.string vs) (.slice la ll lc) (.int .i64 f) (.int .u64 (c : Int)) (.int .i64 m)) := At13.box w (.int .i64 k) (.int .i64 t) (.int .i64 n) (.int .i64 d) (.string s) (.int .i64 vk) (.int .i64 vx) (.int .u64 vb) (.string vs) (.slice la ll lc) (.int .i64 f) (.int .u64 (c : Int)) (.int .i64 m)
  have NC : Hid (∀ W, _) := fun W => num_ok k t n d s vk vx vb vs la ll lc f c m W
  have MC : Hid (∀ W, _) := fun W => name_ok k t n d s vk vx vb vs la ll lc f c m W
  have DC : Hid (∀ W, _) := fun W => hasD_calls k W
  have VC : Hid (∀ W, _) := fun W => hasV_calls k W
  have PC : Hid (∀ W, _) := fun W => hasP_calls k W
  have RC : Hid (∀ W, Below w.heap.size w W → _) := fun W hB => rcheck_calls (nn + 1) (.agg #[.int .i64 vk, .int .i64 vx, .int .u64 vb, .string vs, .slice la ll lc]) tv W (h.below hB)
  have SC : Hid (∀ W, Below w.heap.size w W → _) := fun W hB => rsame_calls (nn + 1) (.agg #[.int .i64 vk, .int .i64 vx, .int .u64 vb, .string vs, .slice la ll lc]) tv (.agg #[.int .i64 0, .int .i64 0, .int .u64 0, .string ⟨#[]⟩, .slice none 0 0]) zE W (h.below hB) (zE_is W nn)
  have LC : Hid (∀ W, _) := fun W => refCheck_calls f c m W
  have HM : Hid (MayE (nn + 1) ⟨k, t, n, d, s, tv, f, c, m⟩ ↔ ((((((1 ≤ k ∧ k ≤ 19) ∧ (0 ≤ t ∧ t ≤ 1099511627776) ∧ wi n (nl k) (nm k) = true ∧ nmf k s = true)) ∧ (if hD k then (0 ≤ d ∧ d ≤ 2199023255552) else d = 0)) ∧ ((hV k = true ∧ May (nn + 1) tv) ∨ (hV k = false ∧ tv = zE))) ∧ (if hP k then may f c m = true else (f = 0 ∧ c = 0 ∧ m = 0)))) := by
    unfold MayE nf VF pf
    simp only [Bool.and_eq_true, wi_iff]
    cases hD k <;> cases hP k <;> simp <;> constructor <;> simp_all <;> omega
  have HF : Hid (∀ r w', (MayE (nn + 1) ⟨k, t, n, d, s, tv, f, c, m⟩ → r = 0) → (¬ MayE (nn + 1) ⟨k, t, n, d, s, tv, f, c, m⟩ → r = 1) → Below w.heap.size w w' → CkP (MayE (nn + 1) ⟨k, t, n, d, s, tv, f, c, m⟩) w (.returned (.int .i64 r)) w') := fun r w' h1 h2 h3 => ⟨r, rfl, h1, h2, h3⟩
  generalize CkP (MayE (nn + 1) ⟨k, t, n, d, s, tv, f, c, m⟩) w = Q at HF ⊢
  generalize MayE (nn + 1) ⟨k, t, n, d, s, tv, f, c, m⟩ = ME at HF HM
  generalize May (nn + 1) tv = MY at HM RC
  generalize hD k = qD at HM DC
  generalize hV k = qV at HM VC
  generalize hP k = qP at HM PC
  generalize may f c m = mp at HM LC
  generalize wi n (nl k) (nm k) = bn at HM NC
  generalize nmf k s = bm at HM MC
  clear h
  go_enter Tryz.func17, Tryz.ntmps17
  go_upto_region 1 with fail
  go_cut [3] (fun x wx => Jn (((1 ≤ k ∧ k ≤ 19) ∧ (0 ≤ t ∧ t ≤ 1099511627776) ∧ bn = true ∧ bm = true)) w (.int .i64 k) (.int .i64 t) (.int .i64 n) (.int .i64 d) (.string s) (.int .i64 vk) (.int .i64 vx) (.int .u64 vb) (.string vs) (.slice la ll lc) (.int .i64 f) (.int .u64 (c : Int)) (.int .i64 m) x wx)
  case first =>
    have HB : Hid (Below w.heap.size w (w.alloc (.cells #[.int .i64 k, .int .i64 t, .int .i64 n, .int .i64 d, .string s, .int .i64 vk, .int .i64 vx, .int .u64 vb, .string vs, .slice la ll lc, .int .i64 f, .int .u64 (c : Int), .int .i64 m] 43))) := bel1 _ _
    have HX := HX0
    obtain ⟨x0, x1, x2, x3, x4, x5, x6, x7, x8, x9, x10, x11, x12⟩ := HX.out
    by_cases k1 : 1 ≤ k
    rotate_left
    · go_wp2_with fail
      go_meet
      exact ⟨⟨false, rfl, ⟨nofun, fun h => by have := h.1.1; omega⟩⟩, HB.out, HX.out⟩
    by_cases k2 : k ≤ 19
    rotate_left
    · go_wp2_with fail
      go_meet
      exact ⟨⟨false, rfl, ⟨nofun, fun h => by have := h.1.2; omega⟩⟩, HB.out, HX.out⟩
    by_cases t1 : 0 ≤ t
    rotate_left
    · go_wp2_with fail
      go_meet
      exact ⟨⟨false, rfl, ⟨nofun, fun h => by have := h.2.1.1; omega⟩⟩, HB.out, HX.out⟩
    by_cases t2 : t ≤ 1099511627776
    rotate_left
    · go_wp2_with fail
      go_meet
      exact ⟨⟨false, rfl, ⟨nofun, fun h => by have := h.2.1.2; omega⟩⟩, HB.out, HX.out⟩
    cases bn with
    | false =>
      go_wp2_with fail
      refine (NC.out _).mono ?_
      rintro e w1 ⟨rfl, hb⟩
      clear x0 x1 x2 x3 x4 x5 x6 x7 x8 x9 x10 x11 x12
      replace HB : Hid (Below w.heap.size w w1) := bel2 HB.out hb
      replace HX : Hid (At13 w1 w.heap.size (.int .i64 k) (.int .i64 t) (.int .i64 n) (.int .i64 d) (.string s) (.int .i64 vk) (.int .i64 vx) (.int .u64 vb) (.string vs) (.slice la ll lc) (.int .i64 f) (.int .u64 (c : Int)) (.int .i64 m)) := HX.out.below hb
      clear hb
      obtain ⟨x0, x1, x2, x3, x4, x5, x6, x7, x8, x9, x10, x11, x12⟩ := HX.out
      go_wp2_with fail
      go_meet
      exact ⟨⟨false, rfl, by simp⟩, HB.out, HX.out⟩
    | true =>
      go_wp2_with fail
      refine (NC.out _).mono ?_
      rintro e w1 ⟨rfl, hb⟩
      clear x0 x1 x2 x3 x4 x5 x6 x7 x8 x9 x10 x11 x12
      replace HB : Hid (Below w.heap.size w w1) := bel2 HB.out hb
      replace HX : Hid (At13 w1 w.heap.size (.int .i64 k) (.int .i64 t) (.int .i64 n) (.int .i64 d) (.string s) (.int .i64 vk) (.int .i64 vx) (.int .u64 vb) (.string vs) (.slice la ll lc) (.int .i64 f) (.int .u64 (c : Int)) (.int .i64 m)) := HX.out.below hb
      clear hb
      obtain ⟨x0, x1, x2, x3, x4, x5, x6, x7, x8, x9, x10, x11, x12⟩ := HX.out
      go_wp2_with fail
      refine (MC.out _).mono ?_
      rintro e w1 ⟨rfl, hb⟩
      clear x0 x1 x2 x3 x4 x5 x6 x7 x8 x9 x10 x11 x12
      replace HB : Hid (Below w.heap.size w w1) := bel2 HB.out hb
      replace HX : Hid (At13 w1 w.heap.size (.int .i64 k) (.int .i64 t) (.int .i64 n) (.int .i64 d) (.string s) (.int .i64 vk) (.int .i64 vx) (.int .u64 vb) (.string vs) (.slice la ll lc) (.int .i64 f) (.int .u64 (c : Int)) (.int .i64 m)) := HX.out.below hb
      clear hb
      obtain ⟨x0, x1, x2, x3, x4, x5, x6, x7, x8, x9, x10, x11, x12⟩ := HX.out
      go_wp2_with fail
      go_meet
      exact ⟨⟨bm, rfl, by simp [k1, k2, t1, t2]⟩, HB.out, HX.out⟩
  case rest =>
  obtain ⟨⟨b, rfl, hbP⟩, HB, HX⟩ := hcut
  replace HB : Hid (Below w.heap.size w wc) := HB
  replace HX : Hid (At13 wc w.heap.size (.int .i64 k) (.int .i64 t) (.int .i64 n) (.int .i64 d) (.string s) (.int .i64 vk) (.int .i64 vx) (.int .u64 vb) (.string vs) (.slice la ll lc) (.int .i64 f) (.int .u64 (c : Int)) (.int .i64 m)) := HX
  generalize hP1 : (((1 ≤ k ∧ k ≤ 19) ∧ (0 ≤ t ∧ t ≤ 1099511627776) ∧ bn = true ∧ bm = true)) = P1 at hbP HM
  have HP : Hid (b = true ↔ P1) := hbP
  clear hbP hP1
  obtain ⟨x0, x1, x2, x3, x4, x5, x6, x7, x8, x9, x10, x11, x12⟩ := HX.out
  go_wp2_with fail
  refine (DC.out _).mono ?_
  rintro e w1 ⟨rfl, hb⟩
  clear x0 x1 x2 x3 x4 x5 x6 x7 x8 x9 x10 x11 x12
  replace HB : Hid (Below w.heap.size w w1) := bel2 HB.out hb
  replace HX : Hid (At13 w1 w.heap.size (.int .i64 k) (.int .i64 t) (.int .i64 n) (.int .i64 d) (.string s) (.int .i64 vk) (.int .i64 vx) (.int .u64 vb) (.string vs) (.slice la ll lc) (.int .i64 f) (.int .u64 (c : Int)) (.int .i64 m)) := HX.out.below hb
  clear hb
  go_upto_if 32 with fail
  go_cut [3] (fun x wx => Jn (P1 ∧ (if qD then (0 ≤ d ∧ d ≤ 2199023255552) else d = 0)) w (.int .i64 k) (.int .i64 t) (.int .i64 n) (.int .i64 d) (.string s) (.int .i64 vk) (.int .i64 vx) (.int .u64 vb) (.string vs) (.slice la ll lc) (.int .i64 f) (.int .u64 (c : Int)) (.int .i64 m) x wx)
  case first =>
    obtain ⟨x0, x1, x2, x3, x4, x5, x6, x7, x8, x9, x10, x11, x12⟩ := HX.out
    cases qD with
    | true =>
      cases b with
      | false =>
        go_wp2_with fail
        go_meet
        exact ⟨⟨false, rfl, by have := HP.out; simp at this; simp [this]⟩, HB.out, HX.out⟩
      | true =>
        have hP1 := HP.out.1 rfl
        clear HP
        by_cases d1 : 0 ≤ d
        rotate_left
        · go_wp2_with fail
          go_meet
          exact ⟨⟨false, rfl, ⟨nofun, fun h => by have := h.2; simp only [if_true] at this; have := this.1; omega⟩⟩, HB.out, HX.out⟩
        by_cases d2 : d ≤ 2199023255552
        rotate_left
        · go_wp2_with fail
          go_meet
          exact ⟨⟨false, rfl, ⟨nofun, fun h => by have := h.2; simp only [if_true] at this; have := this.2; omega⟩⟩, HB.out, HX.out⟩
        go_wp2_with fail
        go_meet
        exact ⟨⟨true, rfl, by simp [d1, d2, hP1]⟩, HB.out, HX.out⟩
    | false =>
      cases b with
      | false =>
        go_wp2_with fail
        go_meet
        exact ⟨⟨false, rfl, by have := HP.out; simp at this; simp [this]⟩, HB.out, HX.out⟩
      | true =>
        have hP1 := HP.out.1 rfl
        clear HP
        go_wp2_with fail
        go_meet
        exact ⟨⟨_, rfl, by simp [hP1]⟩, HB.out, HX.out⟩
  case rest =>
  obtain ⟨⟨b, rfl, hbP⟩, HB, HX⟩ := hcut
  replace HB : Hid (Below w.heap.size w wc) := HB
  replace HX : Hid (At13 wc w.heap.size (.int .i64 k) (.int .i64 t) (.int .i64 n) (.int .i64 d) (.string s) (.int .i64 vk) (.int .i64 vx) (.int .u64 vb) (.string vs) (.slice la ll lc) (.int .i64 f) (.int .u64 (c : Int)) (.int .i64 m)) := HX
  generalize hP1 : (P1 ∧ (if qD then (0 ≤ d ∧ d ≤ 2199023255552) else d = 0)) = P2 at hbP HM
  have HP : Hid (b = true ↔ P2) := hbP
  clear hbP hP1
  obtain ⟨x0, x1, x2, x3, x4, x5, x6, x7, x8, x9, x10, x11, x12⟩ := HX.out
  go_wp2_with fail
  refine (VC.out _).mono ?_
  rintro e w1 ⟨rfl, hb⟩
  clear x0 x1 x2 x3 x4 x5 x6 x7 x8 x9 x10 x11 x12
  replace HB : Hid (Below w.heap.size w w1) := bel2 HB.out hb
  replace HX : Hid (At13 w1 w.heap.size (.int .i64 k) (.int .i64 t) (.int .i64 n) (.int .i64 d) (.string s) (.int .i64 vk) (.int .i64 vx) (.int .u64 vb) (.string vs) (.slice la ll lc) (.int .i64 f) (.int .u64 (c : Int)) (.int .i64 m)) := HX.out.below hb
  clear hb
  go_upto_if 52 with fail
  go_cut [3] (fun x wx => Jn (P2 ∧ ((qV = true ∧ MY) ∨ (qV = false ∧ tv = zE))) w (.int .i64 k) (.int .i64 t) (.int .i64 n) (.int .i64 d) (.string s) (.int .i64 vk) (.int .i64 vx) (.int .u64 vb) (.string vs) (.slice la ll lc) (.int .i64 f) (.int .u64 (c : Int)) (.int .i64 m) x wx)
  case first =>
    obtain ⟨x0, x1, x2, x3, x4, x5, x6, x7, x8, x9, x10, x11, x12⟩ := HX.out
    cases qV with
    | true =>
      cases b with
      | false =>
        go_wp2_with fail
        go_meet
        exact ⟨⟨false, rfl, by have := HP.out; simp at this; simp [this]⟩, HB.out, HX.out⟩
      | true =>
        have hP1 := HP.out.1 rfl
        clear HP
        go_wp2_with fail
        refine Calls.mono (RC.out _ ?_) ?_
        · exact HB.out
        rintro e w1 ⟨⟨r, rfl, r1, r2⟩, hb⟩
        clear x0 x1 x2 x3 x4 x5 x6 x7 x8 x9 x10 x11 x12
        replace HB : Hid (Below w.heap.size w w1) := bel2 HB.out hb
        replace HX : Hid (At13 w1 w.heap.size (.int .i64 k) (.int .i64 t) (.int .i64 n) (.int .i64 d) (.string s) (.int .i64 vk) (.int .i64 vx) (.int .u64 vb) (.string vs) (.slice la ll lc) (.int .i64 f) (.int .u64 (c : Int)) (.int .i64 m)) := HX.out.below hb
        clear hb
        have HR : Hid ((MY → r = 0) ∧ (¬ MY → r = 1)) := ⟨r1, r2⟩
        clear r1 r2
        go_wp2_with fail
        go_meet
        refine ⟨⟨_, rfl, ?_⟩, HB.out, HX.out⟩
        by_cases hm : MY
        · have := HR.out.1 hm; simp [hm, this, hP1]
        · have := HR.out.2 hm; simp [hm, this]
    | false =>
      cases b with
      | false =>
        go_wp2_with fail
        go_meet
        exact ⟨⟨false, rfl, by have := HP.out; simp at this; simp [this]⟩, HB.out, HX.out⟩
      | true =>
        have hP1 := HP.out.1 rfl
        clear HP
        go_wp2_with fail
        refine Calls.mono (SC.out _ ?_) ?_
        · exact HB.out
        rintro e w1 ⟨⟨r, rfl, r1⟩, hb⟩
        clear x0 x1 x2 x3 x4 x5 x6 x7 x8 x9 x10 x11 x12
        replace HB : Hid (Below w.heap.size w w1) := bel2 HB.out hb
        replace HX : Hid (At13 w1 w.heap.size (.int .i64 k) (.int .i64 t) (.int .i64 n) (.int .i64 d) (.string s) (.int .i64 vk) (.int .i64 vx) (.int .u64 vb) (.string vs) (.slice la ll lc) (.int .i64 f) (.int .u64 (c : Int)) (.int .i64 m)) := HX.out.below hb
        clear hb
        have HR : Hid (r = true ↔ tv = zE) := r1
        clear r1
        go_wp2_with fail
        go_meet
        refine ⟨⟨_, rfl, ?_⟩, HB.out, HX.out⟩
        rw [HR.out]
        simp [hP1]
  case rest =>
  obtain ⟨⟨b, rfl, hbP⟩, HB, HX⟩ := hcut
  replace HB : Hid (Below w.heap.size w wc) := HB
  replace HX : Hid (At13 wc w.heap.size (.int .i64 k) (.int .i64 t) (.int .i64 n) (.int .i64 d) (.string s) (.int .i64 vk) (.int .i64 vx) (.int .u64 vb) (.string vs) (.slice la ll lc) (.int .i64 f) (.int .u64 (c : Int)) (.int .i64 m)) := HX
  generalize hP1 : (P2 ∧ ((qV = true ∧ MY) ∨ (qV = false ∧ tv = zE))) = P3 at hbP HM
  have HP : Hid (b = true ↔ P3) := hbP
  clear hbP hP1
  obtain ⟨x0, x1, x2, x3, x4, x5, x6, x7, x8, x9, x10, x11, x12⟩ := HX.out
  go_wp2_with fail
  refine (PC.out _).mono ?_
  rintro e w1 ⟨rfl, e1⟩
  have e2 := e1.symm
  subst e2
  clear e1
  cases qP with
  | true =>
    cases b with
    | false =>
      have hP1 : ¬ P3 := fun h => by have := HP.out.2 h; cases this
      clear HP
      go_wp2_with fail
      refine HF.out 1 _ (fun hm => ?_) (fun _ => rfl) HB.out
      exact absurd (HM.out.1 hm).1 hP1
    | true =>
      have hP1 := HP.out.1 rfl
      clear HP
      go_wp2_with fail
      refine (LC.out _).mono ?_
      rintro e w1 ⟨rfl, hb⟩
      replace HB : Hid (Below w.heap.size w w1) := bel2 HB.out hb
      clear hb x0 x1 x2 x3 x4 x5 x6 x7 x8 x9 x10 x11 x12
      cases mp with
      | true =>
        simp only [ce, if_true]
        go_wp2_with fail
        exact HF.out 0 _ (fun _ => rfl) (fun hn => absurd (HM.out.2 ⟨hP1, by simp⟩) hn) HB.out
      | false =>
        simp only [ce, Bool.false_eq_true, if_false]
        go_wp2_with fail
        exact HF.out 1 _ (fun hm => absurd (HM.out.1 hm).2 (by simp)) (fun _ => rfl) HB.out
  | false =>
    cases b with
    | false =>
      have hP1 : ¬ P3 := fun h => by have := HP.out.2 h; cases this
      clear HP
      go_wp2_with fail
      refine HF.out 1 _ (fun hm => ?_) (fun _ => rfl) HB.out
      exact absurd (HM.out.1 hm).1 hP1
    | true =>
      have hP1 := HP.out.1 rfl
      clear HP
      have HM2 : Hid (ME ↔ (f = 0 ∧ c = 0 ∧ m = 0)) := show ME ↔ (f = 0 ∧ c = 0 ∧ m = 0) from by
        rw [HM.out]
        simp [hP1]
      clear HM hP1
      by_cases q1 : f = 0
      · subst q1
        by_cases q2 : c = 0
        · subst q2
          by_cases q3 : m = 0
          · subst q3
            go_wp2_with fail
            exact HF.out 0 _ (fun _ => rfl) (fun hn => absurd (HM2.out.2 (by simp)) hn) HB.out
          · have HQ : Hid (¬ m = 0) := q3
            have q4 : (m == 0) = false := by simpa using q3
            clear q3
            go_wp2_with fail
            exact HF.out 1 _ (fun hm => absurd (HM2.out.1 hm).2.2 HQ.out) (fun _ => rfl) HB.out
        · have HQ : Hid (¬ c = 0) := q2
          have q4 : ((c : Int) == 0) = false := by simpa using q2
          clear q2
          go_wp2_with fail
          exact HF.out 1 _ (fun hm => absurd (HM2.out.1 hm).2.1 HQ.out) (fun _ => rfl) HB.out
      · have HQ : Hid (¬ f = 0) := q1
        have q4 : (f == 0) = false := by simpa using q1
        clear q1
        go_wp2_with fail
        exact HF.out 1 _ (fun hm => absurd (HM2.out.1 hm).1 HQ.out) (fun _ => rfl) HB.out
end Go.Proofs.YthphgkaifnacbaaGreat
namespace Go.Proofs.YthphgkaifnacbaaGreat
open Go.ChangeShapes Go.WideShapes Go.ChangeAt Go.RowKit
/-- A chain of names that rise, all of which F holds. -/
def Rz {α : Type} (nm : α → ByteArray) (F : α → Prop) : ByteArray → List α → Prop
  | _, [] => True
  | last, t :: l => (leS (nm t) last = false ∧ F t) ∧ Rz nm F (nm t) l
def FT (n : Nat) (t : Tm) : Prop := MayE n (eisName t.s) ∧ wb t.d 0 2199023255552 = true
def FU (n : Nat) (u : Up) : Prop := MayE n (eisName u.s) ∧ May n u.v ∧ OutP n u
theorem rzT_iff (n : Nat) : ∀ (l : List Tm) (last : ByteArray), RzT n last l ↔ Rz Tm.s (FT n) last l
  | [], _ => Iff.rfl
  | _t :: l, _last => ⟨fun h => ⟨⟨h.1.2.1, h.1.1, h.1.2.2⟩, (rzT_iff n l _).1 h.2⟩, fun h => ⟨⟨h.1.2.1, h.1.1, h.1.2.2⟩, (rzT_iff n l _).2 h.2⟩⟩
theorem rzU_iff (n : Nat) : ∀ (l : List Up) (last : ByteArray), RzU n last l ↔ Rz Up.s (FU n) last l
  | [], _ => Iff.rfl
  | _t :: l, _last => ⟨fun h => ⟨⟨h.1.2.1, h.1.1, h.1.2.2⟩, (rzU_iff n l _).1 h.2⟩, fun h => ⟨⟨h.1.2.1, h.1.1, h.1.2.2⟩, (rzU_iff n l _).2 h.2⟩⟩
theorem lt_of_le {a b : ByteArray} (h : leS a b = false) : Op.bytesLess b.toList a.toList = true := lt_of_gt (by rw [← leS_gt, h]; rfl)
theorem le_of_lt {a b : ByteArray} (h : Op.bytesLess b.toList a.toList = true) : leS a b = false := by
  have := gt_of_lt h
  rw [← leS_gt] at this
  simpa using this
theorem leS_lower {a b c : ByteArray} (h : leS a b = false) (k : leS b c = false) : leS a c = false := le_of_lt (bl_trans _ _ _ (lt_of_le k) (lt_of_le h))
theorem Rz.lower {α : Type} {nm : α → ByteArray} {F : α → Prop} {a b : ByteArray} : ∀ {l : List α}, Rz nm F a l → leS a b = false → Rz nm F b l
  | [], _, _ => trivial
  | _ :: _, h, k => ⟨⟨leS_lower h.1.1 k, h.1.2⟩, h.2⟩
theorem Rz.del {α : Type} {nm : α → ByteArray} {F : α → Prop} : ∀ {l : List α} {last : ByteArray} (j : Nat), Rz nm F last l → Rz nm F last (delL l j)
  | [], _, j, _ => by simp [delL, Rz]
  | t :: l, last, 0, h => by
    have : delL (t :: l) 0 = l := by simp [delL]
    rw [this]
    exact h.2.lower h.1.1
  | t :: l, last, j + 1, h => by
    have : delL (t :: l) (j + 1) = t :: delL l j := by simp [delL]
    rw [this]
    exact ⟨h.1, h.2.del j⟩
theorem Rz.modify {α : Type} {nm : α → ByteArray} {F : α → Prop} {f : α → α} (hn : ∀ u, nm (f u) = nm u) (hf : ∀ u, F u → F (f u)) : ∀ {l : List α} {last : ByteArray} (j : Nat), Rz nm F last l → Rz nm F last (l.modify j f)
  | [], _, j, _ => by simp [Rz]
  | t :: l, last, 0, h => by
    rw [List.modify_zero_cons]
    exact ⟨⟨by rw [hn]; exact h.1.1, hf t h.1.2⟩, by rw [hn]; exact h.2⟩
  | t :: l, last, j + 1, h => by
    rw [List.modify_succ_cons]
    exact ⟨h.1, Rz.modify hn hf j h.2⟩
theorem insL_cons {α : Type} (P : α → Bool) (y : α) (l : List α) (x : α) : insL P (y :: l) x = if P y then x :: y :: l else y :: insL P l x := by
  cases hp : P y with
  | true =>
    have e : ixI P (y :: l) = ((0 : Nat) : Int) := ixI_some (j := 0) (d := y) rfl hp (fun q d hq => absurd hq (Nat.not_lt_zero _))
    have : insI P (y :: l) = 0 := by unfold insI; rw [e]; simp
    unfold insL
    rw [this]
    simp
  | false =>
    have : insI P (y :: l) = insI P l + 1 := by
      rcases ixI_cases P l with ⟨j, d, h1, h2, h3, h4⟩ | ⟨h1, h2⟩
      · have e : ixI P (y :: l) = ((j + 1 : Nat) : Int) := ixI_some (j := j + 1) (d := d) (by simpa using h2) h3 (fun q d' hq hd => by
          cases q with
          | zero => simp at hd; rw [← hd]; exact hp
          | succ q => exact h4 q d' (by omega) (by simpa using hd))
        unfold insI
        rw [e, h1, if_neg (by omega), if_neg (by omega)]
        omega
      · have e : ixI P (y :: l) = -1 := ixI_none (fun d hd => by
          rcases List.mem_cons.1 hd with rfl | hd
          · exact hp
          · exact h2 d hd)
        unfold insI
        rw [e, h1, if_pos (by decide), if_pos (by decide)]
        simp
    unfold insL
    rw [this]
    simp
theorem Rz.ins {α : Type} {nm : α → ByteArray} {F : α → Prop} {x : α} : ∀ {l : List α} {last : ByteArray}, Rz nm F last l → (∀ y ∈ l, eqS (nm y) (nm x) = false) → leS (nm x) last = false → F x → Rz nm F last (insL (fun d => gtS (nm d) (nm x)) l x)
  | [], last, _, _, h1, h2 => by
    have : insL (fun d => gtS (nm d) (nm x)) [] x = [x] := by simp [insL, insI]
    rw [this]
    exact ⟨⟨h1, h2⟩, trivial⟩
  | y :: l, last, h, he, h1, h2 => by
    rw [insL_cons]
    cases hg : gtS (nm y) (nm x) with
    | true =>
      rw [if_pos rfl]
      refine ⟨⟨h1, h2⟩, ⟨?_, h.1.2⟩, h.2⟩
      rw [← leS_gt] at hg
      simpa using hg
    | false =>
      rw [if_neg (by simp)]
      have l1 := lt_of_not hg (he y (List.mem_cons_self ..))
      exact ⟨h.1, Rz.ins h.2 (fun z hz => he z (List.mem_cons_of_mem _ hz)) (le_of_lt l1) h2⟩
theorem nmf_name (q : ByteArray) : nmf 10 q = nmB q := by simp [nmf, show hM 10 = true from by decide]
theorem nmf_text (q : ByteArray) : nmf 16 q = decide (q.size ≤ 200) := by simp [nmf, show hM 16 = false from by decide, show hT 16 = true from by decide]
theorem name_iff (n : Nat) (q : ByteArray) : MayE n (eisName q) ↔ nmB q = true := by
  constructor
  · intro h
    have := h.2.2.1
    rwa [show nmf (eisName q).k (eisName q).s = nmB q from nmf_name q] at this
  · intro h
    exact ⟨(by decide : wi 10 1 19 = true), (by decide : nf 10 0 0 0 = true), (nmf_name q).trans h, .inr ⟨(by decide : hV 10 = false), rfl⟩, (by decide : pf 10 0 0 0 = true)⟩
theorem text_iff (n : Nat) (q : ByteArray) : MayE n (eisText q) ↔ q.size ≤ 200 := by
  constructor
  · intro h
    have := h.2.2.1
    rw [show nmf (eisText q).k (eisText q).s = decide (q.size ≤ 200) from nmf_text q] at this
    exact of_decide_eq_true this
  · intro h
    exact ⟨(by decide : wi 16 1 19 = true), (by decide : nf 16 0 0 0 = true), (nmf_text q).trans (decide_eq_true h), .inr ⟨(by decide : hV 16 = false), rfl⟩, (by decide : pf 16 0 0 0 = true)⟩
theorem numB_iff (s : Sta) : numB s = true ↔ (1 ≤ s.run ∧ s.run ≤ 10) ∧ (0 ≤ s.fr ∧ s.fr ≤ 10) ∧ (1 ≤ s.status ∧ s.status ≤ 6) ∧ (1 ≤ s.count ∧ s.count ≤ 120) ∧ (0 ≤ s.sig ∧ s.sig ≤ s.count) ∧ (0 ≤ s.time ∧ s.time ≤ 1099511627776) ∧ (0 ≤ s.dl ∧ s.dl ≤ 2199023255552) := by
  simp [numB, wb]
theorem nf_iff (k t n d : Int) : nf k t n d = true ↔ (0 ≤ t ∧ t ≤ 1099511627776) ∧ (nl k ≤ n ∧ n ≤ nm k) ∧ (0 ≤ d ∧ d ≤ (if hD k then 2199023255552 else 0)) := by
  simp [nf, wi, and_assoc]
theorem wr_add {c : Int} (h0 : 0 ≤ c) (h : c ≤ 1000) : wrap64 (c + 1) = c + 1 := by unfold wrap64; omega
theorem task_up {s : Sta} {c : Int} (h : TaskP s) (hc : s.count ≤ c) : TaskP { s with count := c } := by
  rcases h with h | h | ⟨h1, h2, h3, h4⟩
  · exact .inl h
  · exact .inr (.inl h)
  · refine .inr (.inr ⟨h1, h2, ?_, h4⟩)
    simp [wb] at h3 ⊢
    omega
end Go.Proofs.YthphgkaifnacbaaGreat
namespace Go.Proofs.YthphgkaifnacbaaGreat
open Go.ChangeShapes Go.WideShapes Go.ChangeAt Go.RowKit
/-- What is known of a state that can be, and of an event that may come. -/
structure Kn (n : Nat) (s : Sta) (x : Ev) : Prop where
  can : CanP n s
  may : MayE n x
  fits : fitsB s x = true
  room : roomB s x = true
  cnt : s.count < 120
  st : s.status = 1
  k1 : x.k ≠ 1
theorem kn_of {n : Nat} {s : Sta} {x : Ev} (h : CanP n s) (hm : MayE n x) (hr : refC s x = 0) : Kn n s x := by
  obtain ⟨h1, h2, h3, h4, _⟩ := refC_fits hr
  have hn := (numB_iff s).1 h.num
  unfold inT at h4
  by_cases hk : x.k = 1
  · rw [if_pos hk] at h4
    have : s.count = 0 := by simpa using h4
    omega
  · rw [if_neg hk] at h4
    simp at h4
    exact ⟨h, hm, h1, h2, h3, h4.2, hk⟩
theorem Kn.ends {n : Nat} {s : Sta} {x : Ev} (h : Kn n s x) : s.res = zE ∧ s.rea.toList = [] := by
  have h1 := h.can.ends.2.1
  have h2 := h.can.ends.2.2
  unfold ResultP at h1
  unfold ReasonP at h2
  rw [h.st] at h1 h2
  exact ⟨by simpa using h1, by simpa using h2⟩
theorem Kn.num {n : Nat} {s : Sta} {x : Ev} (h : Kn n s x) : wrap64 (s.count + 1) = s.count + 1 ∧ (0 ≤ x.t ∧ x.t ≤ 1099511627776) ∧ (nl x.k ≤ x.n ∧ x.n ≤ nm x.k) ∧ (0 ≤ x.d ∧ x.d ≤ (if hD x.k then 2199023255552 else 0)) := by
  have hn := (numB_iff s).1 h.can.num
  exact ⟨wr_add (by omega) (by omega), (nf_iff _ _ _ _).1 h.may.2.1⟩
/-- The numbers, where the run goes on and nothing but count, time, signals and from is another one. -/
theorem Kn.numG {n : Nat} {s s' : Sta} {x : Ev} (h : Kn n s x) (e1 : s'.run = s.run) (e2 : s'.fr = s.fr ∨ (0 ≤ s'.fr ∧ s'.fr ≤ 10)) (e3 : 1 ≤ s'.status ∧ s'.status ≤ 6) (e4 : s'.count = wrap64 (s.count + 1)) (e5 : s'.sig = s.sig ∨ s'.sig = wrap64 (s.sig + 1)) (e6 : s'.time = x.t) (e7 : s'.dl = s.dl) : numB s' = true := by
  have hn := (numB_iff s).1 h.can.num
  obtain ⟨w1, w2, _, _⟩ := h.num
  have w3 : wrap64 (s.sig + 1) = s.sig + 1 := wr_add (by omega) (by omega)
  have := h.cnt
  rw [numB_iff, e1, e4, e6, e7, w1]
  refine ⟨hn.1, ?_, e3, by omega, ?_, w2, hn.2.2.2.2.2.2⟩
  · rcases e2 with e | e
    · rw [e]; exact hn.2.1
    · exact e
  · rcases e5 with e | e
    · rw [e]; omega
    · rw [e, w3]; omega
theorem Kn.task {n : Nat} {s : Sta} {x : Ev} (h : Kn n s x) (s' : Sta) (e0 : s'.ts = s.ts) (e1 : s'.ta = s.ta) (e2 : s'.td = s.td) (e3 : s'.te = s.te) (e4 : s'.tn = s.tn) (e5 : s'.count = wrap64 (s.count + 1)) : TaskP s' := by
  have w1 := h.num.1
  have ht := h.can.task
  unfold TaskP at *
  rw [e0, e1, e2, e3, e4, e5, w1]
  rcases ht with h | h | ⟨h1, h2, h3, h4⟩
  · exact .inl h
  · exact .inr (.inl h)
  · refine .inr (.inr ⟨h1, h2, ?_, h4⟩)
    simp [wb] at h3 ⊢
    omega
theorem hasName {n : Nat} {x : Ev} (h : MayE n x) (hk : hM x.k = true) : MayE n (eisName x.s) := by
  rw [name_iff]
  have := h.2.2.1
  unfold nmf at this
  rwa [hk] at this
theorem hasText {n : Nat} {x : Ev} (h : MayE n x) (hk : hM x.k = false) (ht : hT x.k = true) : MayE n (eisText x.s) := by
  rw [text_iff]
  have := h.2.2.1
  unfold nmf at this
  rw [hk, ht] at this
  simpa using this
theorem hasValue {n : Nat} {x : Ev} (h : MayE n x) (hk : hV x.k = true) : May n x.v := by
  rcases h.2.2.2.1 with h | h
  · exact h.2
  · rw [hk] at h; cases h.1
theorem empty_le {q : ByteArray} (h : nmB q = true) : leS q ⟨#[]⟩ = false := by
  have h1 : 1 ≤ q.size := by
    unfold nmB at h
    simp at h
    exact h.1.1
  have hl : q.toList.length = q.size := by rw [ByteArray.toList_eq]; exact Array.length_toList
  have he : (⟨#[]⟩ : ByteArray).toList = [] := by rw [ByteArray.toList_eq]
  unfold leS
  rw [he]
  cases hq : q.toList with
  | nil => rw [hq] at hl; simp at hl; omega
  | cons a l => rfl
theorem Kn.end0 {n : Nat} {s : Sta} {x : Ev} (h : Kn n s x) (s' : Sta) (e1 : s'.status = s.status) (e2 : s'.res = s.res) (e3 : s'.rea = s.rea) : EndP n s' := by
  have := h.can.ends
  unfold EndP ResultP ReasonP at *
  rw [e1, e2, e3]
  exact ⟨.inl h.st, this.2⟩
theorem Kn.keep {n : Nat} {s : Sta} {x : Ev} (h : Kn n s x) (s' : Sta) (hn : numB s' = true) (a1 : s'.typ = s.typ) (a2 : s'.inp = s.inp) (a3 : s'.pf = s.pf) (a4 : s'.pc = s.pc) (a5 : s'.pm = s.pm) (he : EndP n s') (ht : TaskP s') (h5 : TimP n s'.tm) (h6 : UpdP n s'.up) : CanP n s' :=
  ⟨hn, by have := h.can.start; unfold StartP at *; rw [a1, a2, a3, a4, a5]; exact this, he, ht, h5, h6⟩
theorem task_zero (s' : Sta) (h0 : s'.ts = 0) (h1 : s'.ta = 0) (h2 : s'.td = 0) (h3 : s'.te = 0) (h4 : s'.tn = 0) : TaskP s' := .inl ⟨h0, h1, h2, h3, h4⟩
theorem tim_nil (n : Nat) : TimP n [] := ⟨by decide, trivial⟩
theorem can_2 {n : Nat} {s : Sta} {x : Ev} (h : Kn n s x) (hk : x.k = 2) : CanP n (ch2 s x) := by
  obtain ⟨_, _, h1, h3⟩ := h.num
  rw [hk] at h1 h3
  have h2 : ((1 ≤ x.n ∧ x.n ≤ 2147483648) ∧ (0 ≤ x.d ∧ x.d ≤ 2199023255552)) := ⟨⟨h1.1, h1.2⟩, ⟨h3.1, h3.2⟩⟩
  exact h.keep _ (h.numG rfl (.inl rfl) (by show 1 ≤ s.status ∧ s.status ≤ 6; rw [h.st]; decide) rfl (.inl rfl) rfl rfl) rfl rfl rfl rfl rfl (h.end0 _ rfl rfl rfl) (.inr (.inl ⟨rfl, by show tryB x.n x.d = true; simpa [tryB, wb] using h2, rfl, rfl⟩)) h.can.tim h.can.upd
theorem can_3 {n : Nat} {s : Sta} {x : Ev} (h : Kn n s x) (hk : x.k = 3) : CanP n (ch3 s x) := by
  obtain ⟨w1, _, _, h3⟩ := h.num
  rw [hk] at h3
  have hf := h.fits
  unfold fitsB at hf
  rw [hk] at hf
  have hts : s.ts = 1 := by simpa using hf
  have hn := (numB_iff s).1 h.can.num
  have h4 : tryB s.ta x.d = true := by
    rcases h.can.task with ⟨e, _⟩ | ⟨_, e, _⟩ | ⟨e, _⟩
    · omega
    · simp only [tryB, wb, Bool.and_eq_true, decide_eq_true_eq] at e ⊢
      exact ⟨e.1, h3.1, h3.2⟩
    · omega
  have h5 : wb (wrap64 (s.count + 1)) 1 (wrap64 (s.count + 1)) = true := by
    rw [w1]
    simp [wb]
    omega
  exact h.keep _ (h.numG rfl (.inl rfl) (by show 1 ≤ s.status ∧ s.status ≤ 6; rw [h.st]; decide) rfl (.inl rfl) rfl rfl) rfl rfl rfl rfl rfl (h.end0 _ rfl rfl rfl) (.inr (.inr ⟨rfl, h4, h5, rfl⟩)) h.can.tim h.can.upd
theorem can_4 {n : Nat} {s : Sta} {x : Ev} (h : Kn n s x) : CanP n (ch4 s x) := by
  exact h.keep _ (h.numG rfl (.inl rfl) (by show 1 ≤ s.status ∧ s.status ≤ 6; rw [h.st]; decide) rfl (.inl rfl) rfl rfl) rfl rfl rfl rfl rfl (h.end0 _ rfl rfl rfl) (task_zero _ rfl rfl rfl rfl rfl) h.can.tim h.can.upd
theorem can_5 {n : Nat} {s : Sta} {x : Ev} (h : Kn n s x) (hk : x.k = 4 ∨ x.k = 5 ∨ x.k = 6) (hp : 0 < x.n) : CanP n (ch5 s x) := by
  obtain ⟨_, _, h1, _⟩ := h.num
  have h2 : x.n ≤ 10 := by
    rcases hk with e | e | e
    · rw [e] at h1; simp [nm] at h1; omega
    · rw [e] at h1; exact h1.2
    · rw [e] at h1; simp [nm] at h1; omega
  exact h.keep _ (h.numG rfl (.inr ⟨by show 0 ≤ x.n; omega, h2⟩) (by show 1 ≤ s.status ∧ s.status ≤ 6; rw [h.st]; decide) rfl (.inl rfl) rfl rfl) rfl rfl rfl rfl rfl (h.end0 _ rfl rfl rfl) (task_zero _ rfl rfl rfl rfl rfl) h.can.tim h.can.upd
theorem can_7 {n : Nat} {s : Sta} {x : Ev} (h : Kn n s x) : CanP n (ch7 s x) := by
  exact h.keep _ (h.numG rfl (.inl rfl) (by show 1 ≤ s.status ∧ s.status ≤ 6; rw [h.st]; decide) rfl (.inr rfl) rfl rfl) rfl rfl rfl rfl rfl (h.end0 _ rfl rfl rfl) (h.task _ rfl rfl rfl rfl rfl rfl) h.can.tim h.can.upd
theorem can_8 {n : Nat} {s : Sta} {x : Ev} (h : Kn n s x) : CanP n (ch8 s x) := by
  exact h.keep _ (h.numG rfl (.inl rfl) (by show 1 ≤ s.status ∧ s.status ≤ 6; rw [h.st]; decide) rfl (.inl rfl) rfl rfl) rfl rfl rfl rfl rfl (h.end0 _ rfl rfl rfl) (h.task _ rfl rfl rfl rfl rfl rfl) h.can.tim h.can.upd
theorem can_14 {n : Nat} {s : Sta} {x : Ev} (h : Kn n s x) : CanP n (ch14 s x) := by
  exact h.keep _ (h.numG rfl (.inl rfl) (by show 1 ≤ s.status ∧ s.status ≤ 6; rw [h.st]; decide) rfl (.inl rfl) rfl rfl) rfl rfl rfl rfl rfl (h.end0 _ rfl rfl rfl) (h.task _ rfl rfl rfl rfl rfl rfl) h.can.tim h.can.upd
theorem can_9 {n : Nat} {s : Sta} {x : Ev} (h : Kn n s x) (hk : x.k = 9) : CanP n (ch9 s x) := by
  have hr := h.room
  unfold roomB at hr
  rw [hk] at hr
  have hl : s.tm.length < 10 := by simpa using hr
  have hf := h.fits
  unfold fitsB at hf
  rw [hk] at hf
  have hne : ∀ y ∈ s.tm, eqS y.s x.s = false := by
    rcases ixI_cases (fun d => eqS d.s x.s) s.tm with ⟨j, d, e1, _⟩ | ⟨_, e2⟩
    · have : tmAt s x.s < 0 := by simpa using hf
      unfold tmAt at this
      omega
    · exact e2
  obtain ⟨_, _, _, h3⟩ := h.num
  rw [hk] at h3
  have hnm := hasName h.may (by rw [hk]; decide)
  have h9 : TimP n (insL (fun d => gtS d.s x.s) s.tm ⟨x.s, x.d⟩) := by
    refine ⟨by rw [insL_length]; omega, (rzT_iff n _ _).2 ?_⟩
    exact Rz.ins (nm := Tm.s) (x := ⟨x.s, x.d⟩) ((rzT_iff n _ _).1 h.can.tim.2) hne (empty_le ((name_iff n _).1 hnm)) ⟨hnm, by simp only [wb, Bool.and_eq_true, decide_eq_true_eq]; exact ⟨h3.1, h3.2⟩⟩
  exact h.keep _ (h.numG rfl (.inl rfl) (by show 1 ≤ s.status ∧ s.status ≤ 6; rw [h.st]; decide) rfl (.inl rfl) rfl rfl) rfl rfl rfl rfl rfl (h.end0 _ rfl rfl rfl) (h.task _ rfl rfl rfl rfl rfl rfl) h9 h.can.upd
theorem tim_del {n : Nat} {l : List Tm} (h : TimP n l) (j : Nat) : TimP n (delL l j) := by
  refine ⟨?_, (rzT_iff n _ _).2 (Rz.del j ((rzT_iff n _ _).1 h.2))⟩
  have := h.1
  simp [delL]
  omega
theorem can_10 {n : Nat} {s : Sta} {x : Ev} (h : Kn n s x) : CanP n (ch10 s x) := by
  exact h.keep _ (h.numG rfl (.inl rfl) (by show 1 ≤ s.status ∧ s.status ≤ 6; rw [h.st]; decide) rfl (.inl rfl) rfl rfl) rfl rfl rfl rfl rfl (h.end0 _ rfl rfl rfl) (h.task _ rfl rfl rfl rfl rfl rfl) (tim_del h.can.tim _) h.can.upd
theorem can_11 {n : Nat} {s : Sta} {x : Ev} (h : Kn n s x) : CanP n (ch11 s x) := by
  exact h.keep _ (h.numG rfl (.inl rfl) (by show 1 ≤ s.status ∧ s.status ≤ 6; rw [h.st]; decide) rfl (.inl rfl) rfl rfl) rfl rfl rfl rfl rfl (h.end0 _ rfl rfl rfl) (h.task _ rfl rfl rfl rfl rfl rfl) (tim_del h.can.tim _) h.can.upd
theorem can_12 {n : Nat} {s : Sta} {x : Ev} (h : Kn n s x) (hk : x.k = 12) : CanP n (ch12 s x) := by
  have hr := h.room
  unfold roomB at hr
  rw [hk] at hr
  have hl : s.up.length < 10 := by simpa using hr
  have hf := h.fits
  unfold fitsB at hf
  rw [hk] at hf
  have hne : ∀ y ∈ s.up, eqS y.s x.s = false := by
    rcases ixI_cases (fun d => eqS d.s x.s) s.up with ⟨j, d, e1, _⟩ | ⟨_, e2⟩
    · have : upAt s x.s < 0 := by simpa using hf
      unfold upAt at this
      omega
    · exact e2
  have hnm := hasName h.may (by rw [hk]; decide)
  have h12 : UpdP n (insL (fun d => gtS d.s x.s) s.up ⟨x.s, x.v, 1, zE⟩) := by
    refine ⟨by rw [insL_length]; omega, (rzU_iff n _ _).2 ?_⟩
    exact Rz.ins (nm := Up.s) (x := ⟨x.s, x.v, 1, zE⟩) ((rzU_iff n _ _).1 h.can.upd.2) hne (empty_le ((name_iff n _).1 hnm)) ⟨hnm, hasValue h.may (by rw [hk]; decide), by unfold OutP; rw [if_pos rfl]⟩
  exact h.keep _ (h.numG rfl (.inl rfl) (by show 1 ≤ s.status ∧ s.status ≤ 6; rw [h.st]; decide) rfl (.inl rfl) rfl rfl) rfl rfl rfl rfl rfl (h.end0 _ rfl rfl rfl) (h.task _ rfl rfl rfl rfl rfl rfl) h.can.tim h12
theorem can_13 {n : Nat} {s : Sta} {x : Ev} (h : Kn n s x) (hk : x.k = 13) : CanP n (ch13 s x) := by
  have hv := hasValue h.may (by rw [hk]; decide)
  have h13 : UpdP n (s.up.modify (waAt s x.s).toNat (fun u => { u with g := 2, o := x.v })) := by
    refine ⟨by rw [List.length_modify]; exact h.can.upd.1, (rzU_iff n _ _).2 ?_⟩
    exact Rz.modify (f := fun u => { u with g := 2, o := x.v }) (fun _ => rfl) (fun u hu => ⟨hu.1, hu.2.1, by unfold OutP; rw [if_neg (by show ¬ (2 : Int) = 1; decide), if_pos rfl]; exact hv⟩) _ ((rzU_iff n _ _).1 h.can.upd.2)
  exact h.keep _ (h.numG rfl (.inl rfl) (by show 1 ≤ s.status ∧ s.status ≤ 6; rw [h.st]; decide) rfl (.inl rfl) rfl rfl) rfl rfl rfl rfl rfl (h.end0 _ rfl rfl rfl) (h.task _ rfl rfl rfl rfl rfl rfl) h.can.tim h13
theorem can_15 {n : Nat} {s : Sta} {x : Ev} (h : Kn n s x) (hk : x.k = 15) : CanP n (ch15 s x) := by
  have he := h.ends
  exact h.keep _ (h.numG rfl (.inl rfl) ⟨by show 1 ≤ (2 : Int); decide, by show (2 : Int) ≤ 6; decide⟩ rfl (.inl rfl) rfl rfl) rfl rfl rfl rfl rfl ⟨.inr ⟨rfl, rfl⟩, (by unfold ResultP; rw [if_pos (by rfl)]; exact hasValue h.may (by rw [hk]; decide)), (by unfold ReasonP; rw [if_neg (by show ¬ ((2 : Int) = 3 ∨ (2 : Int) = 5); decide)]; exact he.2)⟩ (task_zero _ rfl rfl rfl rfl rfl) (tim_nil n) h.can.upd
theorem can_16 {n : Nat} {s : Sta} {x : Ev} (h : Kn n s x) (hk : x.k = 16) : CanP n (ch16 s x) := by
  have he := h.ends
  exact h.keep _ (h.numG rfl (.inl rfl) ⟨by show 1 ≤ (3 : Int); decide, by show (3 : Int) ≤ 6; decide⟩ rfl (.inl rfl) rfl rfl) rfl rfl rfl rfl rfl ⟨.inr ⟨rfl, rfl⟩, (by unfold ResultP; rw [if_neg (by show ¬ (3 : Int) = 2; decide)]; exact he.1), (by unfold ReasonP; rw [if_pos (by show (3 : Int) = 3 ∨ (3 : Int) = 5; decide)]; exact hasText h.may (by rw [hk]; decide) (by rw [hk]; decide))⟩ (task_zero _ rfl rfl rfl rfl rfl) (tim_nil n) h.can.upd
theorem can_17 {n : Nat} {s : Sta} {x : Ev} (h : Kn n s x) (_hk : x.k = 17) : CanP n (ch17 s x) := by
  have he := h.ends
  exact h.keep _ (h.numG rfl (.inl rfl) ⟨by show 1 ≤ (4 : Int); decide, by show (4 : Int) ≤ 6; decide⟩ rfl (.inl rfl) rfl rfl) rfl rfl rfl rfl rfl ⟨.inr ⟨rfl, rfl⟩, (by unfold ResultP; rw [if_neg (by show ¬ (4 : Int) = 2; decide)]; exact he.1), (by unfold ReasonP; rw [if_neg (by show ¬ ((4 : Int) = 3 ∨ (4 : Int) = 5); decide)]; exact he.2)⟩ (task_zero _ rfl rfl rfl rfl rfl) (tim_nil n) h.can.upd
theorem can_18 {n : Nat} {s : Sta} {x : Ev} (h : Kn n s x) (hk : x.k = 18) : CanP n (ch18 s x) := by
  have he := h.ends
  exact h.keep _ (h.numG rfl (.inl rfl) ⟨by show 1 ≤ (5 : Int); decide, by show (5 : Int) ≤ 6; decide⟩ rfl (.inl rfl) rfl rfl) rfl rfl rfl rfl rfl ⟨.inr ⟨rfl, rfl⟩, (by unfold ResultP; rw [if_neg (by show ¬ (5 : Int) = 2; decide)]; exact he.1), (by unfold ReasonP; rw [if_pos (by show (5 : Int) = 3 ∨ (5 : Int) = 5; decide)]; exact hasText h.may (by rw [hk]; decide) (by rw [hk]; decide))⟩ (task_zero _ rfl rfl rfl rfl rfl) (tim_nil n) h.can.upd
theorem can_19 {n : Nat} {s : Sta} {x : Ev} (h : Kn n s x) (_hk : x.k = 19) : CanP n (ch19 s x) := by
  have he := h.ends
  exact h.keep _ (h.numG rfl (.inl rfl) ⟨by show 1 ≤ (6 : Int); decide, by show (6 : Int) ≤ 6; decide⟩ rfl (.inl rfl) rfl rfl) rfl rfl rfl rfl rfl ⟨.inr ⟨rfl, rfl⟩, (by unfold ResultP; rw [if_neg (by show ¬ (6 : Int) = 2; decide)]; exact he.1), (by unfold ReasonP; rw [if_neg (by show ¬ ((6 : Int) = 3 ∨ (6 : Int) = 5); decide)]; exact he.2)⟩ (task_zero _ rfl rfl rfl rfl rfl) (tim_nil n) h.can.upd
theorem can_stays {n : Nat} {s : Sta} {x : Ev} (hc : CanP n s) (hm : MayE n x) (hr : refC s x = 0) : CanP n (chg s x) := by
  have h := kn_of hc hm hr
  have hk := hm.kind
  have h1 := h.k1
  have hcase : x.k = 2 ∨ x.k = 3 ∨ (x.k = 4 ∨ x.k = 5 ∨ x.k = 6) ∨ x.k = 7 ∨ x.k = 8 ∨ x.k = 9 ∨ x.k = 10 ∨ x.k = 11 ∨ x.k = 12 ∨ x.k = 13 ∨ x.k = 14 ∨ x.k = 15 ∨ x.k = 16 ∨ x.k = 17 ∨ x.k = 18 ∨ x.k = 19 := by omega
  rcases hcase with e | e | e | e | e | e | e | e | e | e | e | e | e | e | e | e
  · rw [chg_2 s x e]; exact can_2 h e
  · rw [chg_3 s x e]; exact can_3 h e
  · rw [chg_from s x e]
    by_cases hp : 0 < x.n
    · rw [if_pos hp]; exact can_5 h e hp
    · rw [if_neg hp]; exact can_4 h
  · rw [chg_7 s x e]; exact can_7 h
  · rw [chg_8 s x e]; exact can_8 h
  · rw [chg_9 s x e]; exact can_9 h e
  · rw [chg_10 s x e]; exact can_10 h
  · rw [chg_11 s x e]; exact can_11 h
  · rw [chg_12 s x e]; exact can_12 h e
  · rw [chg_13 s x e]; exact can_13 h e
  · rw [chg_14 s x e]; exact can_14 h
  · rw [chg_15 s x e]; exact can_15 h e
  · rw [chg_16 s x e]; exact can_16 h e
  · rw [chg_17 s x e]; exact can_17 h e
  · rw [chg_18 s x e]; exact can_18 h e
  · rw [chg_19 s x e]; exact can_19 h e
/-- A run that has not begun. -/
def sta0 (r : Int) : Sta := ⟨r, 0, 0, 0, 0, 0, 0, ⟨#[]⟩, zE, 0, 0, 0, 0, 0, 0, 0, 0, false, false, [], [], zE, ⟨#[]⟩⟩
theorem can_begins {n : Nat} {r : Int} {x : Ev} (h1 : 1 ≤ r) (h2 : r ≤ 10) (hm : MayE n x) (hr : refC (sta0 r) x = 0) : CanP n (chg (sta0 r) x) := by
  obtain ⟨_, _, _, h4, _⟩ := refC_fits hr
  have hk : x.k = 1 := by
    by_cases hk : x.k = 1
    · exact hk
    · unfold inT at h4
      rw [if_neg hk] at h4
      simp [sta0] at h4
  have hf := (nf_iff _ _ _ _).1 hm.2.1
  rw [hk] at hf
  obtain ⟨f1, _, f3⟩ := hf
  have f4 : x.d ≤ 2199023255552 := f3.2
  rw [chg_1 _ x hk]
  refine ⟨?_, ⟨hasName hm (by rw [hk]; decide), hasValue hm (by rw [hk]; decide), ?_⟩, ⟨.inl rfl, ?_, ?_⟩, task_zero _ rfl rfl rfl rfl rfl, tim_nil n, ⟨Nat.zero_le _, trivial⟩⟩
  · rw [numB_iff]
    have w : wrap64 ((0 : Int) + 1) = 1 := wr_add (by decide) (by decide)
    exact ⟨⟨h1, h2⟩, ⟨by show (0 : Int) ≤ 0; decide, by show (0 : Int) ≤ 10; decide⟩, ⟨by show (1 : Int) ≤ 1; decide, by show (1 : Int) ≤ 6; decide⟩, ⟨by show 1 ≤ wrap64 (0 + 1); rw [w]; decide, by show wrap64 (0 + 1) ≤ 120; rw [w]; decide⟩, ⟨by show (0 : Int) ≤ 0; decide, by show 0 ≤ wrap64 (0 + 1); rw [w]; decide⟩, f1, ⟨f3.1, f4⟩⟩
  · have := hm.2.2.2.2
    unfold pf at this
    rw [hk] at this
    rw [show hP 1 = true from by decide] at this
    exact this
  · unfold ResultP
    rw [if_neg (by show ¬ (1 : Int) = 2; decide)]
    rfl
  · unfold ReasonP
    rw [if_neg (by show ¬ ((1 : Int) = 3 ∨ (1 : Int) = 5); decide)]
    show (⟨#[]⟩ : ByteArray).toList = []
    rw [ByteArray.toList_eq]
end Go.Proofs.YthphgkaifnacbaaGreat
namespace Go.Proofs.YthphgkaifnacbaaGreat
open Go.ChangeShapes Go.WideShapes Go.ChangeAt Go.RowKit
def plA (s : Sta) : Array Value := #[.int .i64 s.run, .int .i64 s.status, .int .i64 s.count, .int .i64 s.time, .int .i64 s.dl, .int .i64 s.fr, .int .i64 s.sig, .string s.typ, .string s.rea, .int .i64 s.pf, .int .u64 (s.pc : Int), .int .i64 s.pm, .int .i64 s.ts, .int .i64 s.ta, .int .i64 s.td, .int .i64 s.te, .int .i64 s.tn, .bool s.fresh, .bool s.cancel]
theorem info64 (a : Array Value) (h : a.size = 19) : (Tryz.prog.info? 64).map (·.size) = some a.size := by
  rw [h]
  kernel_rfl
def zP : Array Value := #[.int .i64 0, .int .i64 0, .int .i64 0, .int .i64 0, .int .i64 0, .int .i64 0, .int .i64 0, .string ⟨#[]⟩, .string ⟨#[]⟩, .int .i64 0, .int .u64 0, .int .i64 0, .int .i64 0, .int .i64 0, .int .i64 0, .int .i64 0, .int .i64 0, .bool false, .bool false]
theorem setP (w : World) (A : Obj) (s : Sta) : ((w.alloc A).alloc (.cells zP 64)).setRow (w.heap.size + 1) (plA s) = (w.alloc A).alloc (.cells (plA s) 64) := by
  have := World.setRow_alloc_new (w := w.alloc A) (c := zP) (t := 64) (c' := plA s)
  rw [World.size_alloc] at this
  exact this
/-- What says yes. -/
def YesP (w : World) (e : Ending) (w' : World) : Prop := e = .returned (.bool true) ∧ Below w.heap.size w w'
theorem vsame_calls (n : Nat) (v v2 : Value) (t : Tv) (w : World) (h : Is w n v t) (h2 : Is w n v2 t) : Calls Tryz.prog 36 #[v, v2] w (YesP w) := by
  refine (same_calls n v t v2 t w h h2).mono ?_
  rintro e w' ⟨⟨r, rfl, hr⟩, hb⟩
  have : r = true := hr.2 rfl
  subst this
  exact ⟨rfl, hb⟩
/-- Updates in a row, read. -/
def RowI (w : World) (n : Nat) (a : Option Addr) (ds : List Up) : Prop := ∃ us : List (Array Value), us.length = ds.length ∧ RowS (fun _ => True) w a 12 us ∧ ∀ (i : Nat) r u, us[i]? = some r → ds[i]? = some u → IsU (Is w n) r u
theorem RowI.below {w w' : World} {n : Nat} {a : Option Addr} {ds : List Up} (h : RowI w n a ds) (hb : Below w.heap.size w w') : RowI w' n a ds := by
  obtain ⟨us, h1, h2, h3⟩ := h
  exact ⟨us, h1, h2.map (fun _ _ h => h) (fun _ _ _ hv => cell_below hv hb) (by decide), fun i r u hr hu => (h3 i r u hr hu).map fun v t h => h.below hb⟩
theorem RowI.at {w : World} {n j : Nat} {a : Option Addr} {ds : List Up} {d : Up} (h : RowI w n a ds) (hd : ds[j]? = some d) : ∃ r B o, a = some ⟨B, o, none⟩ ∧ w.rangeAt B (o + j * 12) r.toList ∧ r.size = 12 ∧ IsU (Is w n) r d := by
  obtain ⟨us, h1, h2, h3⟩ := h
  have hj := (List.getElem?_eq_some_iff.1 hd).1
  obtain ⟨r, hr⟩ : ∃ r, us[j]? = some r := ⟨_, List.getElem?_eq_getElem (by rw [h1]; exact hj)⟩
  obtain ⟨hsz, _, B, o, e, _, hl⟩ := h2 j r hr
  exact ⟨r, B, o, e, lies_range hl, hsz, h3 j r d hr hd⟩
set_option maxHeartbeats 4000000 in
set_option maxRecDepth 100000 in
theorem plainOf_calls (n : Nat) (cs : Array Value) (s : Sta) (w : World) (h : Rs w n cs s) : Calls Tryz.prog 35 #[.agg cs] w fun e w' => e = .returned (.agg #[.int .i64 s.run, .int .i64 s.status, .int .i64 s.count, .int .i64 s.time, .int .i64 s.dl, .int .i64 s.fr, .int .i64 s.sig, .string s.typ, .string s.rea, .int .i64 s.pf, .int .u64 (s.pc : Int), .int .i64 s.pm, .int .i64 s.ts, .int .i64 s.ta, .int .i64 s.td, .int .i64 s.te, .int .i64 s.tn, .bool s.fresh, .bool s.cancel]) ∧ Below w.heap.size w w' := by
  have c0 := h.c0
  have c1 := h.c1
  have c2 := h.c2
  have c3 := h.c3
  have c4 := h.c4
  have c5 := h.c5
  have c6 := h.c6
  have c7 := h.c7
  have c13 := h.c13
  have c14 := h.c14
  have c15 := h.c15
  have c16 := h.c16
  have c17 := h.c17
  have c18 := h.c18
  have c19 := h.c19
  have c20 := h.c20
  have c21 := h.c21
  have c22 := h.c22
  have c30 := h.c30
  have Z : ((w.alloc (.cells cs 33)).alloc (.cells zP 64)).heap[w.heap.size + 1]? = some (.cells zP 64 (0, 0)) := heap_alloc2_new _ _ _
  have hi : (Tryz.prog.info? 64).map (·.size) = some (plA s).size := info64 _ rfl
  have ho : zP.size = (plA s).size := rfl
  have h1 : (plA s).all (·.oneCell') = true := by simp [plA, Value.oneCell']
  clear h
  go_enter Tryz.func35, Tryz.ntmps35
  go_wp2_with (refine wpList_store_row rfl 64 _ _ rfl (w.heap.size + 1) (plA s) rfl rfl 64 zP Z hi ho h1 ?_)
  have e : ((w.alloc (.cells cs 33)).alloc (.cells zP 64)).setRow (w.heap.size + 1) (plA s) = _ := setP w _ s
  refine bodyPost_ret (results_cell_row Tryz.results35 _ _ (w.heap.size + 1) 64 (plA s) (0, 0) _ rfl ((congrArg (fun W : World => W.heap[w.heap.size + 1]?) e).trans (heap_alloc2_new _ _ _)) Tryz.underlying64 rfl hi) rfl ?_
  have hb : Below w.heap.size w (((w.alloc (.cells cs 33)).alloc (.cells zP 64)).setRow (w.heap.size + 1) (plA s)) := by rw [e]; exact bel2 (bel1 _ _) (bel1 _ _)
  exact ⟨rfl, hb⟩
set_option maxHeartbeats 4000000 in
set_option maxRecDepth 100000 in
theorem sameUpdate_calls (n : Nat) (r q : Array Value) (u : Up) (w : World) (h : IsU (Is w n) r u) (k : IsU (Is w n) q u) : Calls Tryz.prog 39 #[.agg r, .agg q] w (YesP w) := by
  have r0 := h.c0
  have r6 := h.c6
  have q0 := k.c0
  have q6 := k.c6
  obtain ⟨k0, x0, b0, s0, a0, m0, n0, h1, h2, h3, h4, h5, hv⟩ := h.v
  obtain ⟨k1, x1, b1, s1, a1, m1, n1, g1, g2, g3, g4, g5, gv⟩ := k.v
  obtain ⟨k2, x2, b2, s2, a2, m2, n2, h7, h8, h9, h10, h11, ho⟩ := h.o
  obtain ⟨k3, x3, b3, s3, a3, m3, n3, g7, g8, g9, g10, g11, go'⟩ := k.o
  have K1 : Hid (∀ W, Below w.heap.size w W → Calls Tryz.prog 36 #[.agg #[.int .i64 k0, .int .i64 x0, .int .u64 b0, .string s0, .slice a0 m0 n0], .agg #[.int .i64 k1, .int .i64 x1, .int .u64 b1, .string s1, .slice a1 m1 n1]] W (YesP W)) := fun W hb => vsame_calls n _ _ _ W (hv.below hb) (gv.below hb)
  have K2 : Hid (∀ W, Below w.heap.size w W → Calls Tryz.prog 36 #[.agg #[.int .i64 k2, .int .i64 x2, .int .u64 b2, .string s2, .slice a2 m2 n2], .agg #[.int .i64 k3, .int .i64 x3, .int .u64 b3, .string s3, .slice a3 m3 n3]] W (YesP W)) := fun W hb => vsame_calls n _ _ _ W (ho.below hb) (go'.below hb)
  clear h k hv gv ho go'
  go_enter Tryz.func39, Tryz.ntmps39
  go_wp2_with fail
  refine (K1.out _ (bel2 (bel1 _ _) (bel1 _ _))).mono ?_
  rintro e w1 ⟨rfl, hb⟩
  have HB1 : Hid (Below w.heap.size w w1) := bel2 (bel2 (bel1 _ _) (bel1 _ _)) hb
  have d1 : ∀ j, w1.cell? ⟨w.heap.size, j, none⟩ = r[j]? := fun j => cell_of_row w1 _ j r 37 (0, 0) (row_below hb (heap_alloc2_old _ _ _))
  have d2 : ∀ j, w1.cell? ⟨w.heap.size + 1, j, none⟩ = q[j]? := fun j => cell_of_row w1 _ j q 37 (0, 0) (row_below hb (heap_alloc2_new _ _ _))
  clear hb K1
  go_wp2_with fail
  refine (K2.out _ HB1.out).mono ?_
  rintro e w2 ⟨rfl, hb⟩
  have HB2 : Hid (Below w.heap.size w w2) := bel2 HB1.out hb
  clear hb K2 d1 d2
  go_wp2_with fail
  go_ret
  exact ⟨rfl, HB2.out⟩
set_option maxHeartbeats 4000000 in
set_option maxRecDepth 100000 in
theorem equalT_calls (ds : List Tm) (a a2 : Option Addr) (n c c2 : Nat) (hn : ds.length = n) (hl : n ≤ 1000) (w : World) (h : RowS (fun _ => True) w a 2 (ds.map Tm.cells)) (k : RowS (fun _ => True) w a2 2 (ds.map Tm.cells)) :
    Calls Tryz.prog 37 #[.slice a n c, .slice a2 n c2] w (YesP w) := by
  have HH : Hid (RowS (fun _ => True) w a 2 (ds.map Tm.cells)) := h
  have HK : Hid (RowS (fun _ => True) w a2 2 (ds.map Tm.cells)) := k
  have HN : Hid (ds.length = n) := hn
  have HL : Hid (n ≤ 1000) := hl
  have hnn : ((n : Int) != (n : Int)) = false := by simp
  clear h k hn hl
  go_enter Tryz.func37, Tryz.ntmps37
  go_wp2_with fail
  go_loopw [5, 13] (fun _ i wr => ∃ j : Nat, j ≤ n ∧ i = .int .i64 (j : Int) ∧ Hid (Below w.heap.size w wr)) (fun _ i _ => n - (intOf i).toNat)
  case atStart => exact ⟨0, Nat.zero_le _, rfl, Below.refl _ _⟩
  case round =>
    obtain ⟨j, hj, rfl, HB⟩ := hrel
    by_cases hlt : j < n
    · obtain ⟨d, hd⟩ : ∃ d, ds[j]? = some d := ⟨_, List.getElem?_eq_getElem (by rw [HN.out]; exact hlt)⟩
      obtain ⟨B, o, rfl, q0, q1⟩ := tm_lies (rows_below2 HH.out HB.out) hd
      obtain ⟨B2, o2, rfl, p0, p1⟩ := tm_lies (rows_below2 HK.out HB.out) hd
      have HW : Hid (wrap64 ((j : Int) + 1) = ((j + 1 : Nat) : Int)) := wr1 hlt (by have := HL.out; omega)
      have hjn : (j : Int) < (n : Int) := by omega
      clear hd
      go_wp2_with fail
      refine wp_region_held_drew (S := (fun w' => w'.cell? ⟨B, o + j * 2, none⟩ = some (.string d.s) ∧ w'.cell? ⟨B, o + j * 2 + 1, none⟩ = some (.int .i64 d.d) ∧ w'.cell? ⟨B2, o2 + j * 2, none⟩ = some (.string d.s) ∧ w'.cell? ⟨B2, o2 + j * 2 + 1, none⟩ = some (.int .i64 d.d))) (by kernel_rfl) ⟨q0, q1, p0, p1⟩ (fun hHeld => ?_)
      change wpAnyH _ _ _ _ _ _ _ _ (World.drew _)
      refine wpAnyH_take (i := 0) (oi := { dst := some 16, op := Go.Op.move (Go.Operand.tmp 0), type := 30, pos := "slices.go:25", after := #[], guard := none }) (v := ?_) rfl (by kernel_rfl) (by kernel_rfl) (by kernel_rfl) (fun _ _ _ h => h) (Or.inl ⟨by rfl, ?_⟩) hHeld ?_
      rotate_left 1
      · (intro w hSw; (try dsimp only at hSw); go_simp <;> with_reducible rfl)
      simp only [Act.put, List.setIfInBounds_toArray, List.set_cons_zero, List.set_cons_succ]
      refine wpAnyH_take (i := 1) (oi := { dst := some 17, op := Go.Op.move (Go.Operand.tmp 5), type := 3, pos := "slices.go:25", after := #[], guard := none }) (v := ?_) rfl (by kernel_rfl) (by kernel_rfl) (by kernel_rfl) (fun _ _ _ h => h) (Or.inl ⟨by rfl, ?_⟩) hHeld ?_
      rotate_left 1
      · (intro w hSw; (try dsimp only at hSw); go_simp <;> with_reducible rfl)
      simp only [Act.put, List.setIfInBounds_toArray, List.set_cons_zero, List.set_cons_succ]
      refine wpAnyH_take (i := 2) (oi := { dst := some 18, op := Go.Op.indexAddr 30 (Go.Operand.tmp 16) (Go.Operand.tmp 17), type := 0, pos := "slices.go:25", after := #[{ on := 0, ground := Go.Ground.data }, { on := 1, ground := Go.Ground.data }], guard := none }) (v := ?_) rfl (by kernel_rfl) (by kernel_rfl) (by kernel_rfl) (fun _ _ _ h => h) (Or.inl ⟨by rfl, ?_⟩) hHeld ?_
      rotate_left 1
      · (intro w hSw; (try dsimp only at hSw); go_simp <;> with_reducible rfl)
      simp only [Act.put, List.setIfInBounds_toArray, List.set_cons_zero, List.set_cons_succ]
      refine wpAnyH_take (i := 3) (oi := { dst := some 19, op := Go.Op.load 56 (Go.Operand.tmp 18), type := 56, pos := "slices.go:25", after := #[{ on := 2, ground := Go.Ground.data }], guard := none }) (v := ?_) rfl (by kernel_rfl) (by kernel_rfl) (by kernel_rfl) (fun _ _ _ h => h) (Or.inl ⟨by rfl, ?_⟩) hHeld ?_
      rotate_left 1
      · (intro w hSw; (try dsimp only at hSw); go_simp <;> with_reducible rfl)
      simp only [Act.put, List.setIfInBounds_toArray, List.set_cons_zero, List.set_cons_succ]
      refine wpAnyH_take (i := 4) (oi := { dst := some 20, op := Go.Op.move (Go.Operand.tmp 1), type := 30, pos := "slices.go:25", after := #[], guard := none }) (v := ?_) rfl (by kernel_rfl) (by kernel_rfl) (by kernel_rfl) (fun _ _ _ h => h) (Or.inl ⟨by rfl, ?_⟩) hHeld ?_
      rotate_left 1
      · (intro w hSw; (try dsimp only at hSw); go_simp <;> with_reducible rfl)
      simp only [Act.put, List.setIfInBounds_toArray, List.set_cons_zero, List.set_cons_succ]
      refine wpAnyH_take (i := 5) (oi := { dst := some 21, op := Go.Op.move (Go.Operand.tmp 5), type := 3, pos := "slices.go:25", after := #[], guard := none }) (v := ?_) rfl (by kernel_rfl) (by kernel_rfl) (by kernel_rfl) (fun _ _ _ h => h) (Or.inl ⟨by rfl, ?_⟩) hHeld ?_
      rotate_left 1
      · (intro w hSw; (try dsimp only at hSw); go_simp <;> with_reducible rfl)
      simp only [Act.put, List.setIfInBounds_toArray, List.set_cons_zero, List.set_cons_succ]
      refine wpAnyH_take (i := 6) (oi := { dst := some 22, op := Go.Op.indexAddr 30 (Go.Operand.tmp 20) (Go.Operand.tmp 21), type := 0, pos := "slices.go:25", after := #[{ on := 4, ground := Go.Ground.data }, { on := 5, ground := Go.Ground.data }], guard := none }) (v := ?_) rfl (by kernel_rfl) (by kernel_rfl) (by kernel_rfl) (fun _ _ _ h => h) (Or.inl ⟨by rfl, ?_⟩) hHeld ?_
      rotate_left 1
      · (intro w hSw; (try dsimp only at hSw); go_simp <;> with_reducible rfl)
      simp only [Act.put, List.setIfInBounds_toArray, List.set_cons_zero, List.set_cons_succ]
      refine wpAnyH_take (i := 7) (oi := { dst := some 23, op := Go.Op.load 56 (Go.Operand.tmp 22), type := 56, pos := "slices.go:25", after := #[{ on := 6, ground := Go.Ground.data }], guard := none }) (v := ?_) rfl (by kernel_rfl) (by kernel_rfl) (by kernel_rfl) (fun _ _ _ h => h) (Or.inl ⟨by rfl, ?_⟩) hHeld ?_
      rotate_left 1
      · (intro w hSw; (try dsimp only at hSw); go_simp <;> with_reducible rfl)
      simp only [Act.put, List.setIfInBounds_toArray, List.set_cons_zero, List.set_cons_succ]
      refine wpAnyH_take (i := 8) (oi := { dst := some 24, op := Go.Op.binOp Go.BinOp.neq 56 (Go.Operand.tmp 19) (Go.Operand.tmp 23) 56, type := 4, pos := "slices.go:25", after := #[{ on := 3, ground := Go.Ground.data }, { on := 7, ground := Go.Ground.data }], guard := none }) (v := ?_) rfl (by kernel_rfl) (by kernel_rfl) (by kernel_rfl) (fun _ _ _ h => h) (Or.inl ⟨by rfl, ?_⟩) hHeld ?_
      rotate_left 1
      · (intro w hSw; (try dsimp only at hSw); go_simp <;> with_reducible rfl)
      simp only [Act.put, List.setIfInBounds_toArray, List.set_cons_zero, List.set_cons_succ]
      refine wpAnyH_done (by kernel_rfl) ?_ _
      clear q0 q1 p0 p1
      go_wp2_with fail
      exact ⟨⟨j + 1, hlt, by first | rw [HW.out] | exact congrArg _ (Int.natCast_succ j).symm, HB.out.drew⟩, by first | exact meas hlt HW.out | exact meas hlt (Int.natCast_succ j).symm⟩
    · obtain rfl : j = n := by omega
      have hjn : decide ((j : Int) < (j : Int)) = false := decide_eq_false (by omega)
      go_wp2_with fail
      go_ret
      exact ⟨rfl, HB.out⟩
set_option maxHeartbeats 8000000 in
set_option maxRecDepth 100000 in
theorem equalU_calls (N : Nat) (ds : List Up) (a a2 : Option Addr) (n c c2 : Nat) (hn : ds.length = n) (hl : n ≤ 1000) (w : World) (h : RowI w N a ds) (k : RowI w N a2 ds) :
    Calls Tryz.prog 38 #[.slice a n c, .slice a2 n c2, .func (.func 39) #[] #[]] w (YesP w) := by
  have HH : Hid (RowI w N a ds) := h
  have HK : Hid (RowI w N a2 ds) := k
  have HN : Hid (ds.length = n) := hn
  have HL : Hid (n ≤ 1000) := hl
  have hnn : ((n : Int) != (n : Int)) = false := by simp
  clear h k hn hl
  go_enter Tryz.func38, Tryz.ntmps38
  go_wp2_with fail
  go_loopw [7, 8, 9, 17] (fun _ _ _ i wr => ∃ j : Nat, j ≤ n ∧ i = .int .i64 (j : Int) ∧ Hid (Below w.heap.size w wr)) (fun _ _ _ i _ => n - (intOf i).toNat)
  case atStart => exact ⟨0, Nat.zero_le _, rfl, Below.refl _ _⟩
  case round =>
    obtain ⟨j, hj, rfl, HB⟩ := hrel
    by_cases hlt : j < n
    · obtain ⟨d, hd⟩ : ∃ d, ds[j]? = some d := ⟨_, List.getElem?_eq_getElem (by rw [HN.out]; exact hlt)⟩
      obtain ⟨r, B, o, rfl, l1, z1, i1⟩ := (HH.out.below HB.out).at hd
      obtain ⟨q, B2, o2, rfl, l2, z2, i2⟩ := (HK.out.below HB.out).at hd
      have HW : Hid (wrap64 ((j : Int) + 1) = ((j + 1 : Nat) : Int)) := wr1 hlt (by have := HL.out; omega)
      have hjn : (j : Int) < (n : Int) := by omega
      have hi1 : (Tryz.prog.info? 37).map (·.size) = some r.toList.length := by rw [Array.length_toList]; exact info40s r z1
      have hi2 : (Tryz.prog.info? 37).map (·.size) = some q.toList.length := by rw [Array.length_toList]; exact info40s q z2
      have hr1 := info40s r z1
      have hr2 := info40s q z2
      have o1 : zU.size = r.size := z1.symm
      have o2' : zU.size = q.size := z2.symm
      have a1 := all_one i1.one
      have a2 := all_one i2.one
      have n1 : (wr.alloc (.cells zU 37)).heap[wr.heap.size]? = some (.cells zU 37 (0, 0)) := heap_alloc_new wr _
      have HC : Hid (∀ W, Below wr.heap.size wr W → Calls Tryz.prog 39 #[.agg r, .agg q] W (YesP W)) := fun W hb => sameUpdate_calls N r q d W (i1.map fun v t h => h.below hb) (i2.map fun v t h => h.below hb)
      clear hd i1 i2 z1 z2
      go_upto_region 6 with (first
        | refine wpList_load_mid rfl 37 _ rfl B (o + j * 12) rfl r.toList _ l1 Tryz.underlying37 rfl hi1 ?_
        | refine wpList_store_row rfl 37 _ _ rfl wr.heap.size r rfl rfl 37 zU n1 hr1 o1 a1 ?_)
      rw [World.setRow_alloc_new]
      have hb1 : Below wr.heap.size wr (wr.alloc (.cells r 37)) := bel1 wr _
      have m1 : (wr.alloc (.cells r 37)).heap[wr.heap.size]? = some (.cells r 37 (0, 0)) := heap_alloc_new wr _
      have hsz : (wr.alloc (.cells r 37)).heap.size = wr.heap.size + 1 := by simp
      have l3 : (wr.alloc (.cells r 37)).rangeAt B2 (o2 + j * 12) q.toList := fun i v hv => cellW (l2 i v hv) hb1
      generalize wr.alloc (.cells r 37) = W1 at hb1 m1 hsz l3 ⊢
      have n2 : (W1.alloc (.cells zU 37)).heap[W1.heap.size]? = some (.cells zU 37 (0, 0)) := heap_alloc_new W1 _
      clear n1 l1 l2 hi1 o1 a1
      have HS : Hid (W1.heap.size = wr.heap.size + 1) := hsz
      have HB1 : Hid (Below wr.heap.size wr W1) := hb1
      clear hsz hb1
      go_upto_region 7 with (first
        | refine wpList_load_mid rfl 37 _ rfl B2 (o2 + j * 12) rfl q.toList _ l3 Tryz.underlying37 rfl hi2 ?_
        | refine wpList_store_row rfl 37 _ _ rfl W1.heap.size q rfl rfl 37 zU n2 hr2 o2' a2 ?_)
      rw [World.setRow_alloc_new]
      have hb2 : Below W1.heap.size W1 (W1.alloc (.cells q 37)) := bel1 W1 _
      have m2 : (W1.alloc (.cells q 37)).heap[W1.heap.size]? = some (.cells q 37 (0, 0)) := heap_alloc_new W1 _
      have m3 : (W1.alloc (.cells q 37)).heap[wr.heap.size]? = some (.cells r 37 (0, 0)) := row_below hb2 m1
      generalize W1.alloc (.cells q 37) = W2 at hb2 m2 m3 ⊢
      have HB2 : Hid (Below wr.heap.size wr W2) := bel2 HB1.out hb2
      clear n2 l3 hi2 o2' a2 m1 hb2
      generalize W1.heap.size = G at HS m2 ⊢
      go_wp2_with (first
        | refine wpList_load_row rfl 37 _ rfl wr.heap.size rfl 37 r (0, 0) _ m3 Tryz.underlying37 rfl hr1 ?_
        | refine wpList_load_row rfl 37 _ rfl G rfl 37 q (0, 0) _ m2 Tryz.underlying37 rfl hr2 ?_)
      refine (HC.out _ HB2.out).mono ?_
      rintro e w2 ⟨rfl, hb⟩
      have HB3 : Hid (Below w.heap.size w w2) := bel2 HB.out (bel2 HB2.out hb)
      clear hb m2 m3 hr1 hr2 HC
      go_wp2_with fail
      exact ⟨⟨j + 1, hlt, by first | rw [HW.out] | exact congrArg _ (Int.natCast_succ j).symm, HB3⟩, by first | exact meas hlt HW.out | exact meas hlt (Int.natCast_succ j).symm⟩
    · obtain rfl : j = n := by omega
      have hjn : decide ((j : Int) < (j : Int)) = false := decide_eq_false (by omega)
      go_wp2_with fail
      go_ret
      exact ⟨rfl, HB.out⟩
end Go.Proofs.YthphgkaifnacbaaGreat
namespace Go.Proofs.YthphgkaifnacbaaGreat
open Go.ChangeShapes Go.WideShapes Go.ChangeAt Go.RowKit
theorem Rs.rowI {w : World} {n : Nat} {cs : Array Value} {s : Sta} (h : Rs w n cs s) : ∃ a c, cs[24]? = some (.slice a s.up.length c) ∧ RowI w n a s.up := by
  obtain ⟨ua, uc, us, u1, u2, u3, u4⟩ := h.up
  exact ⟨ua, uc, u1, us, u2, u3, u4⟩
theorem range0 {w : World} {g t : Nat} {cs : Array Value} (h : w.heap[g]? = some (.cells cs t (0, 0))) : w.rangeAt g 0 cs.toList := lies_range (Lies.row h)
set_option maxHeartbeats 16000000 in
set_option maxRecDepth 100000 in
theorem sameP_calls (n : Nat) (cs ds : Array Value) (s : Sta) (w : World) (h : Rs w n cs s) (k : Rs w n ds s) (ht : s.tm.length ≤ 1000) (hu : s.up.length ≤ 1000) : Calls Tryz.prog 15 #[.agg cs, .agg ds] w (YesP w) := by
  have hiC : (Tryz.prog.info? 33).map (·.size) = some cs.toList.length := info33l cs h.size
  have hiD : (Tryz.prog.info? 33).map (·.size) = some ds.toList.length := info33l ds k.size
  obtain ⟨ta, tc, c23, t1⟩ := h.tm
  obtain ⟨ta2, tc2, d23, t2⟩ := k.tm
  obtain ⟨ua, uc, c24, u1⟩ := h.rowI
  obtain ⟨ua2, uc2, d24, u2⟩ := k.rowI
  obtain ⟨k0, x0, b0, s0, a0, m0, n0, h1, h2, h3, h4, h5, v1⟩ := h.inp
  obtain ⟨k1, x1, b1, s1, a1, m1, n1, g1, g2, g3, g4, g5, v2⟩ := k.inp
  obtain ⟨k2, x2, b2, s2, a2, m2, n2, h6, h7, h8, h9, h10, v3⟩ := h.res
  obtain ⟨k3, x3, b3, s3, a3, m3, n3, g6, g7, g8, g9, g10, v4⟩ := k.res
  have K1 : Hid (∀ W, Below w.heap.size w W → Calls Tryz.prog 35 #[.agg cs] W fun e w' => e = .returned (.agg #[.int .i64 s.run, .int .i64 s.status, .int .i64 s.count, .int .i64 s.time, .int .i64 s.dl, .int .i64 s.fr, .int .i64 s.sig, .string s.typ, .string s.rea, .int .i64 s.pf, .int .u64 (s.pc : Int), .int .i64 s.pm, .int .i64 s.ts, .int .i64 s.ta, .int .i64 s.td, .int .i64 s.te, .int .i64 s.tn, .bool s.fresh, .bool s.cancel]) ∧ Below W.heap.size W w') := fun W hb => plainOf_calls n cs s W (h.below hb)
  have K1b : Hid (∀ W, Below w.heap.size w W → Calls Tryz.prog 35 #[.agg ds] W fun e w' => e = .returned (.agg #[.int .i64 s.run, .int .i64 s.status, .int .i64 s.count, .int .i64 s.time, .int .i64 s.dl, .int .i64 s.fr, .int .i64 s.sig, .string s.typ, .string s.rea, .int .i64 s.pf, .int .u64 (s.pc : Int), .int .i64 s.pm, .int .i64 s.ts, .int .i64 s.ta, .int .i64 s.td, .int .i64 s.te, .int .i64 s.tn, .bool s.fresh, .bool s.cancel]) ∧ Below W.heap.size W w') := fun W hb => plainOf_calls n ds s W (k.below hb)
  have K2 : Hid (∀ W, Below w.heap.size w W → Calls Tryz.prog 36 #[.agg #[.int .i64 k0, .int .i64 x0, .int .u64 b0, .string s0, .slice a0 m0 n0], .agg #[.int .i64 k1, .int .i64 x1, .int .u64 b1, .string s1, .slice a1 m1 n1]] W (YesP W)) := fun W hb => vsame_calls n _ _ _ W (v1.below hb) (v2.below hb)
  have K3 : Hid (∀ W, Below w.heap.size w W → Calls Tryz.prog 36 #[.agg #[.int .i64 k2, .int .i64 x2, .int .u64 b2, .string s2, .slice a2 m2 n2], .agg #[.int .i64 k3, .int .i64 x3, .int .u64 b3, .string s3, .slice a3 m3 n3]] W (YesP W)) := fun W hb => vsame_calls n _ _ _ W (v3.below hb) (v4.below hb)
  have K4 : Hid (∀ W, Below w.heap.size w W → Calls Tryz.prog 37 #[.slice ta s.tm.length tc, .slice ta2 s.tm.length tc2] W (YesP W)) := fun W hb => equalT_calls s.tm ta ta2 _ tc tc2 rfl ht W (rows_below2 t1 hb) (rows_below2 t2 hb)
  have K5 : Hid (∀ W, Below w.heap.size w W → Calls Tryz.prog 38 #[.slice ua s.up.length uc, .slice ua2 s.up.length uc2, .func (.func 39) #[] #[]] W (YesP W)) := fun W hb => equalU_calls n s.up ua ua2 _ uc uc2 rfl hu W (u1.below hb) (u2.below hb)
  obtain ⟨SmQ, hSQ⟩ : ∃ Q : World → Prop, Q = fun W => W.heap[w.heap.size]? = some (.cells cs 33 (0, 0)) ∧ W.heap[w.heap.size + 1]? = some (.cells ds 33 (0, 0)) := ⟨_, rfl⟩
  have HSS : Hid (∀ W W', SmQ W → Below W.heap.size W W' → SmQ W') := fun W W' hq hb => by
    rw [hSQ] at hq ⊢
    exact ⟨row_below hb hq.1, row_below hb hq.2⟩
  have HSX : Hid (∀ W, SmQ W → W.heap[w.heap.size]? = some (.cells cs 33 (0, 0)) ∧ W.heap[w.heap.size + 1]? = some (.cells ds 33 (0, 0)) ∧ W.cell? ⟨w.heap.size, 8, none⟩ = some (.int .i64 k0) ∧ W.cell? ⟨w.heap.size, 8 + 1, none⟩ = some (.int .i64 x0) ∧ W.cell? ⟨w.heap.size, 8 + 2, none⟩ = some (.int .u64 b0) ∧ W.cell? ⟨w.heap.size, 8 + 3, none⟩ = some (.string s0) ∧ W.cell? ⟨w.heap.size, 8 + 4, none⟩ = some (.slice a0 m0 n0) ∧ W.cell? ⟨w.heap.size + 1, 8, none⟩ = some (.int .i64 k1) ∧ W.cell? ⟨w.heap.size + 1, 8 + 1, none⟩ = some (.int .i64 x1) ∧ W.cell? ⟨w.heap.size + 1, 8 + 2, none⟩ = some (.int .u64 b1) ∧ W.cell? ⟨w.heap.size + 1, 8 + 3, none⟩ = some (.string s1) ∧ W.cell? ⟨w.heap.size + 1, 8 + 4, none⟩ = some (.slice a1 m1 n1) ∧ W.cell? ⟨w.heap.size, 25, none⟩ = some (.int .i64 k2) ∧ W.cell? ⟨w.heap.size, 25 + 1, none⟩ = some (.int .i64 x2) ∧ W.cell? ⟨w.heap.size, 25 + 2, none⟩ = some (.int .u64 b2) ∧ W.cell? ⟨w.heap.size, 25 + 3, none⟩ = some (.string s2) ∧ W.cell? ⟨w.heap.size, 25 + 4, none⟩ = some (.slice a2 m2 n2) ∧ W.cell? ⟨w.heap.size + 1, 25, none⟩ = some (.int .i64 k3) ∧ W.cell? ⟨w.heap.size + 1, 25 + 1, none⟩ = some (.int .i64 x3) ∧ W.cell? ⟨w.heap.size + 1, 25 + 2, none⟩ = some (.int .u64 b3) ∧ W.cell? ⟨w.heap.size + 1, 25 + 3, none⟩ = some (.string s3) ∧ W.cell? ⟨w.heap.size + 1, 25 + 4, none⟩ = some (.slice a3 m3 n3) ∧ W.cell? ⟨w.heap.size, 23, none⟩ = some (.slice ta s.tm.length tc) ∧ W.cell? ⟨w.heap.size + 1, 23, none⟩ = some (.slice ta2 s.tm.length tc2) ∧ W.cell? ⟨w.heap.size, 24, none⟩ = some (.slice ua s.up.length uc) ∧ W.cell? ⟨w.heap.size + 1, 24, none⟩ = some (.slice ua2 s.up.length uc2)) := fun W hq => by
    rw [hSQ] at hq
    exact ⟨hq.1, hq.2, row_cell hq.1 h1, row_cell hq.1 h2, row_cell hq.1 h3, row_cell hq.1 h4, row_cell hq.1 h5, row_cell hq.2 g1, row_cell hq.2 g2, row_cell hq.2 g3, row_cell hq.2 g4, row_cell hq.2 g5, row_cell hq.1 h6, row_cell hq.1 h7, row_cell hq.1 h8, row_cell hq.1 h9, row_cell hq.1 h10, row_cell hq.2 g6, row_cell hq.2 g7, row_cell hq.2 g8, row_cell hq.2 g9, row_cell hq.2 g10, row_cell hq.1 c23, row_cell hq.2 d23, row_cell hq.1 c24, row_cell hq.2 d24⟩
  have HS0 : Hid (SmQ ((w.alloc (.cells cs 33)).alloc (.cells ds 33)).drew) := by
    show SmQ _
    rw [hSQ]
    exact ⟨heap_alloc2_old _ _ _, heap_alloc2_new _ _ _⟩
  have HB0 : Hid (Below w.heap.size w ((w.alloc (.cells cs 33)).alloc (.cells ds 33)).drew) := (bel2 (bel1 _ _) (bel1 _ _)).drew
  clear hSQ h k ht hu t1 t2 u1 u2 v1 v2 v3 v4 c23 d23 c24 d24 h1 h2 h3 h4 h5 h6 h7 h8 h9 h10 g1 g2 g3 g4 g5 g6 g7 g8 g9 g10
  go_enter Tryz.func15, Tryz.ntmps15
  go_wp2_with fail
  refine wp_region_held_drew (S := (fun w' => w'.heap[w.heap.size]? = some (.cells cs 33 (0, 0)) ∧ w'.heap[w.heap.size + 1]? = some (.cells ds 33 (0, 0)) ∧ w'.cell? ⟨w.heap.size, 8, none⟩ = some (.int .i64 k0) ∧ w'.cell? ⟨w.heap.size, 8 + 1, none⟩ = some (.int .i64 x0) ∧ w'.cell? ⟨w.heap.size, 8 + 2, none⟩ = some (.int .u64 b0) ∧ w'.cell? ⟨w.heap.size, 8 + 3, none⟩ = some (.string s0) ∧ w'.cell? ⟨w.heap.size, 8 + 4, none⟩ = some (.slice a0 m0 n0) ∧ w'.cell? ⟨w.heap.size + 1, 8, none⟩ = some (.int .i64 k1) ∧ w'.cell? ⟨w.heap.size + 1, 8 + 1, none⟩ = some (.int .i64 x1) ∧ w'.cell? ⟨w.heap.size + 1, 8 + 2, none⟩ = some (.int .u64 b1) ∧ w'.cell? ⟨w.heap.size + 1, 8 + 3, none⟩ = some (.string s1) ∧ w'.cell? ⟨w.heap.size + 1, 8 + 4, none⟩ = some (.slice a1 m1 n1) ∧ w'.cell? ⟨w.heap.size, 25, none⟩ = some (.int .i64 k2) ∧ w'.cell? ⟨w.heap.size, 25 + 1, none⟩ = some (.int .i64 x2) ∧ w'.cell? ⟨w.heap.size, 25 + 2, none⟩ = some (.int .u64 b2) ∧ w'.cell? ⟨w.heap.size, 25 + 3, none⟩ = some (.string s2) ∧ w'.cell? ⟨w.heap.size, 25 + 4, none⟩ = some (.slice a2 m2 n2) ∧ w'.cell? ⟨w.heap.size + 1, 25, none⟩ = some (.int .i64 k3) ∧ w'.cell? ⟨w.heap.size + 1, 25 + 1, none⟩ = some (.int .i64 x3) ∧ w'.cell? ⟨w.heap.size + 1, 25 + 2, none⟩ = some (.int .u64 b3) ∧ w'.cell? ⟨w.heap.size + 1, 25 + 3, none⟩ = some (.string s3) ∧ w'.cell? ⟨w.heap.size + 1, 25 + 4, none⟩ = some (.slice a3 m3 n3) ∧ w'.cell? ⟨w.heap.size, 23, none⟩ = some (.slice ta s.tm.length tc) ∧ w'.cell? ⟨w.heap.size + 1, 23, none⟩ = some (.slice ta2 s.tm.length tc2) ∧ w'.cell? ⟨w.heap.size, 24, none⟩ = some (.slice ua s.up.length uc) ∧ w'.cell? ⟨w.heap.size + 1, 24, none⟩ = some (.slice ua2 s.up.length uc2))) (by kernel_rfl) (HSX.out _ HS0.out) (fun hHeld => ?_)
  change wpAnyH _ _ _ _ _ _ _ _ (World.drew _)
  refine wpAnyH_take (i := 0) (oi := { dst := some 5, op := Go.Op.load 33 (Go.Operand.tmp 2), type := 33, pos := "state.go:49", after := #[], guard := none }) (v := _) rfl (by kernel_rfl) (by kernel_rfl) (by kernel_rfl) (fun _ _ _ h => h) (yieldsIf_load_mid rfl 33 _ rfl w.heap.size 0 rfl cs.toList _ (fun w h => range0 h.1) Tryz.underlying33 rfl hiC) hHeld ?_
  simp only [Act.put, List.setIfInBounds_toArray, List.set_cons_zero, List.set_cons_succ]
  refine wpAnyH_take (i := 2) (oi := { dst := some 7, op := Go.Op.load 33 (Go.Operand.tmp 3), type := 33, pos := "state.go:49", after := #[], guard := none }) (v := _) rfl (by kernel_rfl) (by kernel_rfl) (by kernel_rfl) (fun _ _ _ h => h) (yieldsIf_load_mid rfl 33 _ rfl (w.heap.size + 1) 0 rfl ds.toList _ (fun w h => range0 h.2.1) Tryz.underlying33 rfl hiD) hHeld ?_
  simp only [Act.put, List.setIfInBounds_toArray, List.set_cons_zero, List.set_cons_succ]
  refine wpAnyH_ready (rs := [1]) (by kernel_rfl) (by simp) ?_
  refine AllReadyH.cons (o := { dst := some 6, op := Go.Op.call { callee := Go.Callee.value (Go.Operand.func 35), args := #[Go.Operand.tmp 5], argTypes := #[33] }, type := 64, pos := "state.go:49", after := #[{ on := 0, ground := Go.Ground.data }], guard := none }) rfl (fun K hK => ?_) AllReadyH.nil
  go_simp
  refine (K1.out _ HB0.out).mono ?_
  rintro e w1 ⟨rfl, hb⟩
  have HBw1 : Hid (Below w.heap.size w w1) := bel2 HB0.out hb
  have HSw1 : Hid (SmQ w1) := (HSS.out _ _ HS0.out hb)
  clear hb
  refine hK.out _ _ (HSX.out _ HSw1.out) (fun hHeld => ?_)
  clear hK K
  refine wpAnyH_ready (rs := [3]) (by kernel_rfl) (by simp) ?_
  refine AllReadyH.cons (o := { dst := some 8, op := Go.Op.call { callee := Go.Callee.value (Go.Operand.func 35), args := #[Go.Operand.tmp 7], argTypes := #[33] }, type := 64, pos := "state.go:49", after := #[{ on := 2, ground := Go.Ground.data }, { on := 1, ground := Go.Ground.chain }], guard := none }) rfl (fun K hK => ?_) AllReadyH.nil
  go_simp
  refine (K1b.out _ HBw1.out).mono ?_
  rintro e w2 ⟨rfl, hb⟩
  have HBw2 : Hid (Below w.heap.size w w2) := bel2 HBw1.out hb
  have HSw2 : Hid (SmQ w2) := (HSS.out _ _ HSw1.out hb)
  clear hb
  refine hK.out _ _ (HSX.out _ HSw2.out) (fun hHeld => ?_)
  clear hK K
  refine wpAnyH_take (i := 4) (oi := { dst := some 9, op := Go.Op.binOp Go.BinOp.eql 64 (Go.Operand.tmp 6) (Go.Operand.tmp 8) 64, type := 4, pos := "state.go:49", after := #[{ on := 1, ground := Go.Ground.data }, { on := 3, ground := Go.Ground.data }], guard := none }) (v := ?_) rfl (by kernel_rfl) (by kernel_rfl) (by kernel_rfl) (fun _ _ _ h => h) (Or.inl ⟨by rfl, ?_⟩) hHeld ?_
  rotate_left 1
  · (intro w hSw; (try dsimp only at hSw); go_simp <;> with_reducible rfl)
  simp only [Act.put, List.setIfInBounds_toArray, List.set_cons_zero, List.set_cons_succ]
  refine wpAnyH_take (i := 5) (oi := { dst := some 10, op := Go.Op.move (Go.Operand.tmp 9), type := 4, pos := "state.go:49", after := #[{ on := 4, ground := Go.Ground.data }, { on := 3, ground := Go.Ground.chain }], guard := none }) (v := ?_) rfl (by kernel_rfl) (by kernel_rfl) (by kernel_rfl) (fun _ _ _ h => h) (Or.inl ⟨by rfl, ?_⟩) hHeld ?_
  rotate_left 1
  · (intro w hSw; (try dsimp only at hSw); go_simp <;> with_reducible rfl)
  simp only [Act.put, List.setIfInBounds_toArray, List.set_cons_zero, List.set_cons_succ]
  refine wpAnyH_take (i := 6) (oi := { dst := some 11, op := Go.Op.fieldAddr 33 (Go.Operand.tmp 2) 8, type := 0, pos := "state.go:49", after := #[{ on := 5, ground := Go.Ground.guard }], guard := some (5, true) }) (v := ?_) rfl (by kernel_rfl) (by kernel_rfl) (by kernel_rfl) (fun _ _ _ h => h) (Or.inl ⟨by rfl, ?_⟩) hHeld ?_
  rotate_left 1
  · (intro w hSw; (try dsimp only at hSw); go_simp <;> with_reducible rfl)
  simp only [Act.put, List.setIfInBounds_toArray, List.set_cons_zero, List.set_cons_succ]
  refine wpAnyH_take (i := 7) (oi := { dst := some 12, op := Go.Op.load 25 (Go.Operand.tmp 11), type := 25, pos := "state.go:49", after := #[{ on := 6, ground := Go.Ground.data }, { on := 5, ground := Go.Ground.guard }], guard := some (5, true) }) (v := ?_) rfl (by kernel_rfl) (by kernel_rfl) (by kernel_rfl) (fun _ _ _ h => h) (Or.inl ⟨by rfl, ?_⟩) hHeld ?_
  rotate_left 1
  · (intro w hSw; (try dsimp only at hSw); go_simp <;> with_reducible rfl)
  simp only [Act.put, List.setIfInBounds_toArray, List.set_cons_zero, List.set_cons_succ]
  refine wpAnyH_take (i := 8) (oi := { dst := some 13, op := Go.Op.fieldAddr 33 (Go.Operand.tmp 3) 8, type := 0, pos := "state.go:49", after := #[{ on := 5, ground := Go.Ground.guard }], guard := some (5, true) }) (v := ?_) rfl (by kernel_rfl) (by kernel_rfl) (by kernel_rfl) (fun _ _ _ h => h) (Or.inl ⟨by rfl, ?_⟩) hHeld ?_
  rotate_left 1
  · (intro w hSw; (try dsimp only at hSw); go_simp <;> with_reducible rfl)
  simp only [Act.put, List.setIfInBounds_toArray, List.set_cons_zero, List.set_cons_succ]
  refine wpAnyH_take (i := 9) (oi := { dst := some 14, op := Go.Op.load 25 (Go.Operand.tmp 13), type := 25, pos := "state.go:49", after := #[{ on := 8, ground := Go.Ground.data }, { on := 5, ground := Go.Ground.guard }], guard := some (5, true) }) (v := ?_) rfl (by kernel_rfl) (by kernel_rfl) (by kernel_rfl) (fun _ _ _ h => h) (Or.inl ⟨by rfl, ?_⟩) hHeld ?_
  rotate_left 1
  · (intro w hSw; (try dsimp only at hSw); go_simp <;> with_reducible rfl)
  simp only [Act.put, List.setIfInBounds_toArray, List.set_cons_zero, List.set_cons_succ]
  refine wpAnyH_ready (rs := [10]) (by kernel_rfl) (by simp) ?_
  refine AllReadyH.cons (o := { dst := some 15, op := Go.Op.call { callee := Go.Callee.value (Go.Operand.func 36), args := #[Go.Operand.tmp 12, Go.Operand.tmp 14], argTypes := #[25, 25] }, type := 4, pos := "state.go:49", after := #[{ on := 7, ground := Go.Ground.data }, { on := 9, ground := Go.Ground.data }, { on := 5, ground := Go.Ground.chain }, { on := 5, ground := Go.Ground.guard }], guard := some (5, true) }) rfl (fun K hK => ?_) AllReadyH.nil
  go_simp
  refine (K2.out _ HBw2.out).mono ?_
  rintro e wa ⟨rfl, hb⟩
  have HBwa : Hid (Below w.heap.size w wa) := bel2 HBw2.out hb
  have HSwa : Hid (SmQ wa) := (HSS.out _ _ HSw2.out hb)
  clear hb
  refine hK.out _ _ (HSX.out _ HSwa.out) (fun hHeld => ?_)
  clear hK K
  refine wpAnyH_take (i := 11) (oi := { dst := some 16, op := Go.Op.pick (Go.Operand.tmp 10) (Go.Operand.tmp 15) (Go.Operand.const (Go.Value.bool false)), type := 4, pos := "state.go:49", after := #[{ on := 5, ground := Go.Ground.data }, { on := 10, ground := Go.Ground.data }], guard := none }) (v := ?_) rfl (by kernel_rfl) (by kernel_rfl) (by kernel_rfl) (fun _ _ _ h => h) (Or.inl ⟨by rfl, ?_⟩) hHeld ?_
  rotate_left 1
  · (intro w hSw; (try dsimp only at hSw); go_simp <;> with_reducible rfl)
  simp only [Act.put, List.setIfInBounds_toArray, List.set_cons_zero, List.set_cons_succ]
  refine wpAnyH_take (i := 12) (oi := { dst := some 17, op := Go.Op.move (Go.Operand.tmp 16), type := 4, pos := "state.go:49", after := #[{ on := 11, ground := Go.Ground.data }, { on := 10, ground := Go.Ground.chain }], guard := none }) (v := ?_) rfl (by kernel_rfl) (by kernel_rfl) (by kernel_rfl) (fun _ _ _ h => h) (Or.inl ⟨by rfl, ?_⟩) hHeld ?_
  rotate_left 1
  · (intro w hSw; (try dsimp only at hSw); go_simp <;> with_reducible rfl)
  simp only [Act.put, List.setIfInBounds_toArray, List.set_cons_zero, List.set_cons_succ]
  refine wpAnyH_take (i := 13) (oi := { dst := some 18, op := Go.Op.fieldAddr 33 (Go.Operand.tmp 2) 15, type := 0, pos := "state.go:49", after := #[{ on := 12, ground := Go.Ground.guard }], guard := some (12, true) }) (v := ?_) rfl (by kernel_rfl) (by kernel_rfl) (by kernel_rfl) (fun _ _ _ h => h) (Or.inl ⟨by rfl, ?_⟩) hHeld ?_
  rotate_left 1
  · (intro w hSw; (try dsimp only at hSw); go_simp <;> with_reducible rfl)
  simp only [Act.put, List.setIfInBounds_toArray, List.set_cons_zero, List.set_cons_succ]
  refine wpAnyH_take (i := 14) (oi := { dst := some 19, op := Go.Op.load 25 (Go.Operand.tmp 18), type := 25, pos := "state.go:49", after := #[{ on := 13, ground := Go.Ground.data }, { on := 12, ground := Go.Ground.guard }], guard := some (12, true) }) (v := ?_) rfl (by kernel_rfl) (by kernel_rfl) (by kernel_rfl) (fun _ _ _ h => h) (Or.inl ⟨by rfl, ?_⟩) hHeld ?_
  rotate_left 1
  · (intro w hSw; (try dsimp only at hSw); go_simp <;> with_reducible rfl)
  simp only [Act.put, List.setIfInBounds_toArray, List.set_cons_zero, List.set_cons_succ]
  refine wpAnyH_take (i := 15) (oi := { dst := some 20, op := Go.Op.fieldAddr 33 (Go.Operand.tmp 3) 15, type := 0, pos := "state.go:49", after := #[{ on := 12, ground := Go.Ground.guard }], guard := some (12, true) }) (v := ?_) rfl (by kernel_rfl) (by kernel_rfl) (by kernel_rfl) (fun _ _ _ h => h) (Or.inl ⟨by rfl, ?_⟩) hHeld ?_
  rotate_left 1
  · (intro w hSw; (try dsimp only at hSw); go_simp <;> with_reducible rfl)
  simp only [Act.put, List.setIfInBounds_toArray, List.set_cons_zero, List.set_cons_succ]
  refine wpAnyH_take (i := 16) (oi := { dst := some 21, op := Go.Op.load 25 (Go.Operand.tmp 20), type := 25, pos := "state.go:49", after := #[{ on := 15, ground := Go.Ground.data }, { on := 12, ground := Go.Ground.guard }], guard := some (12, true) }) (v := ?_) rfl (by kernel_rfl) (by kernel_rfl) (by kernel_rfl) (fun _ _ _ h => h) (Or.inl ⟨by rfl, ?_⟩) hHeld ?_
  rotate_left 1
  · (intro w hSw; (try dsimp only at hSw); go_simp <;> with_reducible rfl)
  simp only [Act.put, List.setIfInBounds_toArray, List.set_cons_zero, List.set_cons_succ]
  refine wpAnyH_ready (rs := [17]) (by kernel_rfl) (by simp) ?_
  refine AllReadyH.cons (o := { dst := some 22, op := Go.Op.call { callee := Go.Callee.value (Go.Operand.func 36), args := #[Go.Operand.tmp 19, Go.Operand.tmp 21], argTypes := #[25, 25] }, type := 4, pos := "state.go:49", after := #[{ on := 14, ground := Go.Ground.data }, { on := 16, ground := Go.Ground.data }, { on := 12, ground := Go.Ground.chain }, { on := 12, ground := Go.Ground.guard }], guard := some (12, true) }) rfl (fun K hK => ?_) AllReadyH.nil
  go_simp
  refine (K3.out _ HBwa.out).mono ?_
  rintro e wb ⟨rfl, hb⟩
  have HBwb : Hid (Below w.heap.size w wb) := bel2 HBwa.out hb
  have HSwb : Hid (SmQ wb) := (HSS.out _ _ HSwa.out hb)
  clear hb
  refine hK.out _ _ (HSX.out _ HSwb.out) (fun hHeld => ?_)
  clear hK K
  refine wpAnyH_take (i := 18) (oi := { dst := some 23, op := Go.Op.pick (Go.Operand.tmp 17) (Go.Operand.tmp 22) (Go.Operand.const (Go.Value.bool false)), type := 4, pos := "state.go:49", after := #[{ on := 12, ground := Go.Ground.data }, { on := 17, ground := Go.Ground.data }], guard := none }) (v := ?_) rfl (by kernel_rfl) (by kernel_rfl) (by kernel_rfl) (fun _ _ _ h => h) (Or.inl ⟨by rfl, ?_⟩) hHeld ?_
  rotate_left 1
  · (intro w hSw; (try dsimp only at hSw); go_simp <;> with_reducible rfl)
  simp only [Act.put, List.setIfInBounds_toArray, List.set_cons_zero, List.set_cons_succ]
  refine wpAnyH_take (i := 19) (oi := { dst := some 24, op := Go.Op.move (Go.Operand.tmp 23), type := 4, pos := "state.go:49", after := #[{ on := 18, ground := Go.Ground.data }, { on := 17, ground := Go.Ground.chain }], guard := none }) (v := ?_) rfl (by kernel_rfl) (by kernel_rfl) (by kernel_rfl) (fun _ _ _ h => h) (Or.inl ⟨by rfl, ?_⟩) hHeld ?_
  rotate_left 1
  · (intro w hSw; (try dsimp only at hSw); go_simp <;> with_reducible rfl)
  simp only [Act.put, List.setIfInBounds_toArray, List.set_cons_zero, List.set_cons_succ]
  refine wpAnyH_take (i := 20) (oi := { dst := some 25, op := Go.Op.fieldAddr 33 (Go.Operand.tmp 2) 13, type := 0, pos := "state.go:49", after := #[{ on := 19, ground := Go.Ground.guard }], guard := some (19, true) }) (v := ?_) rfl (by kernel_rfl) (by kernel_rfl) (by kernel_rfl) (fun _ _ _ h => h) (Or.inl ⟨by rfl, ?_⟩) hHeld ?_
  rotate_left 1
  · (intro w hSw; (try dsimp only at hSw); go_simp <;> with_reducible rfl)
  simp only [Act.put, List.setIfInBounds_toArray, List.set_cons_zero, List.set_cons_succ]
  refine wpAnyH_take (i := 21) (oi := { dst := some 26, op := Go.Op.load 30 (Go.Operand.tmp 25), type := 30, pos := "state.go:49", after := #[{ on := 20, ground := Go.Ground.data }, { on := 19, ground := Go.Ground.guard }], guard := some (19, true) }) (v := ?_) rfl (by kernel_rfl) (by kernel_rfl) (by kernel_rfl) (fun _ _ _ h => h) (Or.inl ⟨by rfl, ?_⟩) hHeld ?_
  rotate_left 1
  · (intro w hSw; (try dsimp only at hSw); go_simp <;> with_reducible rfl)
  simp only [Act.put, List.setIfInBounds_toArray, List.set_cons_zero, List.set_cons_succ]
  refine wpAnyH_take (i := 22) (oi := { dst := some 27, op := Go.Op.fieldAddr 33 (Go.Operand.tmp 3) 13, type := 0, pos := "state.go:49", after := #[{ on := 19, ground := Go.Ground.guard }], guard := some (19, true) }) (v := ?_) rfl (by kernel_rfl) (by kernel_rfl) (by kernel_rfl) (fun _ _ _ h => h) (Or.inl ⟨by rfl, ?_⟩) hHeld ?_
  rotate_left 1
  · (intro w hSw; (try dsimp only at hSw); go_simp <;> with_reducible rfl)
  simp only [Act.put, List.setIfInBounds_toArray, List.set_cons_zero, List.set_cons_succ]
  refine wpAnyH_take (i := 23) (oi := { dst := some 28, op := Go.Op.load 30 (Go.Operand.tmp 27), type := 30, pos := "state.go:49", after := #[{ on := 22, ground := Go.Ground.data }, { on := 19, ground := Go.Ground.guard }], guard := some (19, true) }) (v := ?_) rfl (by kernel_rfl) (by kernel_rfl) (by kernel_rfl) (fun _ _ _ h => h) (Or.inl ⟨by rfl, ?_⟩) hHeld ?_
  rotate_left 1
  · (intro w hSw; (try dsimp only at hSw); go_simp <;> with_reducible rfl)
  simp only [Act.put, List.setIfInBounds_toArray, List.set_cons_zero, List.set_cons_succ]
  refine wpAnyH_ready (rs := [24]) (by kernel_rfl) (by simp) ?_
  refine AllReadyH.cons (o := { dst := some 29, op := Go.Op.call { callee := Go.Callee.value (Go.Operand.func 37), args := #[Go.Operand.tmp 26, Go.Operand.tmp 28], argTypes := #[30, 30] }, type := 4, pos := "state.go:50", after := #[{ on := 21, ground := Go.Ground.data }, { on := 23, ground := Go.Ground.data }, { on := 19, ground := Go.Ground.chain }, { on := 19, ground := Go.Ground.guard }], guard := some (19, true) }) rfl (fun K hK => ?_) AllReadyH.nil
  go_simp
  refine (K4.out _ HBwb.out).mono ?_
  rintro e wc ⟨rfl, hb⟩
  have HBwc : Hid (Below w.heap.size w wc) := bel2 HBwb.out hb
  have HSwc : Hid (SmQ wc) := (HSS.out _ _ HSwb.out hb)
  clear hb
  refine hK.out _ _ (HSX.out _ HSwc.out) (fun hHeld => ?_)
  clear hK K
  refine wpAnyH_take (i := 25) (oi := { dst := some 30, op := Go.Op.pick (Go.Operand.tmp 24) (Go.Operand.tmp 29) (Go.Operand.const (Go.Value.bool false)), type := 4, pos := "state.go:49", after := #[{ on := 19, ground := Go.Ground.data }, { on := 24, ground := Go.Ground.data }], guard := none }) (v := ?_) rfl (by kernel_rfl) (by kernel_rfl) (by kernel_rfl) (fun _ _ _ h => h) (Or.inl ⟨by rfl, ?_⟩) hHeld ?_
  rotate_left 1
  · (intro w hSw; (try dsimp only at hSw); go_simp <;> with_reducible rfl)
  simp only [Act.put, List.setIfInBounds_toArray, List.set_cons_zero, List.set_cons_succ]
  refine wpAnyH_take (i := 26) (oi := { dst := some 31, op := Go.Op.move (Go.Operand.tmp 30), type := 4, pos := "state.go:49", after := #[{ on := 25, ground := Go.Ground.data }, { on := 24, ground := Go.Ground.chain }], guard := none }) (v := ?_) rfl (by kernel_rfl) (by kernel_rfl) (by kernel_rfl) (fun _ _ _ h => h) (Or.inl ⟨by rfl, ?_⟩) hHeld ?_
  rotate_left 1
  · (intro w hSw; (try dsimp only at hSw); go_simp <;> with_reducible rfl)
  simp only [Act.put, List.setIfInBounds_toArray, List.set_cons_zero, List.set_cons_succ]
  refine wpAnyH_take (i := 27) (oi := { dst := some 32, op := Go.Op.fieldAddr 33 (Go.Operand.tmp 2) 14, type := 0, pos := "state.go:49", after := #[{ on := 26, ground := Go.Ground.guard }], guard := some (26, true) }) (v := ?_) rfl (by kernel_rfl) (by kernel_rfl) (by kernel_rfl) (fun _ _ _ h => h) (Or.inl ⟨by rfl, ?_⟩) hHeld ?_
  rotate_left 1
  · (intro w hSw; (try dsimp only at hSw); go_simp <;> with_reducible rfl)
  simp only [Act.put, List.setIfInBounds_toArray, List.set_cons_zero, List.set_cons_succ]
  refine wpAnyH_take (i := 28) (oi := { dst := some 33, op := Go.Op.load 31 (Go.Operand.tmp 32), type := 31, pos := "state.go:49", after := #[{ on := 27, ground := Go.Ground.data }, { on := 26, ground := Go.Ground.guard }], guard := some (26, true) }) (v := ?_) rfl (by kernel_rfl) (by kernel_rfl) (by kernel_rfl) (fun _ _ _ h => h) (Or.inl ⟨by rfl, ?_⟩) hHeld ?_
  rotate_left 1
  · (intro w hSw; (try dsimp only at hSw); go_simp <;> with_reducible rfl)
  simp only [Act.put, List.setIfInBounds_toArray, List.set_cons_zero, List.set_cons_succ]
  refine wpAnyH_take (i := 29) (oi := { dst := some 34, op := Go.Op.fieldAddr 33 (Go.Operand.tmp 3) 14, type := 0, pos := "state.go:49", after := #[{ on := 26, ground := Go.Ground.guard }], guard := some (26, true) }) (v := ?_) rfl (by kernel_rfl) (by kernel_rfl) (by kernel_rfl) (fun _ _ _ h => h) (Or.inl ⟨by rfl, ?_⟩) hHeld ?_
  rotate_left 1
  · (intro w hSw; (try dsimp only at hSw); go_simp <;> with_reducible rfl)
  simp only [Act.put, List.setIfInBounds_toArray, List.set_cons_zero, List.set_cons_succ]
  refine wpAnyH_take (i := 30) (oi := { dst := some 35, op := Go.Op.load 31 (Go.Operand.tmp 34), type := 31, pos := "state.go:49", after := #[{ on := 29, ground := Go.Ground.data }, { on := 26, ground := Go.Ground.guard }], guard := some (26, true) }) (v := ?_) rfl (by kernel_rfl) (by kernel_rfl) (by kernel_rfl) (fun _ _ _ h => h) (Or.inl ⟨by rfl, ?_⟩) hHeld ?_
  rotate_left 1
  · (intro w hSw; (try dsimp only at hSw); go_simp <;> with_reducible rfl)
  simp only [Act.put, List.setIfInBounds_toArray, List.set_cons_zero, List.set_cons_succ]
  refine wpAnyH_ready (rs := [31]) (by kernel_rfl) (by simp) ?_
  refine AllReadyH.cons (o := { dst := some 36, op := Go.Op.call { callee := Go.Callee.value (Go.Operand.func 38), args := #[Go.Operand.tmp 33, Go.Operand.tmp 35, Go.Operand.func 39], argTypes := #[31, 31, 68] }, type := 4, pos := "state.go:50", after := #[{ on := 28, ground := Go.Ground.data }, { on := 30, ground := Go.Ground.data }, { on := 26, ground := Go.Ground.chain }, { on := 26, ground := Go.Ground.guard }], guard := some (26, true) }) rfl (fun K hK => ?_) AllReadyH.nil
  go_simp
  refine (K5.out _ HBwc.out).mono ?_
  rintro e wd ⟨rfl, hb⟩
  have HBwd : Hid (Below w.heap.size w wd) := bel2 HBwc.out hb
  have HSwd : Hid (SmQ wd) := (HSS.out _ _ HSwc.out hb)
  clear hb
  refine hK.out _ _ (HSX.out _ HSwd.out) (fun hHeld => ?_)
  clear hK K
  refine wpAnyH_take (i := 32) (oi := { dst := some 37, op := Go.Op.pick (Go.Operand.tmp 31) (Go.Operand.tmp 36) (Go.Operand.const (Go.Value.bool false)), type := 4, pos := "state.go:49", after := #[{ on := 26, ground := Go.Ground.data }, { on := 31, ground := Go.Ground.data }], guard := none }) (v := ?_) rfl (by kernel_rfl) (by kernel_rfl) (by kernel_rfl) (fun _ _ _ h => h) (Or.inl ⟨by rfl, ?_⟩) hHeld ?_
  rotate_left 1
  · (intro w hSw; (try dsimp only at hSw); go_simp <;> with_reducible rfl)
  simp only [Act.put, List.setIfInBounds_toArray, List.set_cons_zero, List.set_cons_succ]
  refine wpAnyH_take (i := 33) (oi := { dst := some 4, op := Go.Op.assign (Go.Operand.tmp 37), type := 4, pos := "state.go:49", after := #[{ on := 32, ground := Go.Ground.data }, { on := 31, ground := Go.Ground.chain }, { on := 0, ground := Go.Ground.phase }, { on := 1, ground := Go.Ground.phase }, { on := 2, ground := Go.Ground.phase }, { on := 3, ground := Go.Ground.phase }, { on := 4, ground := Go.Ground.phase }, { on := 5, ground := Go.Ground.phase }, { on := 6, ground := Go.Ground.phase }, { on := 7, ground := Go.Ground.phase }, { on := 8, ground := Go.Ground.phase }, { on := 9, ground := Go.Ground.phase }, { on := 10, ground := Go.Ground.phase }, { on := 11, ground := Go.Ground.phase }, { on := 12, ground := Go.Ground.phase }, { on := 13, ground := Go.Ground.phase }, { on := 14, ground := Go.Ground.phase }, { on := 15, ground := Go.Ground.phase }, { on := 16, ground := Go.Ground.phase }, { on := 17, ground := Go.Ground.phase }, { on := 18, ground := Go.Ground.phase }, { on := 19, ground := Go.Ground.phase }, { on := 20, ground := Go.Ground.phase }, { on := 21, ground := Go.Ground.phase }, { on := 22, ground := Go.Ground.phase }, { on := 23, ground := Go.Ground.phase }, { on := 24, ground := Go.Ground.phase }, { on := 25, ground := Go.Ground.phase }, { on := 26, ground := Go.Ground.phase }, { on := 27, ground := Go.Ground.phase }, { on := 28, ground := Go.Ground.phase }, { on := 29, ground := Go.Ground.phase }, { on := 30, ground := Go.Ground.phase }, { on := 31, ground := Go.Ground.phase }, { on := 32, ground := Go.Ground.phase }], guard := none }) (v := ?_) rfl (by kernel_rfl) (by kernel_rfl) (by kernel_rfl) (fun _ _ _ h => h) (Or.inl ⟨by rfl, ?_⟩) hHeld ?_
  rotate_left 1
  · (intro w hSw; (try dsimp only at hSw); go_simp <;> with_reducible rfl)
  simp only [Act.put, List.setIfInBounds_toArray, List.set_cons_zero, List.set_cons_succ]
  refine wpAnyH_done (by kernel_rfl) ?_ _
  go_wp2_with fail
  go_ret
  exact ⟨rfl, HBwd.out⟩
end Go.Proofs.YthphgkaifnacbaaGreat
namespace Go.Proofs.YthphgkaifnacbaaGreat
open Go.ChangeShapes Go.WideShapes Go.ChangeAt Go.RowKit
/-- A state of this Run, with nothing else. -/
def zSr (r : Int) : Array Value := #[.int .i64 r, .int .i64 0, .int .i64 0, .int .i64 0, .int .i64 0, .int .i64 0, .int .i64 0, .string ⟨#[]⟩, .int .i64 0, .int .i64 0, .int .u64 0, .string ⟨#[]⟩, .slice none 0 0, .int .i64 0, .int .u64 0, .int .i64 0, .int .i64 0, .int .i64 0, .int .i64 0, .int .i64 0, .int .i64 0, .bool false, .bool false, .slice none 0 0, .slice none 0 0, .int .i64 0, .int .i64 0, .int .u64 0, .string ⟨#[]⟩, .slice none 0 0, .string ⟨#[]⟩]
def s0 (r : Int) : Sta := ⟨r, 0, 0, 0, 0, 0, 0, ⟨#[]⟩, zE, 0, 0, 0, 0, 0, 0, 0, 0, false, false, [], [], zE, ⟨#[]⟩⟩
theorem s0_rsN (n : Nat) (r : Int) (w : World) : Rs w (n + 1) (zSr r) (s0 r) :=
  { size := rfl, c0 := rfl, c1 := rfl, c2 := rfl, c3 := rfl, c4 := rfl, c5 := rfl, c6 := rfl, c7 := rfl, c13 := rfl, c14 := rfl, c15 := rfl, c16 := rfl, c17 := rfl, c18 := rfl, c19 := rfl, c20 := rfl, c21 := rfl, c22 := rfl, c30 := rfl, inp := ⟨0, 0, 0, ⟨#[]⟩, none, 0, 0, rfl, rfl, rfl, rfl, rfl, zE_is w n⟩, res := ⟨0, 0, 0, ⟨#[]⟩, none, 0, 0, rfl, rfl, rfl, rfl, rfl, zE_is w n⟩, tm := ⟨none, 0, rfl, fun i r h => by simp [s0] at h⟩, up := ⟨none, 0, [], rfl, rfl, fun i r h => by simp at h, fun i r u h => by simp at h⟩ }
theorem s0_rs (r : Int) (w : World) : Rs w 1 (zSr r) (s0 r) := s0_rsN 0 r w
/-- An event of this kind and name, with nothing else. -/
def zEk (k : Int) (s : ByteArray) : Array Value := #[.int .i64 k, .int .i64 0, .int .i64 0, .int .i64 0, .string s, .int .i64 0, .int .i64 0, .int .u64 0, .string ⟨#[]⟩, .slice none 0 0, .int .i64 0, .int .u64 0, .int .i64 0]
def e0 (k : Int) (s : ByteArray) : Ev := ⟨k, 0, 0, 0, s, zE, 0, 0, 0⟩
theorem e0_is (k : Int) (s : ByteArray) (w : World) : IsEv (Is w 1) (zEk k s) (e0 k s) :=
  { size := rfl, c0 := rfl, c1 := rfl, c2 := rfl, c3 := rfl, c4 := rfl, v := ⟨0, 0, 0, ⟨#[]⟩, none, 0, 0, rfl, rfl, rfl, rfl, rfl, zE_is w 0⟩, c10 := rfl, c11 := rfl, c12 := rfl }
theorem small0 : SmallW 1 zE := ⟨by decide, fun i t h => by simp at h⟩
theorem sms0 (r : Int) : SmS 1 (s0 r) := ⟨small0, small0, fun i u h => by simp [s0] at h⟩
theorem zE_may : May 1 zE := by
  refine ⟨?_, by decide +kernel⟩
  refine ⟨?_, by decide, fun i t h => by simp at h⟩
  unfold Fits FitsB
  exact ⟨by decide, by decide, .inr rfl, .inr rfl, by decide +kernel, .inr (by decide +kernel), by decide, .inr rfl, by decide⟩
theorem may1 : MayE 1 (e0 1 ⟨#[116]⟩) := ⟨by decide +kernel, by decide +kernel, by decide +kernel, .inl ⟨by decide +kernel, zE_may⟩, by decide +kernel⟩
theorem may3 : MayE 1 (e0 3 ⟨#[]⟩) := ⟨by decide +kernel, by decide +kernel, by decide +kernel, .inr ⟨by decide +kernel, rfl⟩, by decide +kernel⟩
def StP (code : Int) (w : World) (e : Ending) (w' : World) : Prop := (∃ cs', e = .returned (.tuple #[.agg cs', .int .i64 code]) ∧ cs'.size = 31 ∧ (∀ (j : Nat) (v : Value), cs'[j]? = some v → v.oneCell' = true) ∧ (code = 0 → cs'[1]? = some (.int .i64 1) ∧ cs'[2]? = some (.int .i64 1))) ∧ Below w.heap.size w w'
theorem start_calls (w : World) : Calls Tryz.prog 16 #[.agg (zSr 1), .agg (zEk 1 ⟨#[116]⟩)] w (StP 0 w) := by
  refine (step_calls 0 _ _ (s0 1) (e0 1 ⟨#[116]⟩) w (s0_rs 1 w) (e0_is _ _ w) (by decide) (sms0 1) small0 (by decide) (by decide)).mono ?_
  rintro e w' ⟨⟨cs', code, s', rfl, hs, hp⟩, hb⟩
  have hc : code = 0 := (hs.1 may1).trans (by decide +kernel)
  subst hc
  have he : s' = ch1 (s0 1) (e0 1 ⟨#[116]⟩) := hs.2.2.trans (by rw [if_pos rfl]; exact chg_1 _ _ rfl)
  subst he
  have h2 := hp.c2
  rw [show (ch1 (s0 1) (e0 1 ⟨#[116]⟩)).count = 1 from wr_add (by decide) (by decide)] at h2
  exact ⟨⟨cs', rfl, hp.size, hp.one, fun _ => ⟨hp.c1, h2⟩⟩, hb⟩
theorem early_calls (w : World) : Calls Tryz.prog 16 #[.agg (zSr 0), .agg (zEk 3 ⟨#[]⟩)] w (StP 20 w) := by
  refine (step_calls 0 _ _ (s0 0) (e0 3 ⟨#[]⟩) w (s0_rs 0 w) (e0_is _ _ w) (by decide) (sms0 0) small0 (by decide) (by decide)).mono ?_
  rintro e w' ⟨⟨cs', code, s', rfl, hs, hp⟩, hb⟩
  have hc : code = 20 := (hs.1 may3).trans (by decide +kernel)
  subst hc
  exact ⟨⟨cs', rfl, hp.size, hp.one, fun h => by cases h⟩, hb⟩
set_option maxHeartbeats 2000000 in
set_option maxRecDepth 100000 in
theorem awake_calls (w : World) : Calls Tryz.prog 7 #[] w fun e w' => e = .returned (.bool true) ∧ Below w.heap.size w w' := by
  go_enter Tryz.func7, Tryz.ntmps7
  go_wp2_with fail
  refine Calls.mono (start_calls _) ?_
  rintro e w1 ⟨⟨c1, rfl, s1, o1, xx⟩, hb1⟩
  obtain ⟨x1, x2⟩ := xx rfl
  clear xx
  have hi1 := info33s c1 s1
  have z1 : zS.size = c1.size := s1.symm
  have a1 := all_one o1
  have n1 : (w1.alloc (.cells zS 33)).heap[w1.heap.size]? = some (.cells zS 33 (0, 0)) := heap_alloc_new w1 _
  clear s1 o1
  go_upto_region 2 with (refine wpList_store_row rfl 33 _ _ rfl w1.heap.size c1 rfl rfl 33 zS n1 hi1 z1 a1 ?_)
  rw [World.setRow_alloc_new]
  have r1 : (w1.alloc (.cells c1 33)).heap[w1.heap.size]? = some (.cells c1 33 (0, 0)) := heap_alloc_new w1 _
  have b1 : Hid (Below w.heap.size w (w1.alloc (.cells c1 33))) := bel2 hb1 (bel1 w1 _)
  clear n1 hb1
  generalize w1.alloc (.cells c1 33) = W1 at r1 b1 ⊢
  go_wp2_with fail
  refine Calls.mono (early_calls _) ?_
  rintro e w2 ⟨⟨c2, rfl, s2, o2, -⟩, hb2⟩
  have hi2 := info33s c2 s2
  have z2 : zS.size = c2.size := s2.symm
  have a2 := all_one o2
  have n2 : (w2.alloc (.cells zS 33)).heap[w2.heap.size]? = some (.cells zS 33 (0, 0)) := heap_alloc_new w2 _
  have r2 := row_below hb2 r1
  have b2 : Hid (Below w.heap.size w w2) := bel2 b1.out hb2
  clear s2 o2 r1 hb2
  go_upto_region 3 with (refine wpList_store_row rfl 33 _ _ rfl w2.heap.size c2 rfl rfl 33 zS n2 hi2 z2 a2 ?_)
  rw [World.setRow_alloc_new]
  have r3 := row_below (bel1 w2 (.cells c2 33)) r2
  have b3 : Hid (Below w.heap.size w (w2.alloc (.cells c2 33))) := bel2 b2.out (bel1 w2 _)
  clear n2 r2
  generalize w2.alloc (.cells c2 33) = W2 at r3 b3 ⊢
  have g3 : ∀ j, W2.cell? ⟨w1.heap.size, j, none⟩ = c1[j]? := fun j => cell_of_row W2 _ j c1 33 (0, 0) r3
  go_wp2_with (refine wpList_load_rowG rfl 33 _ rfl w1.heap.size rfl 33 c1 (0, 0) _ r3 Tryz.underlying33 rfl hi1 ?_)
  refine Calls.mono (running_calls c1 1 _ x1) ?_
  rintro e w3 ⟨rfl, hb3⟩
  have b4 : Hid (Below w.heap.size w w3) := bel2 b3.out hb3
  clear hb3
  go_wp2_with fail
  go_ret
  exact ⟨rfl, b4.out⟩
set_option maxHeartbeats 1000000 in
theorem few_yes (cs : Array Value) (ta ua : Option Addr) (tl tc ul uc : Nat) (w : World) (h : cs[23]? = some (.slice ta tl tc)) (k : cs[24]? = some (.slice ua ul uc)) (h1 : (tl : Int) ≤ 60) (h2 : (ul : Int) ≤ 60) : Calls Tryz.prog 6 #[.agg cs] w fun e w' => e = .returned (.bool true) ∧ Below w.heap.size w w' := by
  go_enter Tryz.func6, Tryz.ntmps6
  go_wp2_with fail
  go_ret
  exact ⟨rfl, bel1 _ _⟩
set_option maxHeartbeats 1000000 in
theorem few_no (cs : Array Value) (ta ua : Option Addr) (tl tc ul uc : Nat) (w : World) (h : cs[23]? = some (.slice ta tl tc)) (k : cs[24]? = some (.slice ua ul uc)) (hn : ¬ (tl ≤ 60 ∧ ul ≤ 60)) : Calls Tryz.prog 6 #[.agg cs] w fun e w' => e = .returned (.bool false) ∧ Below w.heap.size w w' := by
  by_cases h1 : (tl : Int) ≤ 60
  · have h2 : (60 : Int) < (ul : Int) := by omega
    have d2 : decide ((ul : Int) ≤ 60) = false := decide_eq_false (by omega)
    clear hn
    go_enter Tryz.func6, Tryz.ntmps6
    go_wp2_with fail
    go_ret
    exact ⟨rfl, bel1 _ _⟩
  · have d1 : decide ((tl : Int) ≤ 60) = false := decide_eq_false h1
    clear hn
    go_enter Tryz.func6, Tryz.ntmps6
    go_wp2_with fail
    go_ret
    exact ⟨rfl, bel1 _ _⟩
end Go.Proofs.YthphgkaifnacbaaGreat
namespace Go.Proofs.YthphgkaifnacbaaGreat
open Go.ChangeShapes Go.WideShapes Go.ChangeAt Go.RowKit
theorem chg_run (s : Sta) (x : Ev) : (chg s x).run = s.run := by
  simp only [chg, apply_ite Sta.run, ch1, ch2, ch3, ch4, ch5, ch7, ch8, ch9, ch10, ch11, ch12, ch13, ch14, ch15, ch16, ch17, ch18, ch19, ite_self]
theorem chg_pc (s : Sta) (x : Ev) : (chg s x).pc = s.pc ∨ (chg s x).pc = x.c := by
  simp only [chg, apply_ite Sta.pc, ch1, ch2, ch3, ch4, ch5, ch7, ch8, ch9, ch10, ch11, ch12, ch13, ch14, ch15, ch16, ch17, ch18, ch19, ite_self]
  by_cases h : x.k = 1
  · exact .inr (if_pos h)
  · exact .inl (if_neg h)
theorem run_range (run : Int) : 1 ≤ wrap64 (1 + wrap64 ((IntKind.u64.wrap run).tmod 10)) ∧ wrap64 (1 + wrap64 ((IntKind.u64.wrap run).tmod 10)) ≤ 10 := by
  have h0 : 0 ≤ IntKind.u64.wrap run := by
    rw [IntKind.wrap_u64]
    omega
  generalize IntKind.u64.wrap run = u at h0 ⊢
  rw [Int.tmod_eq_emod_of_nonneg h0]
  have h1 : 0 ≤ u % 10 ∧ u % 10 < 10 := by omega
  generalize u % 10 = v at h1 ⊢
  unfold wrap64
  omega
theorem stays_fact {n : Nat} {s : Sta} {x : Ev} (hg : CanP n s ∨ ∃ r, s = sta0 r ∧ 1 ≤ r ∧ r ≤ 10) (hc : s.pc < 18446744073709551616) (hx : x.c < 18446744073709551616) (code : Int) (s' : Sta) (h : StR n s x s' code) : (code = 0 → CanP n s' ∧ s'.run = s.run ∧ s'.pc < 18446744073709551616) ∧ (code ≠ 0 → s' = s) := by
  obtain ⟨h1, h2, h3⟩ := h
  refine ⟨fun e => ?_, fun e => by rw [h3, if_neg e]⟩
  subst e
  rw [if_pos rfl] at h3
  subst h3
  have hm : MayE n x := by
    by_cases hm : MayE n x
    · exact hm
    · exact absurd (h2 hm) (by decide)
  have hr := (h1 hm).symm
  refine ⟨?_, chg_run s x, by rcases chg_pc s x with e | e <;> omega⟩
  rcases hg with hg | ⟨r, rfl, r1, r2⟩
  · exact can_stays hg hm hr
  · exact can_begins r1 r2 hm hr
theorem below_setRow {w W : World} (h : Below w.heap.size w W) (g : Nat) (cs : Array Value) (hg : w.heap.size ≤ g) : Below w.heap.size w (W.setRow g cs) :=
  ⟨h.os, h.tape, h.output, by have := h.size; simp [World.setRow]; omega, fun k hk => (setRow_other W g k cs (by omega)).trans (h.block k hk)⟩
set_option maxHeartbeats 2000000 in
set_option maxRecDepth 100000 in
theorem stays_many (cs es : Array Value) (run : Int) (ta ua : Option Addr) (tl tc ul uc : Nat) (w : World) (hs : cs.size = 31) (h : cs[23]? = some (.slice ta tl tc)) (k : cs[24]? = some (.slice ua ul uc)) (hn : ¬ (tl ≤ 60 ∧ ul ≤ 60)) : Calls Tryz.prog 4 #[.agg cs, .int .i64 run, .agg es] w fun e w' => e = .returned (.bool true) ∧ Below w.heap.size w w' := by
  have hi33 := info33s cs hs
  have KF : Hid (∀ W, Calls Tryz.prog 6 #[.agg cs] W fun e w' => e = .returned (.bool false) ∧ Below W.heap.size W w') := fun W => few_no cs ta ua tl tc ul uc W h k hn
  have KA : Hid (∀ W, Calls Tryz.prog 7 #[] W fun e w' => e = .returned (.bool true) ∧ Below W.heap.size W w') := fun W => awake_calls W
  have r0 : ((w.alloc (.cells cs 33)).alloc (.cells es 43)).heap[w.heap.size]? = some (.cells cs 33 (0, 0)) := heap_alloc2_old _ _ _
  clear hs h k hn
  go_enter Tryz.func4, Tryz.ntmps4
  go_wp2_with (refine wpList_load_rowG rfl 33 _ rfl w.heap.size rfl 33 cs (0, 0) _ r0 Tryz.underlying33 rfl hi33 ?_)
  refine (KF.out _).mono ?_
  rintro e w1 ⟨rfl, hb⟩
  have HB1 : Hid (Below w.heap.size w w1) := bel2 (bel2 (bel1 _ _) (bel1 _ _)) hb
  clear hb KF r0
  go_wp2_with fail
  refine (KA.out w1).mono ?_
  rintro e w5 ⟨rfl, hb5⟩
  have HB5 : Hid (Below w.heap.size w w5) := bel2 HB1.out hb5
  clear hb5 KA
  go_wp2_with fail
  go_ret
  exact ⟨rfl, HB5.out⟩
set_option maxHeartbeats 16000000 in
set_option maxRecDepth 100000 in
theorem stays_walk (n : Nat) (cs es : Array Value) (s : Sta) (x : Ev) (run : Int) (w : World) (h : Rs w (n + 1) cs s) (he : IsEv (Is w (n + 1)) es x) (hpc : s.pc < 18446744073709551616) (hc : x.c < 18446744073709551616) (sm : SmS (n + 1) s) (sx : SmallW (n + 1) x.v) (lt : s.tm.length ≤ 60) (lu : s.up.length ≤ 60) :
    Calls Tryz.prog 4 #[.agg cs, .int .i64 run, .agg es] w fun e w' => e = .returned (.bool true) ∧ Below w.heap.size w w' := by
  have hi33 := info33s cs h.size
  have hi43 := info46s es he.size
  have c0 := h.c0
  obtain ⟨ta, tc, c23, _⟩ := h.tm
  obtain ⟨ua, uc, us, c24, _⟩ := h.up
  have KF : Hid (∀ W, Calls Tryz.prog 6 #[.agg cs] W fun e w' => e = .returned (.bool true) ∧ Below W.heap.size W w') := fun W => few_yes cs ta ua _ tc _ uc W c23 c24 (by omega) (by omega)
  have KA : Hid (∀ W, Calls Tryz.prog 7 #[] W fun e w' => e = .returned (.bool true) ∧ Below W.heap.size W w') := fun W => awake_calls W
  have KC : Hid (∀ W, Below w.heap.size w W → Calls Tryz.prog 11 #[.agg cs] W (BqP (CanP (n + 1) s) W)) := fun W hb => can_calls n cs s W (h.below hb) hpc
  have KS0 : Hid (∀ W, Below w.heap.size w W → Calls Tryz.prog 16 #[.agg cs, .agg es] W (StG n s x W)) := fun W hb => step_calls n cs es s x W (h.below hb) (he.map fun v t h => h.below hb) hc sm sx (by omega) (by omega)
  have KS1 : Hid (∀ r W, Below w.heap.size w W → Calls Tryz.prog 16 #[.agg (zSr r), .agg es] W (StG n (s0 r) x W)) := fun r W hb => step_calls n (zSr r) es (s0 r) x W (s0_rsN n r W) (he.map fun v t h => h.below hb) hc ⟨small0.up (by omega), small0.up (by omega), fun i u h => by cases h⟩ sx (Nat.zero_le _) (Nat.zero_le _)
  have HRs0 : Hid (∀ W, Below w.heap.size w W → Rs W (n + 1) cs s) := fun W hb => h.below hb
  have HK0 : Hid (CanP (n + 1) s → ∀ code s', StR (n + 1) s x s' code → (code = 0 → CanP (n + 1) s' ∧ s'.run = s.run ∧ s'.pc < 18446744073709551616) ∧ (code ≠ 0 → s' = s)) := fun hcan code s' hst => stays_fact (.inl hcan) hpc hc code s' hst
  have HK1 : Hid (∀ r, 1 ≤ r ∧ r ≤ 10 → ∀ code s', StR (n + 1) (s0 r) x s' code → (code = 0 → CanP (n + 1) s' ∧ s'.run = (s0 r).run ∧ s'.pc < 18446744073709551616) ∧ (code ≠ 0 → s' = s0 r)) := fun r hr code s' hst => stays_fact (.inr ⟨r, rfl, hr.1, hr.2⟩) (by show 0 < _; decide) hc code s' hst
  have HL0 : Hid (s.tm.length ≤ 60 ∧ s.up.length ≤ 60) := ⟨lt, lu⟩
  have r0 : ((w.alloc (.cells cs 33)).alloc (.cells es 43)).heap[w.heap.size]? = some (.cells cs 33 (0, 0)) := heap_alloc2_old _ _ _
  have q0 : ((w.alloc (.cells cs 33)).alloc (.cells es 43)).heap[w.heap.size + 1]? = some (.cells es 43 (0, 0)) := heap_alloc2_new _ _ _
  have HZ : Hid (cs.size = 31) := h.size
  clear h he hpc hc sm sx lt lu c23 c24
  go_enter Tryz.func4, Tryz.ntmps4
  go_wp2_with (refine wpList_load_rowG rfl 33 _ rfl w.heap.size rfl 33 cs (0, 0) _ r0 Tryz.underlying33 rfl hi33 ?_)
  refine (KF.out _).mono ?_
  rintro e w1 ⟨rfl, hb⟩
  have HB1 : Hid (Below w.heap.size w w1) := bel2 (bel2 (bel1 _ _) (bel1 _ _)) hb
  have r1 : w1.heap[w.heap.size]? = some (.cells cs 33 (0, 0)) := row_below hb r0
  have q1 : w1.heap[w.heap.size + 1]? = some (.cells es 43 (0, 0)) := row_below hb q0
  clear hb KF r0 q0
  go_wp2_with (refine wpList_load_rowG rfl 33 _ rfl w.heap.size rfl 33 cs (0, 0) _ r1 Tryz.underlying33 rfl hi33 ?_)
  refine (KC.out _ HB1.out).mono ?_
  rintro e W ⟨⟨b, rfl, ib⟩, hb⟩
  have HB : Hid (Below w.heap.size w W) := bel2 HB1.out hb
  have r2 : W.heap[w.heap.size]? = some (.cells cs 33 (0, 0)) := row_below hb r1
  have q2 : W.heap[w.heap.size + 1]? = some (.cells es 43 (0, 0)) := row_below hb q1
  have HIB : Hid (b = true ↔ CanP (n + 1) s) := ib
  clear hb KC r1 q1 HB1 ib
  cases b with
  | true =>
    have HK : Hid (∀ code s', StR (n + 1) s x s' code → (code = 0 → CanP (n + 1) s' ∧ s'.run = s.run ∧ s'.pc < 18446744073709551616) ∧ (code ≠ 0 → s' = s)) := HK0.out (HIB.out.1 rfl)
    have KS := KS0
    have HRs := HRs0
    have HL := HL0
    clear KS1 HK0 HK1 KS0 HRs0 HL0 HIB
    go_wp2_with (first
      | refine wpList_load_rowG rfl 33 _ rfl w.heap.size rfl 33 cs (0, 0) _ r2 Tryz.underlying33 rfl hi33 ?_
      | refine wpList_load_rowG rfl 43 _ rfl (w.heap.size + 1) rfl 43 es (0, 0) _ q2 Tryz.underlying43 rfl hi43 ?_)
    refine (KS.out W HB.out).mono ?_
    rintro e w2 ⟨⟨c1, code, s', rfl, hsr, hps⟩, hb2⟩
    have hi1 := info33s c1 hps.size
    have z1 : zS.size = c1.size := hps.size.symm
    have a1 := all_one hps.one
    have HR : Hid (Rs w2 (n + 1) c1 s') := hps.rs
    have HT : Hid ((code = 0 → CanP (n + 1) s' ∧ s'.run = s.run ∧ s'.pc < 18446744073709551616) ∧ (code ≠ 0 → s' = s)) := HK.out code s' hsr
    have n1 : (w2.alloc (.cells zS 33)).heap[w2.heap.size]? = some (.cells zS 33 (0, 0)) := heap_alloc_new w2 _
    have g2 : w2.heap[w.heap.size]? = some (.cells cs 33 (0, 0)) := row_below hb2 r2
    have HB2 : Hid (Below w.heap.size w w2) := bel2 HB.out hb2
    have x10 := hps.c0
    clear hsr hps hb2 KS
    go_upto_region 6 with (refine wpList_store_row rfl 33 _ _ rfl w2.heap.size c1 rfl rfl 33 zS n1 hi1 z1 a1 ?_)
    rw [World.setRow_alloc_new]
    have r1 : (w2.alloc (.cells c1 33)).heap[w2.heap.size]? = some (.cells c1 33 (0, 0)) := heap_alloc_new w2 _
    have g3 : (w2.alloc (.cells c1 33)).heap[w.heap.size]? = some (.cells cs 33 (0, 0)) := row_below (bel1 w2 _) g2
    have HB3 : Hid (Below w.heap.size w (w2.alloc (.cells c1 33))) := bel2 HB2.out (bel1 w2 _)
    have HR3 : Hid (Rs (w2.alloc (.cells c1 33)) (n + 1) c1 s') := HR.out.below (bel1 w2 _)
    generalize w2.alloc (.cells c1 33) = W3 at r1 g3 HB3 HR3 ⊢
    generalize w2.heap.size = G2 at r1 ⊢
    clear n1 g2 z1 a1
    by_cases hc0 : code = 0
    · subst hc0
      obtain ⟨hcan, hrun, hpc⟩ := HT.out.1 rfl
      have KC1 : Hid (Calls Tryz.prog 11 #[.agg c1] W3 (BqP (CanP (n + 1) s') W3)) := can_calls n c1 s' W3 HR3.out hpc
      have HCan : Hid (CanP (n + 1) s') := hcan
      rw [hrun] at x10
      clear hcan hrun hpc HT HR HR3 HB2
      go_wp2_with (refine wpList_load_rowG rfl 33 _ rfl G2 rfl 33 c1 (0, 0) _ r1 Tryz.underlying33 rfl hi1 ?_)
      refine KC1.out.mono ?_
      rintro e w4 ⟨⟨b1, rfl, i1⟩, hb4⟩
      have e1 : b1 = true := i1.2 HCan.out
      subst e1
      have y1 : w4.cell? ⟨G2, 0, none⟩ = some (.int .i64 s.run) := row_cell (row_below hb4 r1) x10
      have y2 : w4.cell? ⟨w.heap.size, 0, none⟩ = some (.int .i64 s.run) := row_cell (row_below hb4 g3) c0
      have HB4 : Hid (Below w.heap.size w w4) := bel2 HB3.out hb4
      clear i1 hb4 KC1 r1 g3 HB3 HCan
      go_wp2_with fail
      refine (KA.out w4).mono ?_
      rintro e w5 ⟨rfl, hb5⟩
      have HB5 : Hid (Below w.heap.size w w5) := bel2 HB4.out hb5
      clear hb5 KA y1 y2
      go_wp2_with fail
      go_ret
      exact ⟨rfl, HB5.out⟩
    · have hne : (code != 0) = true := by simpa using hc0
      have hs' := HT.out.2 hc0
      have KE : Hid (Calls Tryz.prog 15 #[.agg c1, .agg cs] W3 (YesP W3)) := by
        have hr := HR3.out
        rw [hs'] at hr
        exact sameP_calls (n + 1) c1 cs s W3 hr (HRs.out W3 HB3.out) (by have := HL.out; omega) (by have := HL.out; omega)
      clear hs' hc0 HT HR HR3 HB2 x10
      go_wp2_with (first
        | refine wpList_load_rowG rfl 33 _ rfl G2 rfl 33 c1 (0, 0) _ r1 Tryz.underlying33 rfl hi1 ?_
        | refine wpList_load_rowG rfl 33 _ rfl w.heap.size rfl 33 cs (0, 0) _ g3 Tryz.underlying33 rfl hi33 ?_)
      refine KE.out.mono ?_
      rintro e w4 ⟨rfl, hb4⟩
      have HB4 : Hid (Below w.heap.size w w4) := bel2 HB3.out hb4
      clear hb4 KE r1 g3 HB3
      go_wp2_with fail
      refine (KA.out w4).mono ?_
      rintro e w5 ⟨rfl, hb5⟩
      have HB5 : Hid (Below w.heap.size w w5) := bel2 HB4.out hb5
      clear hb5 KA
      go_wp2_with fail
      go_ret
      exact ⟨rfl, HB5.out⟩
  | false =>
    clear HK0 KS0 HRs0 HL0 HIB c0
    have h1 : ∀ r : Int, (zSr r).all (·.oneCell') = true := fun r => by simp [zSr, Value.oneCell']
    have hzs : ∀ r : Int, cs.size = (zSr r).size := fun r => HZ.out
    have hzi : ∀ r : Int, (Tryz.prog.info? 33).map (·.size) = some (zSr r).size := fun r => info33s _ rfl
    go_upto_region 5 with (refine wpList_store_row rfl 33 _ _ rfl w.heap.size (zSr _) rfl rfl 33 cs r2 (hzi _) (hzs _) (h1 _) ?_)
    obtain ⟨r, hr⟩ : ∃ r, r = wrap64 (1 + wrap64 ((IntKind.u64.wrap run).tmod 10)) := ⟨_, rfl⟩
    rw [← hr]
    have hr10 : 1 ≤ r ∧ r ≤ 10 := by rw [hr]; exact run_range run
    have HK : Hid (∀ code s', StR (n + 1) (s0 r) x s' code → (code = 0 → CanP (n + 1) s' ∧ s'.run = (s0 r).run ∧ s'.pc < 18446744073709551616) ∧ (code ≠ 0 → s' = s0 r)) := HK1.out r hr10
    have KS : Hid (∀ W, Below w.heap.size w W → Calls Tryz.prog 16 #[.agg (zSr r), .agg es] W (StG n (s0 r) x W)) := KS1.out r
    have HRs : Hid (∀ W, Below w.heap.size w W → Rs W (n + 1) (zSr r) (s0 r)) := fun W _ => s0_rsN n r W
    have HL : Hid ((s0 r).tm.length ≤ 60 ∧ (s0 r).up.length ≤ 60) := ⟨Nat.zero_le _, Nat.zero_le _⟩
    have hiz := hzi r
    have r3 : (W.setRow w.heap.size (zSr r)).heap[w.heap.size]? = some (.cells (zSr r) 33 (0, 0)) := setRow_heap W _ _ _ _ _ r2
    have q3 : (W.setRow w.heap.size (zSr r)).heap[w.heap.size + 1]? = some (.cells es 43 (0, 0)) := (setRow_other W _ _ _ (by omega)).trans q2
    have HB' : Hid (Below w.heap.size w (W.setRow w.heap.size (zSr r))) := below_setRow HB.out _ _ (Nat.le_refl _)
    generalize W.setRow w.heap.size (zSr r) = W' at r3 q3 HB' ⊢
    clear hr10 hzs hzi h1 r2 q2 HB KS1 HK1 hr
    go_wp2_with (first
      | refine wpList_load_rowG rfl 33 _ rfl w.heap.size rfl 33 (zSr r) (0, 0) _ r3 Tryz.underlying33 rfl hiz ?_
      | refine wpList_load_rowG rfl 43 _ rfl (w.heap.size + 1) rfl 43 es (0, 0) _ q3 Tryz.underlying43 rfl hi43 ?_)
    refine (KS.out W' HB'.out).mono ?_
    rintro e w2 ⟨⟨c1, code, s', rfl, hsr, hps⟩, hb2⟩
    have hi1 := info33s c1 hps.size
    have z1 : zS.size = c1.size := hps.size.symm
    have a1 := all_one hps.one
    have HR : Hid (Rs w2 (n + 1) c1 s') := hps.rs
    have HT : Hid ((code = 0 → CanP (n + 1) s' ∧ s'.run = (s0 r).run ∧ s'.pc < 18446744073709551616) ∧ (code ≠ 0 → s' = (s0 r))) := HK.out code s' hsr
    have n1 : (w2.alloc (.cells zS 33)).heap[w2.heap.size]? = some (.cells zS 33 (0, 0)) := heap_alloc_new w2 _
    have g2 : w2.heap[w.heap.size]? = some (.cells (zSr r) 33 (0, 0)) := row_below hb2 r3
    have HB2 : Hid (Below w.heap.size w w2) := bel2 HB'.out hb2
    have x10 := hps.c0
    clear hsr hps hb2 KS
    go_upto_region 6 with (refine wpList_store_row rfl 33 _ _ rfl w2.heap.size c1 rfl rfl 33 zS n1 hi1 z1 a1 ?_)
    rw [World.setRow_alloc_new]
    have r1 : (w2.alloc (.cells c1 33)).heap[w2.heap.size]? = some (.cells c1 33 (0, 0)) := heap_alloc_new w2 _
    have g3 : (w2.alloc (.cells c1 33)).heap[w.heap.size]? = some (.cells (zSr r) 33 (0, 0)) := row_below (bel1 w2 _) g2
    have HB3 : Hid (Below w.heap.size w (w2.alloc (.cells c1 33))) := bel2 HB2.out (bel1 w2 _)
    have HR3 : Hid (Rs (w2.alloc (.cells c1 33)) (n + 1) c1 s') := HR.out.below (bel1 w2 _)
    generalize w2.alloc (.cells c1 33) = W3 at r1 g3 HB3 HR3 ⊢
    generalize w2.heap.size = G2 at r1 ⊢
    clear n1 g2 z1 a1
    by_cases hc0 : code = 0
    · subst hc0
      obtain ⟨hcan, hrun, hpc⟩ := HT.out.1 rfl
      have KC1 : Hid (Calls Tryz.prog 11 #[.agg c1] W3 (BqP (CanP (n + 1) s') W3)) := can_calls n c1 s' W3 HR3.out hpc
      have HCan : Hid (CanP (n + 1) s') := hcan
      rw [hrun] at x10
      clear hcan hrun hpc HT HR HR3 HB2
      go_wp2_with (refine wpList_load_rowG rfl 33 _ rfl G2 rfl 33 c1 (0, 0) _ r1 Tryz.underlying33 rfl hi1 ?_)
      refine KC1.out.mono ?_
      rintro e w4 ⟨⟨b1, rfl, i1⟩, hb4⟩
      have e1 : b1 = true := i1.2 HCan.out
      subst e1
      have y1 : w4.cell? ⟨G2, 0, none⟩ = some (.int .i64 (s0 r).run) := row_cell (row_below hb4 r1) x10
      have y2 : w4.cell? ⟨w.heap.size, 0, none⟩ = some (.int .i64 (s0 r).run) := row_cell (row_below hb4 g3) rfl
      have HB4 : Hid (Below w.heap.size w w4) := bel2 HB3.out hb4
      clear i1 hb4 KC1 r1 g3 HB3 HCan
      go_wp2_with fail
      refine (KA.out w4).mono ?_
      rintro e w5 ⟨rfl, hb5⟩
      have HB5 : Hid (Below w.heap.size w w5) := bel2 HB4.out hb5
      clear hb5 KA y1 y2
      go_wp2_with fail
      go_ret
      exact ⟨rfl, HB5.out⟩
    · have hne : (code != 0) = true := by simpa using hc0
      have hs' := HT.out.2 hc0
      have KE : Hid (Calls Tryz.prog 15 #[.agg c1, .agg (zSr r)] W3 (YesP W3)) := by
        have hr := HR3.out
        rw [hs'] at hr
        exact sameP_calls (n + 1) c1 (zSr r) (s0 r) W3 hr (HRs.out W3 HB3.out) (by have := HL.out; omega) (by have := HL.out; omega)
      clear hs' hc0 HT HR HR3 HB2 x10
      go_wp2_with (first
        | refine wpList_load_rowG rfl 33 _ rfl G2 rfl 33 c1 (0, 0) _ r1 Tryz.underlying33 rfl hi1 ?_
        | refine wpList_load_rowG rfl 33 _ rfl w.heap.size rfl 33 (zSr r) (0, 0) _ g3 Tryz.underlying33 rfl hiz ?_)
      refine KE.out.mono ?_
      rintro e w4 ⟨rfl, hb4⟩
      have HB4 : Hid (Below w.heap.size w w4) := bel2 HB3.out hb4
      clear hb4 KE r1 g3 HB3
      go_wp2_with fail
      refine (KA.out w4).mono ?_
      rintro e w5 ⟨rfl, hb5⟩
      have HB5 : Hid (Below w.heap.size w w5) := bel2 HB4.out hb5
      clear hb5 KA
      go_wp2_with fail
      go_ret
      exact ⟨rfl, HB5.out⟩
end Go.Proofs.YthphgkaifnacbaaGreat
namespace Go.Proofs.YthphgkaifnacbaaGreat
open Go.ChangeAt Go.ChangeShapes Go.Deep Go.RowKit Go.WideShapes
theorem list2 {α : Type} : ∀ {l : List α}, l.length = 2 → ∃ a b, l = [a, b]
  | [a, b], _ => ⟨a, b, rfl⟩
theorem list3 {α : Type} : ∀ {l : List α}, l.length = 3 → ∃ a b c, l = [a, b, c]
  | [a, b, c], _ => ⟨a, b, c, rfl⟩
theorem list4 {α : Type} : ∀ {l : List α}, l.length = 4 → ∃ a b c d, l = [a, b, c, d]
  | [a, b, c, d], _ => ⟨a, b, c, d, rfl⟩
theorem list12 {α : Type} : ∀ {l : List α}, l.length = 12 → ∃ a0 a1 a2 a3 a4 a5 a6 a7 a8 a9 a10 a11, l = [a0, a1, a2, a3, a4, a5, a6, a7, a8, a9, a10, a11]
  | [a0, a1, a2, a3, a4, a5, a6, a7, a8, a9, a10, a11], _ => ⟨a0, a1, a2, a3, a4, a5, a6, a7, a8, a9, a10, a11, rfl⟩
theorem list17 {α : Type} : ∀ {l : List α}, l.length = 17 → ∃ a0 a1 a2 a3 a4 a5 a6 a7 a8 a9 a10 a11 a12 a13 a14 a15 a16, l = [a0, a1, a2, a3, a4, a5, a6, a7, a8, a9, a10, a11, a12, a13, a14, a15, a16]
  | [a0, a1, a2, a3, a4, a5, a6, a7, a8, a9, a10, a11, a12, a13, a14, a15, a16], _ => ⟨a0, a1, a2, a3, a4, a5, a6, a7, a8, a9, a10, a11, a12, a13, a14, a15, a16, rfl⟩
theorem list31 {α : Type} : ∀ {l : List α}, l.length = 31 → ∃ a0 a1 a2 a3 a4 a5 a6 a7 a8 a9 a10 a11 a12 a13 a14 a15 a16 a17 a18 a19 a20 a21 a22 a23 a24 a25 a26 a27 a28 a29 a30, l = [a0, a1, a2, a3, a4, a5, a6, a7, a8, a9, a10, a11, a12, a13, a14, a15, a16, a17, a18, a19, a20, a21, a22, a23, a24, a25, a26, a27, a28, a29, a30]
  | [a0, a1, a2, a3, a4, a5, a6, a7, a8, a9, a10, a11, a12, a13, a14, a15, a16, a17, a18, a19, a20, a21, a22, a23, a24, a25, a26, a27, a28, a29, a30], _ => ⟨a0, a1, a2, a3, a4, a5, a6, a7, a8, a9, a10, a11, a12, a13, a14, a15, a16, a17, a18, a19, a20, a21, a22, a23, a24, a25, a26, a27, a28, a29, a30, rfl⟩
theorem cells38 : Tryz.prog.cellsOf 56 = 2 := by kernel_rfl
theorem cells40 : Tryz.prog.cellsOf 37 = 12 := by kernel_rfl
theorem cells27 : Tryz.prog.cellsOf 27 = 3 := by kernel_rfl
theorem cells29 : Tryz.prog.cellsOf 29 = 5 := by kernel_rfl
theorem cells33 : Tryz.prog.cellsOf 33 = 31 := by kernel_rfl
/-- A slice of structs that came in: rows of cells, each read by itself. -/
theorem open_rows {H : Type} {enc : TypeId × Value → H} {W : World} {base : Nat} {spare : Nat → Bool} {held : Bool} {sl el : TypeId} {k : Nat} (hs : Tryz.prog.underlying sl = some (.slice el)) (hc : Tryz.prog.cellsOf el = k) (hk : 0 < k) (fuel : Nat) (cs : List Value) (x : DataW H × List MemPlace)
    (h : DataW.trod enc Tryz.prog W base spare held fuel sl cs = some x) (hwt : ∀ y ∈ x.1.weights Tryz.prog sl, y ≤ reachBytes) :
    ∃ (a : Option Addr) (cap q : Nat) (rows : List (List Value)), cs = [.slice a rows.length cap] ∧ rows.length ≤ 9223372036854775807 ∧ ∀ (i : Nat) r, rows[i]? = some r → r.length = k ∧ (∃ B o, a = some ⟨B, o, none⟩ ∧ ∀ (j : Nat) v, r[j]? = some v → W.cell? ⟨B, o + i * k + j, none⟩ = some v) ∧
      ∃ y, DataW.trod enc Tryz.prog W base spare held q el r = some y ∧ ∀ z ∈ y.1.weights Tryz.prog el, z ≤ reachBytes := by
  rcases DataW.trod_slice hs h with ⟨h4, _⟩ | ⟨a, len, cap, elems, rest, q, hq, h4, h4x, _, hl, hm, he, hx, _, _⟩
  · exact ⟨none, 0, 0, [], by rw [h4]; rfl, by simp, fun i r hr => by simp at hr⟩
  · unfold maxLen at hm
    have helem : ∀ i (hi : i < elems.length), ∀ y ∈ (elems[i]).1.weights Tryz.prog el, y ≤ reachBytes := fun i hi y hy => by
      apply hwt
      rw [h4x]
      simp only [DataW.weights, hs, List.mem_cons, List.mem_append]
      exact .inr (.inl (mem_all (List.mem_map.2 ⟨_, List.getElem_mem hi, rfl⟩) y hy))
    have each : ∀ i, i < len → ∃ r : List Value, r.length = k ∧ (∃ B o, a = ⟨B, o, none⟩ ∧ ∀ (j : Nat) v, r[j]? = some v → W.cell? ⟨B, o + i * k + j, none⟩ = some v) ∧ ∃ y, DataW.trod enc Tryz.prog W base spare held q el r = some y ∧ ∀ z ∈ y.1.weights Tryz.prog el, z ≤ reachBytes := by
      intro i hi
      have key := hx i hi
      rw [List.getElem?_eq_getElem (by omega)] at key
      obtain ⟨cs', k1, k2⟩ := Option.bind_eq_some_iff.1 key
      rw [hc] at k1
      obtain ⟨hl1, hl2, hcell⟩ := World.cells?_some k1
      have hlen : cs'.length = k := by first | exact hl1 | exact hl2
      have hsp : a.spot = none := by
        have key0 := hx 0 (by omega)
        rw [List.getElem?_eq_getElem (by omega)] at key0
        obtain ⟨cs0, k10, _⟩ := Option.bind_eq_some_iff.1 key0
        rw [hc] at k10
        obtain ⟨g1, g2, hcell0⟩ := World.cells?_some k10
        have hl0 : cs0.length = k := by first | exact g1 | exact g2
        have q0 := hcell0 0 (by omega)
        rw [List.getElem?_eq_getElem (by omega)] at q0
        have := plain_addr q0
        simpa [Addr.add] using this
      obtain ⟨B, o, sp⟩ := a
      cases hsp
      refine ⟨cs', hlen, ⟨B, o, rfl, fun j v hj => ?_⟩, _, k2, helem i (by omega)⟩
      have hjl := (List.getElem?_eq_some_iff.1 hj).1
      have := hcell j (by omega)
      rw [addp, addp] at this
      rw [this]
      simpa using hj
    have inh : Inhabited (List Value) := ⟨[]⟩
    obtain ⟨F, hF⟩ := choose_lt each
    refine ⟨some a, cap, q, (List.range len).map F, by rw [h4]; simp, by simp; omega, fun i r hr => ?_⟩
    have hi : i < len := by have := (List.getElem?_eq_some_iff.1 hr).1; simpa using this
    rw [List.getElem?_map, List.getElem?_range hi] at hr
    cases hr
    obtain ⟨h1, ⟨B, o, h2, h3⟩, h5⟩ := hF i hi
    exact ⟨h1, ⟨B, o, by rw [h2], h3⟩, h5⟩
set_option maxRecDepth 100000 in
theorem open_tm {H : Type} {enc : TypeId × Value → H} {W : World} {base : Nat} {spare : Nat → Bool} {held : Bool} (fuel : Nat) (cs : List Value) (x : DataW H × List MemPlace) (h : DataW.trod enc Tryz.prog W base spare held fuel 56 cs = some x) :
    ∃ t : Tm, cs = [.string t.s, .int .i64 t.d] ∧ -9223372036854775808 ≤ t.d ∧ t.d ≤ 9223372036854775807 := by
  obtain ⟨xs, k, hk, hxy, hlen, hxl, hf⟩ := DataW.trod_struct Tryz.underlying56 h
  rw [cells38] at hlen
  obtain ⟨c0, c1, rfl⟩ := list2 hlen
  obtain ⟨y0, y1, rfl⟩ := list2 (l := xs) hxl
  have g0 := hf 0 _ rfl
  have g1 := hf 1 _ rfl
  clear hf hxl hlen hxy h
  simp only [List.getElem?_cons_zero, List.getElem?_cons_succ] at g0 g1
  obtain ⟨n0, e0, _, w0⟩ := DataW.trod_string Tryz.underlying9 g0
  obtain ⟨n1, e1, _, w1⟩ := DataW.trod_int Tryz.underlying3 g1
  cases e0; cases e1
  exact ⟨⟨n0, n1⟩, rfl, lo64 w1⟩
set_option maxRecDepth 100000 in
theorem open_po {H : Type} {enc : TypeId × Value → H} {W : World} {base : Nat} {spare : Nat → Bool} {held : Bool} (fuel : Nat) (cs : List Value) (x : DataW H × List MemPlace) (h : DataW.trod enc Tryz.prog W base spare held fuel 27 cs = some x) :
    ∃ (f : Int) (c : Nat) (m : Int), cs = [.int .i64 f, .int .u64 (c : Int), .int .i64 m] ∧ c < 18446744073709551616 := by
  obtain ⟨xs, k, hk, hxy, hlen, hxl, hf⟩ := DataW.trod_struct Tryz.underlying27 h
  rw [cells27] at hlen
  obtain ⟨c0, c1, c2, rfl⟩ := list3 hlen
  obtain ⟨y0, y1, y2, rfl⟩ := list3 (l := xs) hxl
  have g0 := hf 0 _ rfl
  have g1 := hf 1 _ rfl
  have g2 := hf 2 _ rfl
  clear hf hxl hlen hxy h
  simp only [List.getElem?_cons_zero, List.getElem?_cons_succ] at g0 g1 g2
  obtain ⟨n0, e0, _, w0⟩ := DataW.trod_int Tryz.underlying3 g0
  obtain ⟨n1, e1, _, w1⟩ := DataW.trod_int Tryz.underlying22 g1
  obtain ⟨n2, e2, _, w2⟩ := DataW.trod_int Tryz.underlying3 g2
  cases e0; cases e1; cases e2
  have g1 := lou64 w1
  refine ⟨n0, n1.toNat, n2, ?_, by omega⟩
  rw [Int.toNat_of_nonneg g1.1]
set_option maxRecDepth 100000 in
theorem open_task {H : Type} {enc : TypeId × Value → H} {W : World} {base : Nat} {spare : Nat → Bool} {held : Bool} (fuel : Nat) (cs : List Value) (x : DataW H × List MemPlace) (h : DataW.trod enc Tryz.prog W base spare held fuel 29 cs = some x) :
    ∃ a b c d e : Int, cs = [.int .i64 a, .int .i64 b, .int .i64 c, .int .i64 d, .int .i64 e] := by
  obtain ⟨xs, k, hk, hxy, hlen, hxl, hf⟩ := DataW.trod_struct Tryz.underlying29 h
  rw [cells29] at hlen
  obtain ⟨c0, c1, c2, c3, c4, rfl⟩ := list5 hlen
  obtain ⟨y0, y1, y2, y3, y4, rfl⟩ := list5 (l := xs) hxl
  have g0 := hf 0 _ rfl
  have g1 := hf 1 _ rfl
  have g2 := hf 2 _ rfl
  have g3 := hf 3 _ rfl
  have g4 := hf 4 _ rfl
  clear hf hxl hlen hxy h
  simp only [List.getElem?_cons_zero, List.getElem?_cons_succ] at g0 g1 g2 g3 g4
  obtain ⟨n0, e0, _, _⟩ := DataW.trod_int Tryz.underlying3 g0
  obtain ⟨n1, e1, _, _⟩ := DataW.trod_int Tryz.underlying3 g1
  obtain ⟨n2, e2, _, _⟩ := DataW.trod_int Tryz.underlying3 g2
  obtain ⟨n3, e3, _, _⟩ := DataW.trod_int Tryz.underlying3 g3
  obtain ⟨n4, e4, _, _⟩ := DataW.trod_int Tryz.underlying3 g4
  cases e0; cases e1; cases e2; cases e3; cases e4
  exact ⟨_, _, _, _, _, rfl⟩
theorem isV5 {W : World} {n : Nat} {v0 v1 v2 v3 v4 : Value} {t : Tv} (h : Is W n (.agg #[v0, v1, v2, v3, v4]) t) {cs : Array Value} {p : Nat} (h0 : cs[p]? = some v0) (h1 : cs[p + 1]? = some v1) (h2 : cs[p + 2]? = some v2) (h3 : cs[p + 3]? = some v3) (h4 : cs[p + 4]? = some v4) : V5 (Is W n) cs p t := by
  obtain ⟨k, x, b, s, a, m, c, rfl, rfl, rfl, rfl, rfl⟩ := h.shape
  exact ⟨k, x, b, s, a, m, c, h0, h1, h2, h3, h4, h⟩
set_option maxRecDepth 100000 in
theorem open_up {H : Type} {enc : TypeId × Value → H} {W : World} {base : Nat} {spare : Nat → Bool} {held : Bool} (fuel : Nat) (cs : List Value) (x : DataW H × List MemPlace) (h : DataW.trod enc Tryz.prog W base spare held fuel 37 cs = some x) (hwt : ∀ y ∈ x.1.weights Tryz.prog 37, y ≤ reachBytes) :
    ∃ (u : Up) (n : Nat), IsU (Is W n) cs.toArray u ∧ SmallW n u.v ∧ SmallW n u.o := by
  obtain ⟨xs, q, hk, hxy, hlen, hxl, hf⟩ := DataW.trod_struct Tryz.underlying37 h
  rw [cells40] at hlen
  obtain ⟨a0, a1, a2, a3, a4, a5, a6, a7, a8, a9, a10, a11, rfl⟩ := list12 hlen
  obtain ⟨y0, y1, y2, y3, rfl⟩ := list4 (l := xs) hxl
  have hw1 : ∀ y ∈ y1.1.weights Tryz.prog 25, y ≤ reachBytes := fun y hy => by
    apply hwt
    rw [hxy]
    simp only [DataW.weights, Tryz.underlying37]
    exact DataW.weights_mem_each (j := 1) rfl rfl y hy
  have hw3 : ∀ y ∈ y3.1.weights Tryz.prog 25, y ≤ reachBytes := fun y hy => by
    apply hwt
    rw [hxy]
    simp only [DataW.weights, Tryz.underlying37]
    exact DataW.weights_mem_each (j := 3) rfl rfl y hy
  clear hwt
  have g0 := hf 0 _ rfl
  have g1 := hf 1 _ rfl
  have g2 := hf 2 _ rfl
  have g3 := hf 3 _ rfl
  clear hf hxl hlen hxy h
  simp only [List.getElem?_cons_zero, List.getElem?_cons_succ] at g0 g1 g2 g3
  obtain ⟨s0, p0, _, _⟩ := DataW.trod_string Tryz.underlying9 g0
  obtain ⟨v0, v1, v2, v3, v4, t1, m1, p1, i1, sm1⟩ := open_valW q _ _ g1 hw1
  obtain ⟨n2, p2, _, _⟩ := DataW.trod_int Tryz.underlying3 g2
  obtain ⟨o0, o1, o2, o3, o4, t3, m3, p3, i3, sm3⟩ := open_valW q _ _ g3 hw3
  cases p0; cases p1; cases p2; cases p3
  refine ⟨⟨s0, t1, n2, t3⟩, m1 + m3, ⟨rfl, rfl, isV5 (i1.up (by omega)) rfl rfl rfl rfl rfl, rfl, isV5 (i3.up (by omega)) rfl rfl rfl rfl rfl⟩, sm1.up (by omega), sm3.up (by omega)⟩
set_option maxRecDepth 100000 in
theorem open_sta {H : Type} {enc : TypeId × Value → H} {W : World} {base : Nat} {spare : Nat → Bool} {held : Bool} (fuel : Nat) (cs : List Value) (x : DataW H × List MemPlace) (h : DataW.trod enc Tryz.prog W base spare held fuel 33 cs = some x) (hwt : ∀ y ∈ x.1.weights Tryz.prog 33, y ≤ reachBytes) :
    ∃ (s : Sta) (n : Nat), Rs W n cs.toArray s ∧ SmS n s ∧ s.pc < 18446744073709551616 := by
  obtain ⟨xs, q, hk, hxy, hlen, hxl, hf⟩ := DataW.trod_struct Tryz.underlying33 h
  rw [cells33] at hlen
  obtain ⟨a0, a1, a2, a3, a4, a5, a6, a7, a8, a9, a10, a11, a12, a13, a14, a15, a16, a17, a18, a19, a20, a21, a22, a23, a24, a25, a26, a27, a28, a29, a30, rfl⟩ := list31 hlen
  obtain ⟨y0, y1, y2, y3, y4, y5, y6, y7, y8, y9, y10, y11, y12, y13, y14, y15, y16, rfl⟩ := list17 (l := xs) hxl
  have hw8 : ∀ y ∈ y8.1.weights Tryz.prog 25, y ≤ reachBytes := fun y hy => by
    apply hwt
    rw [hxy]
    simp only [DataW.weights, Tryz.underlying33]
    exact DataW.weights_mem_each (j := 8) rfl rfl y hy
  have hw13 : ∀ y ∈ y13.1.weights Tryz.prog 30, y ≤ reachBytes := fun y hy => by
    apply hwt
    rw [hxy]
    simp only [DataW.weights, Tryz.underlying33]
    exact DataW.weights_mem_each (j := 13) rfl rfl y hy
  have hw14 : ∀ y ∈ y14.1.weights Tryz.prog 31, y ≤ reachBytes := fun y hy => by
    apply hwt
    rw [hxy]
    simp only [DataW.weights, Tryz.underlying33]
    exact DataW.weights_mem_each (j := 14) rfl rfl y hy
  have hw15 : ∀ y ∈ y15.1.weights Tryz.prog 25, y ≤ reachBytes := fun y hy => by
    apply hwt
    rw [hxy]
    simp only [DataW.weights, Tryz.underlying33]
    exact DataW.weights_mem_each (j := 15) rfl rfl y hy
  clear hwt
  have g0 := hf 0 _ rfl
  have g1 := hf 1 _ rfl
  have g2 := hf 2 _ rfl
  have g3 := hf 3 _ rfl
  have g4 := hf 4 _ rfl
  have g5 := hf 5 _ rfl
  have g6 := hf 6 _ rfl
  have g7 := hf 7 _ rfl
  have g8 := hf 8 _ rfl
  have g9 := hf 9 _ rfl
  have g10 := hf 10 _ rfl
  have g11 := hf 11 _ rfl
  have g12 := hf 12 _ rfl
  have g13 := hf 13 _ rfl
  have g14 := hf 14 _ rfl
  have g15 := hf 15 _ rfl
  have g16 := hf 16 _ rfl
  clear hf hxl hlen hxy h
  simp only [List.getElem?_cons_zero, List.getElem?_cons_succ] at g0 g1 g2 g3 g4 g5 g6 g7 g8 g9 g10 g11 g12 g13 g14 g15 g16
  obtain ⟨n0, p0, _, _⟩ := DataW.trod_int Tryz.underlying3 g0
  obtain ⟨n1, p1, _, _⟩ := DataW.trod_int Tryz.underlying3 g1
  obtain ⟨n2, p2, _, _⟩ := DataW.trod_int Tryz.underlying3 g2
  obtain ⟨n3, p3, _, _⟩ := DataW.trod_int Tryz.underlying3 g3
  obtain ⟨n4, p4, _, _⟩ := DataW.trod_int Tryz.underlying3 g4
  obtain ⟨n5, p5, _, _⟩ := DataW.trod_int Tryz.underlying3 g5
  obtain ⟨n6, p6, _, _⟩ := DataW.trod_int Tryz.underlying3 g6
  obtain ⟨s7, p7, _, _⟩ := DataW.trod_string Tryz.underlying9 g7
  obtain ⟨v0, v1, v2, v3, v4, t8, m8, p8, i8, sm8⟩ := open_valW q _ _ g8 hw8
  obtain ⟨f9, c9, m9, p9, q9⟩ := open_po q _ _ g9
  obtain ⟨k0, k1, k2, k3, k4, p10⟩ := open_task q _ _ g10
  obtain ⟨b11, p11, _⟩ := DataW.trod_bool Tryz.underlying4 g11
  obtain ⟨b12, p12, _⟩ := DataW.trod_bool Tryz.underlying4 g12
  obtain ⟨ta, tc, tq, trows, p13, _, ht⟩ := open_rows Tryz.underlying30 cells38 (by decide) q _ _ g13 hw13
  obtain ⟨ua, uc, uq, urows, p14, _, hu⟩ := open_rows Tryz.underlying31 cells40 (by decide) q _ _ g14 hw14
  obtain ⟨o0, o1, o2, o3, o4, t15, m15, p15, i15, sm15⟩ := open_valW q _ _ g15 hw15
  obtain ⟨s16, p16, _, _⟩ := DataW.trod_string Tryz.underlying9 g16
  cases p0; cases p1; cases p2; cases p3; cases p4; cases p5; cases p6; cases p7; cases p8; cases p9; cases p10; cases p11; cases p12; cases p13; cases p14; cases p15; cases p16
  have inh1 : Inhabited Tm := ⟨⟨⟨#[]⟩, 0⟩⟩
  have inh2 : Inhabited (Up × Nat) := ⟨⟨⟨#[]⟩, t8, 0, t8⟩, 0⟩
  have et : ∀ i, i < trows.length → ∃ t : Tm, trows[i]? = some [.string t.s, .int .i64 t.d] := fun i hi => by
    obtain ⟨_, _, y, hy, _⟩ := ht i _ (List.getElem?_eq_getElem hi)
    obtain ⟨t, e, _⟩ := open_tm _ _ _ hy
    exact ⟨t, by rw [List.getElem?_eq_getElem hi, e]⟩
  have eu : ∀ i, i < urows.length → ∃ u : Up × Nat, ∃ r, urows[i]? = some r ∧ IsU (Is W u.2) r.toArray u.1 ∧ SmallW u.2 u.1.v ∧ SmallW u.2 u.1.o := fun i hi => by
    obtain ⟨_, _, y, hy, hz⟩ := hu i _ (List.getElem?_eq_getElem hi)
    obtain ⟨u, n, e⟩ := open_up _ _ _ hy hz
    exact ⟨(u, n), _, List.getElem?_eq_getElem hi, e⟩
  obtain ⟨FT, hFT⟩ := choose_lt et
  obtain ⟨FU, hFU⟩ := choose_lt eu
  obtain ⟨N, hN⟩ := fuel_lt (n := urows.length) (q := fun i N => (FU i).2 ≤ N) (fun _ _ _ h h' => Nat.le_trans h' h) (fun i _ => ⟨_, Nat.le_refl _⟩)
  have hup : ∀ (i : Nat) u, ((List.range urows.length).map fun i => (FU i).1)[i]? = some u → i < urows.length ∧ u = (FU i).1 := fun i u h => by
    have hi : i < urows.length := by have := (List.getElem?_eq_some_iff.1 h).1; simpa using this
    rw [List.getElem?_map, List.getElem?_range hi] at h
    cases h
    exact ⟨hi, rfl⟩
  refine ⟨⟨n0, n1, n2, n3, n4, n5, n6, s7, t8, f9, c9, m9, k0, k1, k2, k3, k4, b11, b12, (List.range trows.length).map FT, (List.range urows.length).map fun i => (FU i).1, t15, s16⟩, m8 + m15 + N, ?_, ⟨sm8.up (by omega), sm15.up (by omega), fun i u h => ?_⟩, q9⟩
  · refine { size := rfl, c0 := rfl, c1 := rfl, c2 := rfl, c3 := rfl, c4 := rfl, c5 := rfl, c6 := rfl, c7 := rfl, c13 := rfl, c14 := rfl, c15 := rfl, c16 := rfl, c17 := rfl, c18 := rfl, c19 := rfl, c20 := rfl, c21 := rfl, c22 := rfl, c30 := rfl, inp := isV5 (i8.up (by omega)) rfl rfl rfl rfl rfl, res := isV5 (i15.up (by omega)) rfl rfl rfl rfl rfl, tm := ⟨ta, tc, by simp, fun i r hr => ?_⟩, up := ⟨ua, uc, urows.map List.toArray, by simp, by simp, fun i r hr => ?_, fun i r u hr h => ?_⟩ }
    · have hi : i < trows.length := by have := (List.getElem?_eq_some_iff.1 hr).1; simpa using this
      rw [List.getElem?_map, List.getElem?_map, List.getElem?_range hi] at hr
      cases hr
      obtain ⟨_, ⟨B, o, h2, h3⟩, _⟩ := ht i _ (hFT i hi)
      refine ⟨rfl, fun j v hj => ?_, B, o, h2, trivial, fun j v hj => h3 j v (by simpa [Tm.cells] using hj)⟩
      have hj2 : [Value.string (FT i).s, .int .i64 (FT i).d][j]? = some v := by simpa [Tm.cells] using hj
      have hm := List.mem_of_getElem? hj2
      simp only [List.mem_cons, List.not_mem_nil, or_false] at hm
      rcases hm with rfl | rfl <;> rfl
    · have hi : i < urows.length := by have := (List.getElem?_eq_some_iff.1 hr).1; simpa using this
      obtain ⟨r', hr', e⟩ := hFU i hi
      rw [List.getElem?_map, hr'] at hr
      cases hr
      obtain ⟨h1, ⟨B, o, h2, h3⟩, _⟩ := hu i _ hr'
      exact ⟨by simpa using h1, e.1.one, B, o, h2, trivial, fun j v hj => h3 j v (by simpa using hj)⟩
    · obtain ⟨hi, rfl⟩ := hup i u h
      obtain ⟨r', hr', e⟩ := hFU i hi
      rw [List.getElem?_map, hr'] at hr
      cases hr
      exact e.1.map fun v t hv => hv.up (by have := hN i hi; omega)
  · obtain ⟨hi, rfl⟩ := hup i u h
    obtain ⟨r', hr', e⟩ := hFU i hi
    exact ⟨e.2.1.up (by have := hN i hi; omega), e.2.2.up (by have := hN i hi; omega)⟩
end Go.Proofs.YthphgkaifnacbaaGreat
namespace Go.Proofs.YthphgkaifnacbaaGreat
open Go.ChangeShapes Go.WideShapes Go.ChangeAt Go.RowKit
theorem cells43 : Tryz.prog.cellsOf 43 = 13 := by kernel_rfl
theorem list13 {α : Type} : ∀ {l : List α}, l.length = 13 → ∃ e0 e1 e2 e3 e4 e5 e6 e7 e8 e9 e10 e11 e12, l = [e0, e1, e2, e3, e4, e5, e6, e7, e8, e9, e10, e11, e12]
  | [e0, e1, e2, e3, e4, e5, e6, e7, e8, e9, e10, e11, e12], _ => ⟨e0, e1, e2, e3, e4, e5, e6, e7, e8, e9, e10, e11, e12, rfl⟩
theorem list7 {α : Type} : ∀ {l : List α}, l.length = 7 → ∃ a b c d e f g, l = [a, b, c, d, e, f, g]
  | [a, b, c, d, e, f, g], _ => ⟨a, b, c, d, e, f, g, rfl⟩
set_option maxRecDepth 100000 in
theorem open_ev {H : Type} {enc : TypeId × Value → H} {W : World} {base : Nat} {spare : Nat → Bool} {held : Bool} (fuel : Nat) (cs : List Value) (x : DataW H × List MemPlace) (h : DataW.trod enc Tryz.prog W base spare held fuel 43 cs = some x) (hwt : ∀ y ∈ x.1.weights Tryz.prog 43, y ≤ reachBytes) :
    ∃ (e : Ev) (nn : Nat), IsEv (Is W (nn + 1)) cs.toArray e ∧ SmallW (nn + 1) e.v ∧ e.c < 18446744073709551616 := by
  obtain ⟨xs, q, hk, hxy, hlen, hxl, hf⟩ := DataW.trod_struct Tryz.underlying43 h
  rw [cells43] at hlen
  obtain ⟨e0, e1, e2, e3, e4, e5, e6, e7, e8, e9, e10, e11, e12, rfl⟩ := list13 hlen
  obtain ⟨y0, y1, y2, y3, y4, y5, y6, rfl⟩ := list7 (l := xs) hxl
  have hw5 : ∀ y ∈ y5.1.weights Tryz.prog 25, y ≤ reachBytes := fun y hy => by
    apply hwt
    rw [hxy]
    simp only [DataW.weights, Tryz.underlying43]
    exact DataW.weights_mem_each (j := 5) rfl rfl y hy
  clear hwt
  have g0 := hf 0 _ rfl
  have g1 := hf 1 _ rfl
  have g2 := hf 2 _ rfl
  have g3 := hf 3 _ rfl
  have g4 := hf 4 _ rfl
  have g5 := hf 5 _ rfl
  have g6 := hf 6 _ rfl
  clear hf hxl hlen hxy h
  simp only [List.getElem?_cons_zero, List.getElem?_cons_succ] at g0 g1 g2 g3 g4 g5 g6
  obtain ⟨n0, p0, _, w0⟩ := DataW.trod_int Tryz.underlying3 g0
  obtain ⟨n1, p1, _, w1⟩ := DataW.trod_int Tryz.underlying3 g1
  obtain ⟨n2, p2, _, w2⟩ := DataW.trod_int Tryz.underlying3 g2
  obtain ⟨n3, p3, _, w3⟩ := DataW.trod_int Tryz.underlying3 g3
  obtain ⟨s4, p4, _, w4⟩ := DataW.trod_string Tryz.underlying9 g4
  cases p0; cases p1; cases p2; cases p3; cases p4
  obtain ⟨v0, v1, v2, v3, v4, tv, nn, p5, hi, hsm⟩ := open_valW q _ _ g5 hw5
  obtain ⟨f, c, m, p6, hp⟩ := open_po q _ _ g6
  cases p5
  cases p6
  cases nn with
  | zero => exact hi.elim
  | succ nn =>
    exact ⟨⟨n0, n1, n2, n3, s4, tv, f, c, m⟩, nn, ⟨rfl, rfl, rfl, rfl, rfl, rfl, isV5 hi rfl rfl rfl rfl rfl, rfl, rfl, rfl⟩, hsm, hp⟩
end Go.Proofs.YthphgkaifnacbaaGreat
namespace Go.Proofs.YthphgkaifnacbaaGreat
open Go.ChangeShapes Go.WideShapes Go.ChangeAt Go.RowKit
theorem Rs.lift {w : World} {n m : Nat} {cs : Array Value} {s : Sta} (h : Rs w n cs s) (hn : n ≤ m) : Rs w m cs s := IsS.map (fun _ _ h => h) (fun _ _ _ hv => hv) (fun _ _ h => h.up hn) h
theorem SmS.lift {n m : Nat} {s : Sta} (h : SmS n s) (hn : n ≤ m) : SmS m s := ⟨h.inp.up hn, h.res.up hn, fun i u hu => ⟨(h.up i u hu).1.up hn, (h.up i u hu).2.up hn⟩⟩
theorem stays_all (n m : Nat) (cs es : Array Value) (s : Sta) (x : Ev) (run : Int) (w : World) (h : Rs w n cs s) (sm : SmS n s) (hpc : s.pc < 18446744073709551616) (he : IsEv (Is w (m + 1)) es x) (sx : SmallW (m + 1) x.v) (hc : x.c < 18446744073709551616) :
    Calls Tryz.prog 4 #[.agg cs, .int .i64 run, .agg es] w fun e w' => e = .returned (.bool true) ∧ Below w.heap.size w w' := by
  by_cases hf : s.tm.length ≤ 60 ∧ s.up.length ≤ 60
  · exact stays_walk (n + m) cs es s x run w (h.lift (by omega)) (he.map fun v t h => h.up (by omega)) hpc hc (sm.lift (by omega)) (sx.up (by omega)) hf.1 hf.2
  · obtain ⟨ta, tc, c23, _⟩ := h.tm
    obtain ⟨ua, uc, us, c24, _⟩ := IsS.up h
    exact stays_many cs es run ta ua _ tc _ uc w h.size c23 c24 hf
end Go.Proofs.YthphgkaifnacbaaGreat
namespace Go.Proofs.YthphgkaifnacbaaGreat
open Go.ChangeShapes Go.WideShapes Go.ChangeAt Go.RowKit
theorem eqS_eq {a b : ByteArray} (h : eqS a b = true) : a = b := tl_inj (by simpa [eqS] using h)
theorem eqS_refl (a : ByteArray) : eqS a a = true := by simp [eqS]
theorem leS_refl (a : ByteArray) : leS a a = true := by simp [leS]
theorem Rz.mem {α : Type} {nm : α → ByteArray} {F : α → Prop} : ∀ {l : List α} {last : ByteArray} {x : α}, Rz nm F last l → x ∈ l → leS (nm x) last = false
  | [], _, _, _, hx => by cases hx
  | t :: l, last, x, h, hx => by
    rcases List.mem_cons.1 hx with rfl | hx
    · exact h.1.1
    · exact leS_lower (Rz.mem h.2 hx) h.1.1
theorem Rz.uniq {α : Type} {nm : α → ByteArray} {F : α → Prop} : ∀ {l : List α} {last : ByteArray} {x y : α}, Rz nm F last l → x ∈ l → y ∈ l → nm x = nm y → x = y
  | [], _, _, _, _, hx, _, _ => by cases hx
  | t :: l, last, x, y, h, hx, hy, e => by
    rcases List.mem_cons.1 hx with hx1 | hx1
    · rcases List.mem_cons.1 hy with hy1 | hy1
      · rw [hx1, hy1]
      · have := Rz.mem h.2 hy1
        rw [← e, hx1, leS_refl] at this
        cases this
    · rcases List.mem_cons.1 hy with hy1 | hy1
      · have := Rz.mem h.2 hx1
        rw [e, hy1, leS_refl] at this
        cases this
      · exact Rz.uniq h.2 hx1 hy1 e
/-- Each update has one behind it. -/
def Fwd (l l' : List Up) : Prop := ∀ u ∈ l, ∃ v ∈ l', v.s = u.s ∧ u.g ≤ v.g ∧ (u.g = 2 → v = u)
theorem fwd_same (l : List Up) : Fwd l l := fun u hu => ⟨u, hu, rfl, Int.le_refl _, fun _ => rfl⟩
theorem fwd_ins (P : Up → Bool) (l : List Up) (x : Up) : Fwd l (insL P l x) := fun u hu => by
  refine ⟨u, ?_, rfl, Int.le_refl _, fun _ => rfl⟩
  unfold insL
  rw [← List.take_append_drop (insI P l) l] at hu
  rcases List.mem_append.1 hu with h | h
  · exact List.mem_append.2 (.inl h)
  · exact List.mem_append.2 (.inr (List.mem_cons_of_mem _ h))
theorem fwd_mod (l : List Up) (j : Nat) (o : Tv) (d : Up) (hd : l[j]? = some d) (hg : d.g = 1) : Fwd l (l.modify j (fun u => { u with g := 2, o := o })) := fun u hu => by
  obtain ⟨i, hi⟩ := List.getElem?_of_mem hu
  by_cases e : j = i
  · subst e
    rw [hd] at hi
    injection hi with hi
    subst hi
    refine ⟨{ d with g := 2, o := o }, List.mem_of_getElem? (i := j) ?_, rfl, by rw [hg]; show (1 : Int) ≤ 2; decide, fun h => by rw [hg] at h; cases h⟩
    rw [List.getElem?_modify, hd]
    simp
  · refine ⟨u, List.mem_of_getElem? (i := i) ?_, rfl, Int.le_refl _, fun _ => rfl⟩
    rw [List.getElem?_modify, hi]
    simp [e]
theorem chg_fwd {n : Nat} {s : Sta} {x : Ev} (hc : CanP n s) (hm : MayE n x) (hr : refC s x = 0) : Fwd s.up (chg s x).up := by
  have h := kn_of hc hm hr
  have hk := hm.kind
  have h1 := h.k1
  have hcase : x.k = 2 ∨ x.k = 3 ∨ (x.k = 4 ∨ x.k = 5 ∨ x.k = 6) ∨ x.k = 7 ∨ x.k = 8 ∨ x.k = 9 ∨ x.k = 10 ∨ x.k = 11 ∨ x.k = 12 ∨ x.k = 13 ∨ x.k = 14 ∨ x.k = 15 ∨ x.k = 16 ∨ x.k = 17 ∨ x.k = 18 ∨ x.k = 19 := by omega
  rcases hcase with e | e | e | e | e | e | e | e | e | e | e | e | e | e | e | e
  · rw [chg_2 s x e]; exact fwd_same _
  · rw [chg_3 s x e]; exact fwd_same _
  · rw [chg_from s x e]
    by_cases hp : 0 < x.n
    · rw [if_pos hp]; exact fwd_same _
    · rw [if_neg hp]; exact fwd_same _
  · rw [chg_7 s x e]; exact fwd_same _
  · rw [chg_8 s x e]; exact fwd_same _
  · rw [chg_9 s x e]; exact fwd_same _
  · rw [chg_10 s x e]; exact fwd_same _
  · rw [chg_11 s x e]; exact fwd_same _
  · rw [chg_12 s x e]; exact fwd_ins _ _ _
  · rw [chg_13 s x e]
    have hf := h.fits
    unfold fitsB at hf
    rw [e] at hf
    have hw : 0 ≤ waAt s x.s := by simpa using hf
    rcases ixI_cases (fun d => eqS d.s x.s && (d.g == 1)) s.up with ⟨j, d, e1, e2, e3, _⟩ | ⟨e1, _⟩
    · have ej : (waAt s x.s).toNat = j := by unfold waAt; rw [e1]; simp
      show Fwd s.up (s.up.modify (waAt s x.s).toNat _)
      rw [ej]
      simp only [Bool.and_eq_true, beq_iff_eq] at e3
      exact fwd_mod _ _ _ d e2 e3.2
    · unfold waAt at hw
      omega
  · rw [chg_14 s x e]; exact fwd_same _
  · rw [chg_15 s x e]; exact fwd_same _
  · rw [chg_16 s x e]; exact fwd_same _
  · rw [chg_17 s x e]; exact fwd_same _
  · rw [chg_18 s x e]; exact fwd_same _
  · rw [chg_19 s x e]; exact fwd_same _
theorem upAt_found {n : Nat} {s : Sta} {v : Up} (h : UpdP n s.up) (hv : v ∈ s.up) : ∃ j : Nat, upAt s v.s = (j : Int) ∧ s.up[j]? = some v := by
  rcases ixI_cases (fun d => eqS d.s v.s) s.up with ⟨j, d, e1, e2, e3, _⟩ | ⟨_, e2⟩
  · have hd := Rz.uniq ((rzU_iff n _ _).1 h.2) (List.mem_of_getElem? e2) hv (eqS_eq e3)
    exact ⟨j, e1, by rw [e2, hd]⟩
  · have := e2 v hv
    rw [eqS_refl] at this
    cases this
theorem chg_small {n : Nat} {s : Sta} {x : Ev} (hs : ∀ (i : Nat) u, s.up[i]? = some u → SmallW n u.v ∧ SmallW n u.o) (hx : SmallW n x.v) (hz : SmallW n zE) : ∀ (i : Nat) u, (chg s x).up[i]? = some u → SmallW n u.v ∧ SmallW n u.o := by
  have key : (chg s x).up = s.up ∨ (chg s x).up = insL (fun d => gtS d.s x.s) s.up ⟨x.s, x.v, 1, zE⟩ ∨ (chg s x).up = s.up.modify (waAt s x.s).toNat (fun u => { u with g := 2, o := x.v }) := by
    simp only [chg, apply_ite Sta.up, ch1, ch2, ch3, ch4, ch5, ch7, ch8, ch9, ch10, ch11, ch12, ch13, ch14, ch15, ch16, ch17, ch18, ch19, ite_self]
    by_cases h12 : x.k = 12
    · simp [h12]
    · by_cases h13 : x.k = 13
      · simp [h13]
      · simp [h12, h13]
  have hs' : ∀ u ∈ s.up, SmallW n u.v ∧ SmallW n u.o := fun u hu => by
    obtain ⟨i, hi⟩ := List.getElem?_of_mem hu
    exact hs i u hi
  intro i u hu
  rcases key with e | e | e
  · rw [e] at hu; exact hs i u hu
  · rw [e] at hu
    have hm := List.mem_of_getElem? hu
    unfold insL at hm
    rcases List.mem_append.1 hm with h | h
    · exact hs' u (List.mem_of_mem_take h)
    · rcases List.mem_cons.1 h with rfl | h
      · exact ⟨hx, hz⟩
      · exact hs' u (List.mem_of_mem_drop h)
  · rw [e, List.getElem?_modify] at hu
    cases hi : s.up[i]? with
    | none => rw [hi] at hu; cases hu
    | some w =>
      rw [hi] at hu
      simp only [Option.map_eq_map, Option.map_some, Option.some.injEq] at hu
      have := hs i w hi
      split at hu
      · subst hu; exact ⟨this.1, hx⟩
      · subst hu; exact this
end Go.Proofs.YthphgkaifnacbaaGreat
namespace Go.Proofs.YthphgkaifnacbaaGreat
open Go.ChangeShapes Go.WideShapes Go.ChangeAt Go.RowKit
/-- What Update tells where there is one. -/
def UdP (n : Nat) (v : Up) (w : World) (e : Ending) (w' : World) : Prop := (∃ us', e = .returned (.tuple #[.agg us', .bool true]) ∧ IsU (Is w' n) us' v) ∧ Below w.heap.size w w'
set_option maxHeartbeats 4000000 in
set_option maxRecDepth 100000 in
theorem update_calls (n : Nat) (cs : Array Value) (s : Sta) (q : ByteArray) (j : Nat) (v : Up) (w : World) (h : Rs w n cs s) (hl : s.up.length ≤ 1000) (hj : upAt s q = (j : Int)) (hv : s.up[j]? = some v) (s1 : SmallW n v.v) (s2 : SmallW n v.o) :
    Calls Tryz.prog 8 #[.agg cs, .string q] w (UdP n v w) := by
  have hi33 := info33s cs h.size
  obtain ⟨ua, uc, c24, hI⟩ := h.rowI
  have KU : Hid (∀ W, Below w.heap.size w W → Calls Tryz.prog 18 #[.agg cs, .string q] W (IxP (j : Int) W)) := fun W hb => by
    have := updateAt_calls n cs s q W (h.below hb) hl
    rwa [hj] at this
  obtain ⟨r, B, o, rfl, l1, z1, i1⟩ := hI.at hv
  have hjl : j < s.up.length := (List.getElem?_eq_some_iff.1 hv).1
  have hjn : (j : Int) < (s.up.length : Int) := by omega
  have hd : decide ((j : Int) < 0) = false := decide_eq_false (by omega)
  have KC : Hid (∀ W, Below w.heap.size w W → Calls Tryz.prog 19 #[.agg r] W (CuP n W v)) := fun W hb => cloneUpdate_calls n r v W (i1.map fun v t h => h.below hb) s1 s2
  have hi1 : (Tryz.prog.info? 37).map (·.size) = some r.toList.length := by rw [Array.length_toList]; exact info40s r z1
  have HL1 : Hid (w.rangeAt B (o + j * 12) r.toList) := l1
  have HQ : Hid (∀ us' w', IsU (Is w' n) us' v → Below w.heap.size w w' → UdP n v w (.returned (.tuple #[.agg us', .bool true])) w') := fun us' w' h1 h2 => ⟨⟨us', rfl, h1⟩, h2⟩
  generalize UdP n v w = Q at HQ ⊢
  have r0 : ((w.alloc (.cells cs 33)).alloc (.cells zU 37)).heap[w.heap.size]? = some (.cells cs 33 (0, 0)) := heap_alloc2_old _ _ _
  have u0 : ((w.alloc (.cells cs 33)).alloc (.cells zU 37)).heap[w.heap.size + 1]? = some (.cells zU 37 (0, 0)) := heap_alloc2_new _ _ _
  clear h hl hj hv s1 s2 hI z1 i1 hjl l1
  generalize s.up.length = m at c24 hjn ⊢
  go_enter Tryz.func8, Tryz.ntmps8
  go_wp2_with (refine wpList_load_rowG rfl 33 _ rfl w.heap.size rfl 33 cs (0, 0) _ r0 Tryz.underlying33 rfl hi33 ?_)
  refine (KU.out _ (bel2 (bel1 _ _) (bel1 _ _))).mono ?_
  rintro e w1 ⟨rfl, hb⟩
  have HB1 : Hid (Below w.heap.size w w1) := bel2 (bel2 (bel1 _ _) (bel1 _ _)) hb
  have g24 : w1.cell? ⟨w.heap.size, 24, none⟩ = some (.slice (some ⟨B, o, none⟩) m uc) := row_cell (row_below hb r0) c24
  have u1 : w1.heap[w.heap.size + 1]? = some (.cells zU 37 (0, 0)) := row_below hb u0
  have l2 : w1.rangeAt B (o + j * 12) r.toList := fun i v hv => cellW (HL1.out i v hv) HB1.out
  clear hb r0 u0 KU hi33 c24
  go_wp2_with (refine wpList_load_mid rfl 37 _ rfl B (o + j * 12) rfl r.toList _ l2 Tryz.underlying37 rfl hi1 ?_)
  refine (KC.out _ HB1.out).mono ?_
  rintro e w2 ⟨⟨us', rfl, hu⟩, hb⟩
  have HB2 : Hid (Below w.heap.size w w2) := bel2 HB1.out hb
  have u2 : w2.heap[w.heap.size + 1]? = some (.cells zU 37 (0, 0)) := row_below hb u1
  have hi2 := info40s us' hu.size
  have o2 : zU.size = us'.size := hu.size.symm
  have a2 := all_one hu.one
  have HU : Hid (IsU (IsM w1.heap.size w2 n) us' v) := hu
  have HS : Hid (w.heap.size + 1 < w1.heap.size) := (Array.getElem?_eq_some_iff.1 u1).1
  clear hb u1 l2 g24 KC hu hi1 HB1
  go_wp2_with (refine wpList_store_row rfl 37 _ _ rfl (w.heap.size + 1) us' rfl rfl 37 zU u2 hi2 o2 a2 ?_)
  have k9 : (w2.setRow (w.heap.size + 1) us').heap[w.heap.size + 1]? = some (.cells us' 37 (0, 0)) := setRow_heap w2 _ _ _ _ _ u2
  have hl : (loadVar 37 ⟨w.heap.size + 1, 0, none⟩).run Tryz.prog (w2.setRow (w.heap.size + 1) us') = .ok (.agg us') (w2.setRow (w.heap.size + 1) us') := run_loadVar_row _ (w.heap.size + 1) 37 37 us' (0, 0) _ k9 Tryz.underlying37 rfl hi2
  refine bodyPost_ret (v := .tuple #[.agg us', .bool true]) (ret_cell_tmp Tryz.results8 _ rfl rfl hl) rfl (HQ.out us' _ ?_ ?_)
  · exact HU.out.map fun v t h => (h.kb (setRow_kb _ _ _) HS.out).is
  · exact below_setRow HB2.out _ _ (by omega)
end Go.Proofs.YthphgkaifnacbaaGreat
namespace Go.Proofs.YthphgkaifnacbaaGreat
open Go.ChangeShapes Go.WideShapes Go.ChangeAt Go.RowKit
theorem IsU.lit {R : Value → Tv → Prop} {us : Array Value} {u : Up} (h : IsU R us u) : ∃ (k0 x0 b0 : Int) (t0 : ByteArray) (a0 : Option Addr) (m0 c0 : Nat) (k1 x1 b1 : Int) (t1 : ByteArray) (a1 : Option Addr) (m1 c1 : Nat), us = #[.string u.s, .int .i64 k0, .int .i64 x0, .int .u64 b0, .string t0, .slice a0 m0 c0, .int .i64 u.g, .int .i64 k1, .int .i64 x1, .int .u64 b1, .string t1, .slice a1 m1 c1] := by
  obtain ⟨k0, x0, b0, t0, a0, m0, c0, v0, v1, v2, v3, v4, _⟩ := h.v
  obtain ⟨k1, x1, b1, t1, a1, m1, c1, w0, w1, w2, w3, w4, _⟩ := h.o
  refine ⟨k0, x0, b0, t0, a0, m0, c0, k1, x1, b1, t1, a1, m1, c1, ?_⟩
  have hs := h.size
  have h0 := h.c0
  have h6 := h.c6
  apply Array.ext_getElem?
  intro i
  match i with
  | 0 => exact h0
  | 1 => exact v0
  | 2 => exact v1
  | 3 => exact v2
  | 4 => exact v3
  | 5 => exact v4
  | 6 => exact h6
  | 7 => exact w0
  | 8 => exact w1
  | 9 => exact w2
  | 10 => exact w3
  | 11 => exact w4
  | i + 12 => rw [Array.getElem?_eq_none (by omega), Array.getElem?_eq_none (by simp)]
/-- A state that has nothing but an update. -/
def su (u : Up) : Sta := ⟨0, 0, 0, 0, 0, 0, 0, ⟨#[]⟩, zE, 0, 0, 0, 0, 0, 0, 0, 0, false, false, [], [u], zE, ⟨#[]⟩⟩
def zSu (g : Nat) : Array Value := #[.int .i64 0, .int .i64 0, .int .i64 0, .int .i64 0, .int .i64 0, .int .i64 0, .int .i64 0, .string ⟨#[]⟩, .int .i64 0, .int .i64 0, .int .u64 0, .string ⟨#[]⟩, .slice none 0 0, .int .i64 0, .int .u64 0, .int .i64 0, .int .i64 0, .int .i64 0, .int .i64 0, .int .i64 0, .int .i64 0, .bool false, .bool false, .slice none 0 0, .slice (some ⟨g, 0, none⟩) 1 1, .int .i64 0, .int .i64 0, .int .u64 0, .string ⟨#[]⟩, .slice none 0 0, .string ⟨#[]⟩]
theorem su_rs {W : World} {n g : Nat} {us : Array Value} {u : Up} (hg : W.heap[g]? = some (.cells us 37 (0, 0))) (hu : IsU (Is W (n + 1)) us u) : Rs W (n + 1) (zSu g) (su u) :=
  { size := rfl, c0 := rfl, c1 := rfl, c2 := rfl, c3 := rfl, c4 := rfl, c5 := rfl, c6 := rfl, c7 := rfl, c13 := rfl, c14 := rfl, c15 := rfl, c16 := rfl, c17 := rfl, c18 := rfl, c19 := rfl, c20 := rfl, c21 := rfl, c22 := rfl, c30 := rfl, inp := ⟨0, 0, 0, ⟨#[]⟩, none, 0, 0, rfl, rfl, rfl, rfl, rfl, zE_is W n⟩, res := ⟨0, 0, 0, ⟨#[]⟩, none, 0, 0, rfl, rfl, rfl, rfl, rfl, zE_is W n⟩, tm := ⟨none, 0, rfl, fun i r h => by cases h⟩, up := ⟨some ⟨g, 0, none⟩, 1, [us], rfl, rfl, fun i r h => by
      match i, h with
      | 0, h =>
        cases h
        exact ⟨hu.size, hu.one, g, 0, rfl, trivial, by rw [Nat.zero_mul, Nat.add_zero]; exact Lies.row hg⟩
      | i + 1, h => simp at h, fun i r v h k => by
      match i, h, k with
      | 0, h, k => cases h; cases k; exact hu
      | i + 1, h, _ => simp at h⟩ }
theorem evcheck_yes (n : Nat) (es : Array Value) (x : Ev) (w : World) (he : IsEv (Is w (n + 1)) es x) (hm : MayE (n + 1) x) : Calls Tryz.prog 17 #[.agg es] w fun e w' => e = .returned (.int .i64 0) ∧ Below w.heap.size w w' := by
  obtain ⟨vk, vx, vb, vs, la, ll, lc, rfl, hv⟩ := he.lit
  refine (evrefcheck_calls n x.v x.k x.t x.n x.d x.s vk vx vb vs la ll lc x.f x.c x.m w hv).mono ?_
  rintro e w' ⟨r, rfl, h1, _, hb⟩
  rw [h1 hm]
  exact ⟨rfl, hb⟩
theorem chg_ct (s : Sta) (x : Ev) : (chg s x).count = wrap64 (s.count + 1) ∧ (chg s x).time = x.t := by
  constructor
  · simp only [chg, apply_ite Sta.count, ch1, ch2, ch3, ch4, ch5, ch7, ch8, ch9, ch10, ch11, ch12, ch13, ch14, ch15, ch16, ch17, ch18, ch19, ite_self]
  · simp only [chg, apply_ite Sta.time, ch1, ch2, ch3, ch4, ch5, ch7, ch8, ch9, ch10, ch11, ch12, ch13, ch14, ch15, ch16, ch17, ch18, ch19, ite_self]
/-- What Step leaves behind of a state that can be. -/
structure Fw (n : Nat) (s : Sta) (x : Ev) (s' : Sta) (code : Int) : Prop where
  may : code = 0 → MayE n x
  ct : code = 0 → s'.count = wrap64 (s.count + 1)
  tm : code = 0 → ¬ s'.time < s.time
  up : ∀ u ∈ s.up, ∃ (j : Nat) (v : Up), upAt s' u.s = (j : Int) ∧ s'.up[j]? = some v ∧ u.g ≤ v.g ∧ (u.g = 2 → v = u)
  len : s'.up.length ≤ 1000
  sm : ∀ (i : Nat) u, s'.up[i]? = some u → SmallW n u.v ∧ SmallW n u.o
theorem fw_of {n : Nat} {s : Sta} {x : Ev} {s' : Sta} {code : Int} (hc : CanP n s) (h : StR n s x s' code) (hs : ∀ (i : Nat) u, s.up[i]? = some u → SmallW n u.v ∧ SmallW n u.o) (hx : SmallW n x.v) (hz : SmallW n zE) : Fw n s x s' code := by
  obtain ⟨h1, h2, h3⟩ := h
  have hm : code = 0 → MayE n x := fun e => by
    by_cases hm : MayE n x
    · exact hm
    · rw [h2 hm] at e; cases e
  by_cases e : code = 0
  · have hmx := hm e
    have hr : refC s x = 0 := (h1 hmx).symm.trans e
    rw [if_pos e] at h3
    subst h3
    have hcan := can_stays hc hmx hr
    obtain ⟨_, _, _, _, ht⟩ := refC_fits hr
    refine ⟨hm, fun _ => (chg_ct s x).1, fun _ => by rw [(chg_ct s x).2]; omega, fun u hu => ?_, by have := hcan.upd.1; omega, chg_small hs hx hz⟩
    obtain ⟨v, hv, e1, e2, e3⟩ := chg_fwd hc hmx hr u hu
    obtain ⟨j, j1, j2⟩ := upAt_found hcan.upd hv
    exact ⟨j, v, by rw [← e1]; exact j1, j2, e2, e3⟩
  · rw [if_neg e] at h3
    subst h3
    refine ⟨hm, fun h => absurd h e, fun h => absurd h e, fun u hu => ?_, by have := hc.upd.1; omega, hs⟩
    obtain ⟨j, j1, j2⟩ := upAt_found hc.upd hu
    exact ⟨j, u, j1, j2, Int.le_refl _, fun _ => rfl⟩
set_option maxHeartbeats 2000000 in
set_option maxRecDepth 100000 in
theorem forward_many (cs es : Array Value) (ta ua : Option Addr) (tl tc ul uc : Nat) (w : World) (hs : cs.size = 31) (h : cs[23]? = some (.slice ta tl tc)) (k : cs[24]? = some (.slice ua ul uc)) (hn : ¬ (tl ≤ 60 ∧ ul ≤ 60)) : Calls Tryz.prog 5 #[.agg cs, .agg es] w fun e w' => e = .returned (.bool true) ∧ Below w.heap.size w w' := by
  have hi33 := info33s cs hs
  have KF : Hid (∀ W, Calls Tryz.prog 6 #[.agg cs] W fun e w' => e = .returned (.bool false) ∧ Below W.heap.size W w') := fun W => few_no cs ta ua tl tc ul uc W h k hn
  have KA : Hid (∀ W, Calls Tryz.prog 7 #[] W fun e w' => e = .returned (.bool true) ∧ Below W.heap.size W w') := fun W => awake_calls W
  have r0 : ((w.alloc (.cells cs 33)).alloc (.cells es 43)).heap[w.heap.size]? = some (.cells cs 33 (0, 0)) := heap_alloc2_old _ _ _
  clear hs h k hn
  go_enter Tryz.func5, Tryz.ntmps5
  go_wp2_with (refine wpList_load_rowG rfl 33 _ rfl w.heap.size rfl 33 cs (0, 0) _ r0 Tryz.underlying33 rfl hi33 ?_)
  refine (KF.out _).mono ?_
  rintro e w1 ⟨rfl, hb⟩
  have HB1 : Hid (Below w.heap.size w w1) := bel2 (bel2 (bel1 _ _) (bel1 _ _)) hb
  clear hb KF r0
  go_wp2_with fail
  refine (KA.out w1).mono ?_
  rintro e w5 ⟨rfl, hb5⟩
  have HB5 : Hid (Below w.heap.size w w5) := bel2 HB1.out hb5
  clear hb5 KA
  go_wp2_with fail
  go_ret
  exact ⟨rfl, HB5.out⟩
set_option maxHeartbeats 32000000 in
set_option maxRecDepth 100000 in
theorem forward_walk (n : Nat) (cs es : Array Value) (s : Sta) (x : Ev) (w : World) (h : Rs w (n + 1) cs s) (he : IsEv (Is w (n + 1)) es x) (hpc : s.pc < 18446744073709551616) (hc : x.c < 18446744073709551616) (sm : SmS (n + 1) s) (sx : SmallW (n + 1) x.v) (lt : s.tm.length ≤ 60) (lu : s.up.length ≤ 60) :
    Calls Tryz.prog 5 #[.agg cs, .agg es] w fun e w' => e = .returned (.bool true) ∧ Below w.heap.size w w' := by
  have hi33 := info33s cs h.size
  have hi43 := info46s es he.size
  have c2 := h.c2
  have c3 := h.c3
  obtain ⟨ta, tc, c23, _⟩ := h.tm
  obtain ⟨ua, uc, c24, hI⟩ := h.rowI
  have KF : Hid (∀ W, Calls Tryz.prog 6 #[.agg cs] W fun e w' => e = .returned (.bool true) ∧ Below W.heap.size W w') := fun W => few_yes cs ta ua _ tc _ uc W c23 c24 (by omega) (by omega)
  have KA : Hid (∀ W, Calls Tryz.prog 7 #[] W fun e w' => e = .returned (.bool true) ∧ Below W.heap.size W w') := fun W => awake_calls W
  have KC : Hid (∀ W, Below w.heap.size w W → Calls Tryz.prog 11 #[.agg cs] W (BqP (CanP (n + 1) s) W)) := fun W hb => can_calls n cs s W (h.below hb) hpc
  have KS : Hid (∀ W, Below w.heap.size w W → Calls Tryz.prog 16 #[.agg cs, .agg es] W (StG n s x W)) := fun W hb => step_calls n cs es s x W (h.below hb) (he.map fun v t h => h.below hb) hc sm sx (by omega) (by omega)
  have KR : Hid (MayE (n + 1) x → ∀ W, Below w.heap.size w W → Calls Tryz.prog 17 #[.agg es] W fun e w' => e = .returned (.int .i64 0) ∧ Below W.heap.size W w') := fun hm W hb => evcheck_yes n es x W (he.map fun v t h => h.below hb) hm
  have HFw : Hid (CanP (n + 1) s → ∀ s' code, StR (n + 1) s x s' code → Fw (n + 1) s x s' code) := fun hcan s' code hst => fw_of hcan hst sm.up sx (small0.up (by omega))
  have HL : Hid (s.up.length ≤ 60) := lu
  have HI : Hid (RowI w (n + 1) ua s.up) := hI
  have r0 : ((w.alloc (.cells cs 33)).alloc (.cells es 43)).heap[w.heap.size]? = some (.cells cs 33 (0, 0)) := heap_alloc2_old _ _ _
  have q0 : ((w.alloc (.cells cs 33)).alloc (.cells es 43)).heap[w.heap.size + 1]? = some (.cells es 43 (0, 0)) := heap_alloc2_new _ _ _
  clear h he hpc hc sm sx lt lu c23 hI
  go_enter Tryz.func5, Tryz.ntmps5
  go_wp2_with (refine wpList_load_rowG rfl 33 _ rfl w.heap.size rfl 33 cs (0, 0) _ r0 Tryz.underlying33 rfl hi33 ?_)
  refine (KF.out _).mono ?_
  rintro e w1 ⟨rfl, hb⟩
  have HB1 : Hid (Below w.heap.size w w1) := bel2 (bel2 (bel1 _ _) (bel1 _ _)) hb
  have r1 : w1.heap[w.heap.size]? = some (.cells cs 33 (0, 0)) := row_below hb r0
  have q1 : w1.heap[w.heap.size + 1]? = some (.cells es 43 (0, 0)) := row_below hb q0
  clear hb KF r0 q0
  go_wp2_with (refine wpList_load_rowG rfl 33 _ rfl w.heap.size rfl 33 cs (0, 0) _ r1 Tryz.underlying33 rfl hi33 ?_)
  refine (KC.out _ HB1.out).mono ?_
  rintro e W ⟨⟨b, rfl, ib⟩, hb⟩
  have HB : Hid (Below w.heap.size w W) := bel2 HB1.out hb
  have r2 : W.heap[w.heap.size]? = some (.cells cs 33 (0, 0)) := row_below hb r1
  have q2 : W.heap[w.heap.size + 1]? = some (.cells es 43 (0, 0)) := row_below hb q1
  have HIB : Hid (b = true ↔ CanP (n + 1) s) := ib
  clear hb KC r1 q1 HB1 ib
  cases b with
  | false =>
    clear KS KR HFw
    go_wp2_with fail
    refine (KA.out _).mono ?_
    rintro e w5 ⟨rfl, hb5⟩
    have HB5 : Hid (Below w.heap.size w w5) := bel2 HB.out hb5
    clear hb5 KA
    go_wp2_with fail
    go_ret
    exact ⟨rfl, HB5.out⟩
  | true =>
    have HFw2 : Hid (∀ s' code, StR (n + 1) s x s' code → Fw (n + 1) s x s' code) := HFw.out (HIB.out.1 rfl)
    clear HFw HIB
    go_upto_region 3 with fail
    go_wp2_with (first
      | refine wpList_load_rowG rfl 33 _ rfl w.heap.size rfl 33 cs (0, 0) _ r2 Tryz.underlying33 rfl hi33 ?_
      | refine wpList_load_rowG rfl 43 _ rfl (w.heap.size + 1) rfl 43 es (0, 0) _ q2 Tryz.underlying43 rfl hi43 ?_)
    refine (KS.out W HB.out).mono ?_
    rintro e w2 ⟨⟨cc, code, s', rfl, hsr, hps⟩, hb2⟩
    have HF : Hid (Fw (n + 1) s x s' code) := HFw2.out s' code hsr
    have hi1 := info33s cc hps.size
    have z1 : zS.size = cc.size := hps.size.symm
    have a1 := all_one hps.one
    have HR : Hid (Rs w2 (n + 1) cc s') := hps.rs
    have n1 : (w2.alloc (.cells zS 33)).heap[w2.heap.size]? = some (.cells zS 33 (0, 0)) := heap_alloc_new w2 _
    have g2 : w2.heap[w.heap.size]? = some (.cells cs 33 (0, 0)) := row_below hb2 r2
    have p2 : w2.heap[w.heap.size + 1]? = some (.cells es 43 (0, 0)) := row_below hb2 q2
    have HB2 : Hid (Below w.heap.size w w2) := bel2 HB.out hb2
    have x12 := hps.c2
    have x13 := hps.c3
    clear hsr hps hb2 KS HFw2 r2 q2 HB
    go_upto_region 4 with (refine wpList_store_row rfl 33 _ _ rfl w2.heap.size cc rfl rfl 33 zS n1 hi1 z1 a1 ?_)
    rw [World.setRow_alloc_new]
    have r3 : (w2.alloc (.cells cc 33)).heap[w2.heap.size]? = some (.cells cc 33 (0, 0)) := heap_alloc_new w2 _
    have g3 : (w2.alloc (.cells cc 33)).heap[w.heap.size]? = some (.cells cs 33 (0, 0)) := row_below (bel1 w2 _) g2
    have p3 : (w2.alloc (.cells cc 33)).heap[w.heap.size + 1]? = some (.cells es 43 (0, 0)) := row_below (bel1 w2 _) p2
    have HB3 : Hid (Below w.heap.size w (w2.alloc (.cells cc 33))) := bel2 HB2.out (bel1 w2 _)
    have HR3 : Hid (Rs (w2.alloc (.cells cc 33)) (n + 1) cc s') := HR.out.below (bel1 w2 _)
    generalize w2.alloc (.cells cc 33) = W3 at r3 g3 p3 HB3 HR3 ⊢
    generalize w2.heap.size = G2 at r3 ⊢
    clear n1 g2 p2 z1 a1 HR HB2
    by_cases hc0 : code = 0
    · subst hc0
      have e12 := HF.out.ct rfl
      rw [e12] at x12
      have hlt : decide (s'.time < s.time) = false := decide_eq_false (HF.out.tm rfl)
      have KR1 : Hid (∀ W, Below w.heap.size w W → Calls Tryz.prog 17 #[.agg es] W fun e w' => e = .returned (.int .i64 0) ∧ Below W.heap.size W w') := KR.out (HF.out.may rfl)
      have y2 : W3.cell? ⟨G2, 2, none⟩ = some (.int .i64 (wrap64 (s.count + 1))) := row_cell r3 x12
      have y3 : W3.cell? ⟨G2, 3, none⟩ = some (.int .i64 s'.time) := row_cell r3 x13
      have v2 : W3.cell? ⟨w.heap.size, 2, none⟩ = some (.int .i64 s.count) := row_cell g3 c2
      have v3 : W3.cell? ⟨w.heap.size, 3, none⟩ = some (.int .i64 s.time) := row_cell g3 c3
      clear e12 KR
      go_wp2_with (refine wpList_load_rowG rfl 43 _ rfl (w.heap.size + 1) rfl 43 es (0, 0) _ p3 Tryz.underlying43 rfl hi43 ?_)
      refine (KR1.out _ HB3.out).mono ?_
      rintro e w4 ⟨rfl, hb⟩
      have r4 : w4.heap[G2]? = some (.cells cc 33 (0, 0)) := row_below hb r3
      have v24 : w4.cell? ⟨w.heap.size, 24, none⟩ = some (.slice ua s.up.length uc) := row_cell (row_below hb g3) c24
      have HB4 : Hid (Below w.heap.size w w4) := bel2 HB3.out hb
      have HR4 : Hid (Rs w4 (n + 1) cc s') := HR3.out.below hb
      have HI4 : Hid (RowI w4 (n + 1) ua s.up) := HI.out.below HB4.out
      clear hb KR1 r3 g3 p3 y2 y3 v2 v3 x12 x13 HB3 HR3 HI hlt
      go_upto_region 6 with fail
      go_wp2_with fail
      generalize hm : s.up.length = m at HL v24 ⊢
      have HM : Hid (s.up.length = m) := hm
      clear hm v24
      go_loopw [8, 9, 10, 51] (fun _ _ _ i wr => ∃ j : Nat, j ≤ m ∧ i = .int .i64 (j : Int) ∧ Hid (Below w4.heap.size w4 wr)) (fun _ _ _ i _ => m - (intOf i).toNat)
      case atStart => exact ⟨0, Nat.zero_le _, rfl, Below.refl _ _⟩
      case round =>
        obtain ⟨j, hj, rfl, HBr⟩ := hrel
        by_cases hlt : j < m
        · obtain ⟨d, hd⟩ : ∃ d, s.up[j]? = some d := ⟨_, List.getElem?_eq_getElem (by rw [HM.out]; exact hlt)⟩
          obtain ⟨r, B, o, rfl, l1, z1, i1⟩ := (HI4.out.below HBr.out).at hd
          obtain ⟨jj, v, e1, e2, e3, e4⟩ := HF.out.up d (List.mem_of_getElem? hd)
          have hgl : decide (v.g < d.g) = false := decide_eq_false (by omega)
          have HV : Hid (d.g = 2 → v = d) := e4
          have KU : Hid (∀ W, Below w4.heap.size w4 W → Calls Tryz.prog 8 #[.agg cc, .string d.s] W (UdP (n + 1) v W)) := fun W hb => update_calls (n + 1) cc s' d.s jj v W (HR4.out.below hb) HF.out.len e1 e2 (HF.out.sm jj v e2).1 (HF.out.sm jj v e2).2
          obtain ⟨k0, x0, b0, t0, a0, m0, c0, k1, x1, b1, t1, a1, m1, c1, rfl⟩ := i1.lit
          have HIU : Hid (IsU (Is wr (n + 1)) #[.string d.s, .int .i64 k0, .int .i64 x0, .int .u64 b0, .string t0, .slice a0 m0 c0, .int .i64 d.g, .int .i64 k1, .int .i64 x1, .int .u64 b1, .string t1, .slice a1 m1 c1] d) := i1
          have f0 := l1 0 _ rfl
          have f1 := l1 1 _ rfl
          have f2 := l1 2 _ rfl
          have f3 := l1 3 _ rfl
          have f4 := l1 4 _ rfl
          have f5 := l1 5 _ rfl
          have f6 := l1 6 _ rfl
          have f7 := l1 7 _ rfl
          have f8 := l1 8 _ rfl
          have f9 := l1 9 _ rfl
          have f10 := l1 10 _ rfl
          have f11 := l1 11 _ rfl
          rw [Nat.add_zero] at f0
          have HW : Hid (wrap64 ((j : Int) + 1) = ((j + 1 : Nat) : Int)) := wr1 hlt (by have := HL.out; omega)
          have hjn : (j : Int) < (m : Int) := by omega
          clear hd e1 e2 e3 e4 l1 z1 i1
          go_upto_region 9 with fail
          have ha : (wr.alloc (.cells #[.string d.s, .int .i64 k0, .int .i64 x0, .int .u64 b0, .string t0, .slice a0 m0 c0, .int .i64 d.g, .int .i64 k1, .int .i64 x1, .int .u64 b1, .string t1, .slice a1 m1 c1] 37)).heap[wr.heap.size]? = some (.cells #[.string d.s, .int .i64 k0, .int .i64 x0, .int .u64 b0, .string t0, .slice a0 m0 c0, .int .i64 d.g, .int .i64 k1, .int .i64 x1, .int .u64 b1, .string t1, .slice a1 m1 c1] 37 (0, 0)) := heap_alloc_new wr _
          have HBa : Hid (Below w4.heap.size w4 (wr.alloc (.cells #[.string d.s, .int .i64 k0, .int .i64 x0, .int .u64 b0, .string t0, .slice a0 m0 c0, .int .i64 d.g, .int .i64 k1, .int .i64 x1, .int .u64 b1, .string t1, .slice a1 m1 c1] 37))) := bel2 HBr.out (bel1 wr _)
          have HIa : Hid (IsU (Is (wr.alloc (.cells #[.string d.s, .int .i64 k0, .int .i64 x0, .int .u64 b0, .string t0, .slice a0 m0 c0, .int .i64 d.g, .int .i64 k1, .int .i64 x1, .int .u64 b1, .string t1, .slice a1 m1 c1] 37)) (n + 1)) #[.string d.s, .int .i64 k0, .int .i64 x0, .int .u64 b0, .string t0, .slice a0 m0 c0, .int .i64 d.g, .int .i64 k1, .int .i64 x1, .int .u64 b1, .string t1, .slice a1 m1 c1] d) := HIU.out.map fun v t h => h.below (bel1 wr _)
          generalize wr.alloc (.cells #[.string d.s, .int .i64 k0, .int .i64 x0, .int .u64 b0, .string t0, .slice a0 m0 c0, .int .i64 d.g, .int .i64 k1, .int .i64 x1, .int .u64 b1, .string t1, .slice a1 m1 c1] 37) = Wa at ha HBa HIa ⊢
          generalize wr.heap.size = G8 at ha ⊢
          have x0' : Wa.cell? ⟨G8, 0, none⟩ = some (.string d.s) := row_cell ha rfl
          have ra : Wa.heap[G2]? = some (.cells cc 33 (0, 0)) := row_below HBa.out r4
          have HRa : Hid (Wa.heap[G8]? = some (.cells #[.string d.s, .int .i64 k0, .int .i64 x0, .int .u64 b0, .string t0, .slice a0 m0 c0, .int .i64 d.g, .int .i64 k1, .int .i64 x1, .int .u64 b1, .string t1, .slice a1 m1 c1] 37 (0, 0))) := ha
          clear f0 f1 f2 f3 f4 f5 f6 f7 f8 f9 f10 f11 ha HIU
          go_wp2_with (refine wpList_load_rowG rfl 33 _ rfl G2 rfl 33 cc (0, 0) _ ra Tryz.underlying33 rfl hi1 ?_)
          refine (KU.out Wa HBa.out).mono ?_
          rintro e w5 ⟨⟨us', rfl, hu⟩, hb⟩
          obtain ⟨k2, x2, b2, t2, a2, m2, c2, k3, x3, b3, t3, a3, m3, c3, rfl⟩ := hu.lit
          have HU5 : Hid (IsU (Is w5 (n + 1)) #[.string v.s, .int .i64 k2, .int .i64 x2, .int .u64 b2, .string t2, .slice a2 m2 c2, .int .i64 v.g, .int .i64 k3, .int .i64 x3, .int .u64 b3, .string t3, .slice a3 m3 c3] v) := hu
          have HB5 : Hid (Below w4.heap.size w4 w5) := bel2 HBa.out hb
          have h5 : w5.heap[G8]? = some (.cells #[.string d.s, .int .i64 k0, .int .i64 x0, .int .u64 b0, .string t0, .slice a0 m0 c0, .int .i64 d.g, .int .i64 k1, .int .i64 x1, .int .u64 b1, .string t1, .slice a1 m1 c1] 37 (0, 0)) := row_below hb HRa.out
          have HI5 : Hid (IsU (Is w5 (n + 1)) #[.string d.s, .int .i64 k0, .int .i64 x0, .int .u64 b0, .string t0, .slice a0 m0 c0, .int .i64 d.g, .int .i64 k1, .int .i64 x1, .int .u64 b1, .string t1, .slice a1 m1 c1] d) := HIa.out.map fun v t h => h.below hb
          clear hb hu KU x0' ra HRa HIa HBa
          go_upto_region 10 with fail
          have hb' : (w5.alloc (.cells #[.string v.s, .int .i64 k2, .int .i64 x2, .int .u64 b2, .string t2, .slice a2 m2 c2, .int .i64 v.g, .int .i64 k3, .int .i64 x3, .int .u64 b3, .string t3, .slice a3 m3 c3] 37)).heap[w5.heap.size]? = some (.cells #[.string v.s, .int .i64 k2, .int .i64 x2, .int .u64 b2, .string t2, .slice a2 m2 c2, .int .i64 v.g, .int .i64 k3, .int .i64 x3, .int .u64 b3, .string t3, .slice a3 m3 c3] 37 (0, 0)) := heap_alloc_new w5 _
          have h6 : (w5.alloc (.cells #[.string v.s, .int .i64 k2, .int .i64 x2, .int .u64 b2, .string t2, .slice a2 m2 c2, .int .i64 v.g, .int .i64 k3, .int .i64 x3, .int .u64 b3, .string t3, .slice a3 m3 c3] 37)).heap[G8]? = some (.cells #[.string d.s, .int .i64 k0, .int .i64 x0, .int .u64 b0, .string t0, .slice a0 m0 c0, .int .i64 d.g, .int .i64 k1, .int .i64 x1, .int .u64 b1, .string t1, .slice a1 m1 c1] 37 (0, 0)) := row_below (bel1 w5 _) h5
          have HB6 : Hid (Below w4.heap.size w4 (w5.alloc (.cells #[.string v.s, .int .i64 k2, .int .i64 x2, .int .u64 b2, .string t2, .slice a2 m2 c2, .int .i64 v.g, .int .i64 k3, .int .i64 x3, .int .u64 b3, .string t3, .slice a3 m3 c3] 37))) := bel2 HB5.out (bel1 w5 _)
          have HI6 : Hid (IsU (Is (w5.alloc (.cells #[.string v.s, .int .i64 k2, .int .i64 x2, .int .u64 b2, .string t2, .slice a2 m2 c2, .int .i64 v.g, .int .i64 k3, .int .i64 x3, .int .u64 b3, .string t3, .slice a3 m3 c3] 37)) (n + 1)) #[.string d.s, .int .i64 k0, .int .i64 x0, .int .u64 b0, .string t0, .slice a0 m0 c0, .int .i64 d.g, .int .i64 k1, .int .i64 x1, .int .u64 b1, .string t1, .slice a1 m1 c1] d) := HI5.out.map fun v t h => h.below (bel1 w5 _)
          have HU6 : Hid (IsU (Is (w5.alloc (.cells #[.string v.s, .int .i64 k2, .int .i64 x2, .int .u64 b2, .string t2, .slice a2 m2 c2, .int .i64 v.g, .int .i64 k3, .int .i64 x3, .int .u64 b3, .string t3, .slice a3 m3 c3] 37)) (n + 1)) #[.string v.s, .int .i64 k2, .int .i64 x2, .int .u64 b2, .string t2, .slice a2 m2 c2, .int .i64 v.g, .int .i64 k3, .int .i64 x3, .int .u64 b3, .string t3, .slice a3 m3 c3] v) := HU5.out.map fun v t h => h.below (bel1 w5 _)
          generalize w5.alloc (.cells #[.string v.s, .int .i64 k2, .int .i64 x2, .int .u64 b2, .string t2, .slice a2 m2 c2, .int .i64 v.g, .int .i64 k3, .int .i64 x3, .int .u64 b3, .string t3, .slice a3 m3 c3] 37) = Wb at hb' h6 HB6 HI6 HU6 ⊢
          generalize w5.heap.size = G9 at hb' ⊢
          have y6 : Wb.cell? ⟨G8, 6, none⟩ = some (.int .i64 d.g) := row_cell h6 rfl
          have z6 : Wb.cell? ⟨G9, 6, none⟩ = some (.int .i64 v.g) := row_cell hb' rfl
          clear h5 HI5 HU5 HB5
          by_cases hg2 : d.g = 2
          · have hvd := HV.out hg2
            have hg2' : (d.g == 2) = true := by simpa using hg2
            have KE : Hid (Calls Tryz.prog 15 #[.agg (zSu Wb.heap.size), .agg (zSu (Wb.heap.size + 1))] ((Wb.alloc (.cells #[.string d.s, .int .i64 k0, .int .i64 x0, .int .u64 b0, .string t0, .slice a0 m0 c0, .int .i64 d.g, .int .i64 k1, .int .i64 x1, .int .u64 b1, .string t1, .slice a1 m1 c1] 37)).alloc (.cells #[.string v.s, .int .i64 k2, .int .i64 x2, .int .u64 b2, .string t2, .slice a2 m2 c2, .int .i64 v.g, .int .i64 k3, .int .i64 x3, .int .u64 b3, .string t3, .slice a3 m3 c3] 37)) (YesP ((Wb.alloc (.cells #[.string d.s, .int .i64 k0, .int .i64 x0, .int .u64 b0, .string t0, .slice a0 m0 c0, .int .i64 d.g, .int .i64 k1, .int .i64 x1, .int .u64 b1, .string t1, .slice a1 m1 c1] 37)).alloc (.cells #[.string v.s, .int .i64 k2, .int .i64 x2, .int .u64 b2, .string t2, .slice a2 m2 c2, .int .i64 v.g, .int .i64 k3, .int .i64 x3, .int .u64 b3, .string t3, .slice a3 m3 c3] 37)))) := by
              have hbb : Below Wb.heap.size Wb ((Wb.alloc (.cells #[.string d.s, .int .i64 k0, .int .i64 x0, .int .u64 b0, .string t0, .slice a0 m0 c0, .int .i64 d.g, .int .i64 k1, .int .i64 x1, .int .u64 b1, .string t1, .slice a1 m1 c1] 37)).alloc (.cells #[.string v.s, .int .i64 k2, .int .i64 x2, .int .u64 b2, .string t2, .slice a2 m2 c2, .int .i64 v.g, .int .i64 k3, .int .i64 x3, .int .u64 b3, .string t3, .slice a3 m3 c3] 37)) := bel2 (bel1 _ _) (bel1 _ _)
              have iu2 := HU6.out.map (R' := Is ((Wb.alloc (.cells #[.string d.s, .int .i64 k0, .int .i64 x0, .int .u64 b0, .string t0, .slice a0 m0 c0, .int .i64 d.g, .int .i64 k1, .int .i64 x1, .int .u64 b1, .string t1, .slice a1 m1 c1] 37)).alloc (.cells #[.string v.s, .int .i64 k2, .int .i64 x2, .int .u64 b2, .string t2, .slice a2 m2 c2, .int .i64 v.g, .int .i64 k3, .int .i64 x3, .int .u64 b3, .string t3, .slice a3 m3 c3] 37)) (n + 1)) fun v t h => h.below hbb
              have iu1 := HI6.out.map (R' := Is ((Wb.alloc (.cells #[.string d.s, .int .i64 k0, .int .i64 x0, .int .u64 b0, .string t0, .slice a0 m0 c0, .int .i64 d.g, .int .i64 k1, .int .i64 x1, .int .u64 b1, .string t1, .slice a1 m1 c1] 37)).alloc (.cells #[.string v.s, .int .i64 k2, .int .i64 x2, .int .u64 b2, .string t2, .slice a2 m2 c2, .int .i64 v.g, .int .i64 k3, .int .i64 x3, .int .u64 b3, .string t3, .slice a3 m3 c3] 37)) (n + 1)) fun v t h => h.below hbb
              have rs1 := su_rs (heap_alloc2_old Wb (.cells #[.string d.s, .int .i64 k0, .int .i64 x0, .int .u64 b0, .string t0, .slice a0 m0 c0, .int .i64 d.g, .int .i64 k1, .int .i64 x1, .int .u64 b1, .string t1, .slice a1 m1 c1] 37) (.cells #[.string v.s, .int .i64 k2, .int .i64 x2, .int .u64 b2, .string t2, .slice a2 m2 c2, .int .i64 v.g, .int .i64 k3, .int .i64 x3, .int .u64 b3, .string t3, .slice a3 m3 c3] 37)) iu1
              have rs2 := su_rs (heap_alloc2_new Wb (.cells #[.string d.s, .int .i64 k0, .int .i64 x0, .int .u64 b0, .string t0, .slice a0 m0 c0, .int .i64 d.g, .int .i64 k1, .int .i64 x1, .int .u64 b1, .string t1, .slice a1 m1 c1] 37) (.cells #[.string v.s, .int .i64 k2, .int .i64 x2, .int .u64 b2, .string t2, .slice a2 m2 c2, .int .i64 v.g, .int .i64 k3, .int .i64 x3, .int .u64 b3, .string t3, .slice a3 m3 c3] 37)) iu2
              rw [show su v = su d by rw [hvd]] at rs2
              exact sameP_calls (n + 1) _ _ (su d) _ rs1 rs2 (by show 0 ≤ 1000; omega) (by show 1 ≤ 1000; omega)
            have HBb : Hid (Below w4.heap.size w4 ((Wb.alloc (.cells #[.string d.s, .int .i64 k0, .int .i64 x0, .int .u64 b0, .string t0, .slice a0 m0 c0, .int .i64 d.g, .int .i64 k1, .int .i64 x1, .int .u64 b1, .string t1, .slice a1 m1 c1] 37)).alloc (.cells #[.string v.s, .int .i64 k2, .int .i64 x2, .int .u64 b2, .string t2, .slice a2 m2 c2, .int .i64 v.g, .int .i64 k3, .int .i64 x3, .int .u64 b3, .string t3, .slice a3 m3 c3] 37))) := bel2 HB6.out (bel2 (bel1 _ _) (bel1 _ _))
            have y0 : Wb.cell? ⟨G8, 0, none⟩ = _ := row_cell h6 rfl
            have y1 : Wb.cell? ⟨G8, 1, none⟩ = _ := row_cell h6 rfl
            have y2 : Wb.cell? ⟨G8, 2, none⟩ = _ := row_cell h6 rfl
            have y3 : Wb.cell? ⟨G8, 3, none⟩ = _ := row_cell h6 rfl
            have y4 : Wb.cell? ⟨G8, 4, none⟩ = _ := row_cell h6 rfl
            have y5 : Wb.cell? ⟨G8, 5, none⟩ = _ := row_cell h6 rfl
            have y7 : Wb.cell? ⟨G8, 7, none⟩ = _ := row_cell h6 rfl
            have y8 : Wb.cell? ⟨G8, 8, none⟩ = _ := row_cell h6 rfl
            have y9 : Wb.cell? ⟨G8, 9, none⟩ = _ := row_cell h6 rfl
            have y10 : Wb.cell? ⟨G8, 10, none⟩ = _ := row_cell h6 rfl
            have y11 : Wb.cell? ⟨G8, 11, none⟩ = _ := row_cell h6 rfl
            have hb7' : (Wb.alloc (.cells #[.string d.s, .int .i64 k0, .int .i64 x0, .int .u64 b0, .string t0, .slice a0 m0 c0, .int .i64 d.g, .int .i64 k1, .int .i64 x1, .int .u64 b1, .string t1, .slice a1 m1 c1] 37)).heap[G9]? = some (.cells #[.string v.s, .int .i64 k2, .int .i64 x2, .int .u64 b2, .string t2, .slice a2 m2 c2, .int .i64 v.g, .int .i64 k3, .int .i64 x3, .int .u64 b3, .string t3, .slice a3 m3 c3] 37 (0, 0)) := row_below (bel1 Wb _) hb'
            have w0' : (Wb.alloc (.cells #[.string d.s, .int .i64 k0, .int .i64 x0, .int .u64 b0, .string t0, .slice a0 m0 c0, .int .i64 d.g, .int .i64 k1, .int .i64 x1, .int .u64 b1, .string t1, .slice a1 m1 c1] 37)).cell? ⟨G9, 0, none⟩ = _ := row_cell hb7' rfl
            have w1' : (Wb.alloc (.cells #[.string d.s, .int .i64 k0, .int .i64 x0, .int .u64 b0, .string t0, .slice a0 m0 c0, .int .i64 d.g, .int .i64 k1, .int .i64 x1, .int .u64 b1, .string t1, .slice a1 m1 c1] 37)).cell? ⟨G9, 1, none⟩ = _ := row_cell hb7' rfl
            have w2' : (Wb.alloc (.cells #[.string d.s, .int .i64 k0, .int .i64 x0, .int .u64 b0, .string t0, .slice a0 m0 c0, .int .i64 d.g, .int .i64 k1, .int .i64 x1, .int .u64 b1, .string t1, .slice a1 m1 c1] 37)).cell? ⟨G9, 2, none⟩ = _ := row_cell hb7' rfl
            have w3' : (Wb.alloc (.cells #[.string d.s, .int .i64 k0, .int .i64 x0, .int .u64 b0, .string t0, .slice a0 m0 c0, .int .i64 d.g, .int .i64 k1, .int .i64 x1, .int .u64 b1, .string t1, .slice a1 m1 c1] 37)).cell? ⟨G9, 3, none⟩ = _ := row_cell hb7' rfl
            have w4' : (Wb.alloc (.cells #[.string d.s, .int .i64 k0, .int .i64 x0, .int .u64 b0, .string t0, .slice a0 m0 c0, .int .i64 d.g, .int .i64 k1, .int .i64 x1, .int .u64 b1, .string t1, .slice a1 m1 c1] 37)).cell? ⟨G9, 4, none⟩ = _ := row_cell hb7' rfl
            have w5' : (Wb.alloc (.cells #[.string d.s, .int .i64 k0, .int .i64 x0, .int .u64 b0, .string t0, .slice a0 m0 c0, .int .i64 d.g, .int .i64 k1, .int .i64 x1, .int .u64 b1, .string t1, .slice a1 m1 c1] 37)).cell? ⟨G9, 5, none⟩ = _ := row_cell hb7' rfl
            have w6' : (Wb.alloc (.cells #[.string d.s, .int .i64 k0, .int .i64 x0, .int .u64 b0, .string t0, .slice a0 m0 c0, .int .i64 d.g, .int .i64 k1, .int .i64 x1, .int .u64 b1, .string t1, .slice a1 m1 c1] 37)).cell? ⟨G9, 6, none⟩ = _ := row_cell hb7' rfl
            have w7' : (Wb.alloc (.cells #[.string d.s, .int .i64 k0, .int .i64 x0, .int .u64 b0, .string t0, .slice a0 m0 c0, .int .i64 d.g, .int .i64 k1, .int .i64 x1, .int .u64 b1, .string t1, .slice a1 m1 c1] 37)).cell? ⟨G9, 7, none⟩ = _ := row_cell hb7' rfl
            have w8' : (Wb.alloc (.cells #[.string d.s, .int .i64 k0, .int .i64 x0, .int .u64 b0, .string t0, .slice a0 m0 c0, .int .i64 d.g, .int .i64 k1, .int .i64 x1, .int .u64 b1, .string t1, .slice a1 m1 c1] 37)).cell? ⟨G9, 8, none⟩ = _ := row_cell hb7' rfl
            have w9' : (Wb.alloc (.cells #[.string d.s, .int .i64 k0, .int .i64 x0, .int .u64 b0, .string t0, .slice a0 m0 c0, .int .i64 d.g, .int .i64 k1, .int .i64 x1, .int .u64 b1, .string t1, .slice a1 m1 c1] 37)).cell? ⟨G9, 9, none⟩ = _ := row_cell hb7' rfl
            have w10' : (Wb.alloc (.cells #[.string d.s, .int .i64 k0, .int .i64 x0, .int .u64 b0, .string t0, .slice a0 m0 c0, .int .i64 d.g, .int .i64 k1, .int .i64 x1, .int .u64 b1, .string t1, .slice a1 m1 c1] 37)).cell? ⟨G9, 10, none⟩ = _ := row_cell hb7' rfl
            have w11' : (Wb.alloc (.cells #[.string d.s, .int .i64 k0, .int .i64 x0, .int .u64 b0, .string t0, .slice a0 m0 c0, .int .i64 d.g, .int .i64 k1, .int .i64 x1, .int .u64 b1, .string t1, .slice a1 m1 c1] 37)).cell? ⟨G9, 11, none⟩ = _ := row_cell hb7' rfl
            clear hg2 hvd HI6 HU6 HB6 h6 hb' hb7'
            unfold zSu at KE
            go_wp2_with fail
            refine KE.out.mono ?_
            rintro e w7 ⟨rfl, hb7⟩
            have HB7 : Hid (Below w4.heap.size w4 w7) := bel2 HBb.out hb7
            clear hb7 KE HBb y0 w0' y1 w1' y2 w2' y3 w3' y4 w4' y5 w5' y6 w6' y7 w7' y8 w8' y9 w9' y10 w10' y11 w11' z6
            go_wp2_with fail
            exact ⟨⟨j + 1, hlt, by first | rw [HW.out] | exact congrArg _ (Int.natCast_succ j).symm, HB7⟩, by first | exact meas hlt HW.out | exact meas hlt (Int.natCast_succ j).symm⟩
          · have hg2' : (d.g == 2) = false := by simpa using hg2
            clear hg2 HI6 HU6
            go_wp2_with fail
            exact ⟨⟨j + 1, hlt, by first | rw [HW.out] | exact congrArg _ (Int.natCast_succ j).symm, HB6⟩, by first | exact meas hlt HW.out | exact meas hlt (Int.natCast_succ j).symm⟩
        · obtain rfl : j = m := by omega
          have hjn : decide ((j : Int) < (j : Int)) = false := decide_eq_false (by omega)
          go_wp2_with fail
          refine (KA.out _).mono ?_
          rintro e w5 ⟨rfl, hb5⟩
          have HB5 : Hid (Below w.heap.size w w5) := bel2 (bel2 HB4.out HBr.out) hb5
          clear hb5 KA
          go_wp2_with fail
          go_ret
          exact ⟨rfl, HB5.out⟩
    · have hce : (code == 0) = false := by simpa using hc0
      have r4 := r3
      have v24 : W3.cell? ⟨w.heap.size, 24, none⟩ = some (.slice ua s.up.length uc) := row_cell g3 c24
      have HB4 := HB3
      have HR4 := HR3
      have HI4 : Hid (RowI W3 (n + 1) ua s.up) := HI.out.below HB3.out
      generalize W3 = w4 at r4 v24 HB4 HR4 HI4 ⊢
      clear KR r3 g3 p3 x12 x13 HB3 HR3 HI hc0
      go_upto_region 6 with fail
      clear hce
      go_wp2_with fail
      generalize hm : s.up.length = m at HL v24 ⊢
      have HM : Hid (s.up.length = m) := hm
      clear hm v24
      go_loopw [8, 9, 10, 51] (fun _ _ _ i wr => ∃ j : Nat, j ≤ m ∧ i = .int .i64 (j : Int) ∧ Hid (Below w4.heap.size w4 wr)) (fun _ _ _ i _ => m - (intOf i).toNat)
      case atStart => exact ⟨0, Nat.zero_le _, rfl, Below.refl _ _⟩
      case round =>
        obtain ⟨j, hj, rfl, HBr⟩ := hrel
        by_cases hlt : j < m
        · obtain ⟨d, hd⟩ : ∃ d, s.up[j]? = some d := ⟨_, List.getElem?_eq_getElem (by rw [HM.out]; exact hlt)⟩
          obtain ⟨r, B, o, rfl, l1, z1, i1⟩ := (HI4.out.below HBr.out).at hd
          obtain ⟨jj, v, e1, e2, e3, e4⟩ := HF.out.up d (List.mem_of_getElem? hd)
          have hgl : decide (v.g < d.g) = false := decide_eq_false (by omega)
          have HV : Hid (d.g = 2 → v = d) := e4
          have KU : Hid (∀ W, Below w4.heap.size w4 W → Calls Tryz.prog 8 #[.agg cc, .string d.s] W (UdP (n + 1) v W)) := fun W hb => update_calls (n + 1) cc s' d.s jj v W (HR4.out.below hb) HF.out.len e1 e2 (HF.out.sm jj v e2).1 (HF.out.sm jj v e2).2
          obtain ⟨k0, x0, b0, t0, a0, m0, c0, k1, x1, b1, t1, a1, m1, c1, rfl⟩ := i1.lit
          have HIU : Hid (IsU (Is wr (n + 1)) #[.string d.s, .int .i64 k0, .int .i64 x0, .int .u64 b0, .string t0, .slice a0 m0 c0, .int .i64 d.g, .int .i64 k1, .int .i64 x1, .int .u64 b1, .string t1, .slice a1 m1 c1] d) := i1
          have f0 := l1 0 _ rfl
          have f1 := l1 1 _ rfl
          have f2 := l1 2 _ rfl
          have f3 := l1 3 _ rfl
          have f4 := l1 4 _ rfl
          have f5 := l1 5 _ rfl
          have f6 := l1 6 _ rfl
          have f7 := l1 7 _ rfl
          have f8 := l1 8 _ rfl
          have f9 := l1 9 _ rfl
          have f10 := l1 10 _ rfl
          have f11 := l1 11 _ rfl
          rw [Nat.add_zero] at f0
          have HW : Hid (wrap64 ((j : Int) + 1) = ((j + 1 : Nat) : Int)) := wr1 hlt (by have := HL.out; omega)
          have hjn : (j : Int) < (m : Int) := by omega
          clear hd e1 e2 e3 e4 l1 z1 i1
          go_upto_region 9 with fail
          have ha : (wr.alloc (.cells #[.string d.s, .int .i64 k0, .int .i64 x0, .int .u64 b0, .string t0, .slice a0 m0 c0, .int .i64 d.g, .int .i64 k1, .int .i64 x1, .int .u64 b1, .string t1, .slice a1 m1 c1] 37)).heap[wr.heap.size]? = some (.cells #[.string d.s, .int .i64 k0, .int .i64 x0, .int .u64 b0, .string t0, .slice a0 m0 c0, .int .i64 d.g, .int .i64 k1, .int .i64 x1, .int .u64 b1, .string t1, .slice a1 m1 c1] 37 (0, 0)) := heap_alloc_new wr _
          have HBa : Hid (Below w4.heap.size w4 (wr.alloc (.cells #[.string d.s, .int .i64 k0, .int .i64 x0, .int .u64 b0, .string t0, .slice a0 m0 c0, .int .i64 d.g, .int .i64 k1, .int .i64 x1, .int .u64 b1, .string t1, .slice a1 m1 c1] 37))) := bel2 HBr.out (bel1 wr _)
          have HIa : Hid (IsU (Is (wr.alloc (.cells #[.string d.s, .int .i64 k0, .int .i64 x0, .int .u64 b0, .string t0, .slice a0 m0 c0, .int .i64 d.g, .int .i64 k1, .int .i64 x1, .int .u64 b1, .string t1, .slice a1 m1 c1] 37)) (n + 1)) #[.string d.s, .int .i64 k0, .int .i64 x0, .int .u64 b0, .string t0, .slice a0 m0 c0, .int .i64 d.g, .int .i64 k1, .int .i64 x1, .int .u64 b1, .string t1, .slice a1 m1 c1] d) := HIU.out.map fun v t h => h.below (bel1 wr _)
          generalize wr.alloc (.cells #[.string d.s, .int .i64 k0, .int .i64 x0, .int .u64 b0, .string t0, .slice a0 m0 c0, .int .i64 d.g, .int .i64 k1, .int .i64 x1, .int .u64 b1, .string t1, .slice a1 m1 c1] 37) = Wa at ha HBa HIa ⊢
          generalize wr.heap.size = G8 at ha ⊢
          have x0' : Wa.cell? ⟨G8, 0, none⟩ = some (.string d.s) := row_cell ha rfl
          have ra : Wa.heap[G2]? = some (.cells cc 33 (0, 0)) := row_below HBa.out r4
          have HRa : Hid (Wa.heap[G8]? = some (.cells #[.string d.s, .int .i64 k0, .int .i64 x0, .int .u64 b0, .string t0, .slice a0 m0 c0, .int .i64 d.g, .int .i64 k1, .int .i64 x1, .int .u64 b1, .string t1, .slice a1 m1 c1] 37 (0, 0))) := ha
          clear f0 f1 f2 f3 f4 f5 f6 f7 f8 f9 f10 f11 ha HIU
          go_wp2_with (refine wpList_load_rowG rfl 33 _ rfl G2 rfl 33 cc (0, 0) _ ra Tryz.underlying33 rfl hi1 ?_)
          refine (KU.out Wa HBa.out).mono ?_
          rintro e w5 ⟨⟨us', rfl, hu⟩, hb⟩
          obtain ⟨k2, x2, b2, t2, a2, m2, c2, k3, x3, b3, t3, a3, m3, c3, rfl⟩ := hu.lit
          have HU5 : Hid (IsU (Is w5 (n + 1)) #[.string v.s, .int .i64 k2, .int .i64 x2, .int .u64 b2, .string t2, .slice a2 m2 c2, .int .i64 v.g, .int .i64 k3, .int .i64 x3, .int .u64 b3, .string t3, .slice a3 m3 c3] v) := hu
          have HB5 : Hid (Below w4.heap.size w4 w5) := bel2 HBa.out hb
          have h5 : w5.heap[G8]? = some (.cells #[.string d.s, .int .i64 k0, .int .i64 x0, .int .u64 b0, .string t0, .slice a0 m0 c0, .int .i64 d.g, .int .i64 k1, .int .i64 x1, .int .u64 b1, .string t1, .slice a1 m1 c1] 37 (0, 0)) := row_below hb HRa.out
          have HI5 : Hid (IsU (Is w5 (n + 1)) #[.string d.s, .int .i64 k0, .int .i64 x0, .int .u64 b0, .string t0, .slice a0 m0 c0, .int .i64 d.g, .int .i64 k1, .int .i64 x1, .int .u64 b1, .string t1, .slice a1 m1 c1] d) := HIa.out.map fun v t h => h.below hb
          clear hb hu KU x0' ra HRa HIa HBa
          go_upto_region 10 with fail
          have hb' : (w5.alloc (.cells #[.string v.s, .int .i64 k2, .int .i64 x2, .int .u64 b2, .string t2, .slice a2 m2 c2, .int .i64 v.g, .int .i64 k3, .int .i64 x3, .int .u64 b3, .string t3, .slice a3 m3 c3] 37)).heap[w5.heap.size]? = some (.cells #[.string v.s, .int .i64 k2, .int .i64 x2, .int .u64 b2, .string t2, .slice a2 m2 c2, .int .i64 v.g, .int .i64 k3, .int .i64 x3, .int .u64 b3, .string t3, .slice a3 m3 c3] 37 (0, 0)) := heap_alloc_new w5 _
          have h6 : (w5.alloc (.cells #[.string v.s, .int .i64 k2, .int .i64 x2, .int .u64 b2, .string t2, .slice a2 m2 c2, .int .i64 v.g, .int .i64 k3, .int .i64 x3, .int .u64 b3, .string t3, .slice a3 m3 c3] 37)).heap[G8]? = some (.cells #[.string d.s, .int .i64 k0, .int .i64 x0, .int .u64 b0, .string t0, .slice a0 m0 c0, .int .i64 d.g, .int .i64 k1, .int .i64 x1, .int .u64 b1, .string t1, .slice a1 m1 c1] 37 (0, 0)) := row_below (bel1 w5 _) h5
          have HB6 : Hid (Below w4.heap.size w4 (w5.alloc (.cells #[.string v.s, .int .i64 k2, .int .i64 x2, .int .u64 b2, .string t2, .slice a2 m2 c2, .int .i64 v.g, .int .i64 k3, .int .i64 x3, .int .u64 b3, .string t3, .slice a3 m3 c3] 37))) := bel2 HB5.out (bel1 w5 _)
          have HI6 : Hid (IsU (Is (w5.alloc (.cells #[.string v.s, .int .i64 k2, .int .i64 x2, .int .u64 b2, .string t2, .slice a2 m2 c2, .int .i64 v.g, .int .i64 k3, .int .i64 x3, .int .u64 b3, .string t3, .slice a3 m3 c3] 37)) (n + 1)) #[.string d.s, .int .i64 k0, .int .i64 x0, .int .u64 b0, .string t0, .slice a0 m0 c0, .int .i64 d.g, .int .i64 k1, .int .i64 x1, .int .u64 b1, .string t1, .slice a1 m1 c1] d) := HI5.out.map fun v t h => h.below (bel1 w5 _)
          have HU6 : Hid (IsU (Is (w5.alloc (.cells #[.string v.s, .int .i64 k2, .int .i64 x2, .int .u64 b2, .string t2, .slice a2 m2 c2, .int .i64 v.g, .int .i64 k3, .int .i64 x3, .int .u64 b3, .string t3, .slice a3 m3 c3] 37)) (n + 1)) #[.string v.s, .int .i64 k2, .int .i64 x2, .int .u64 b2, .string t2, .slice a2 m2 c2, .int .i64 v.g, .int .i64 k3, .int .i64 x3, .int .u64 b3, .string t3, .slice a3 m3 c3] v) := HU5.out.map fun v t h => h.below (bel1 w5 _)
          generalize w5.alloc (.cells #[.string v.s, .int .i64 k2, .int .i64 x2, .int .u64 b2, .string t2, .slice a2 m2 c2, .int .i64 v.g, .int .i64 k3, .int .i64 x3, .int .u64 b3, .string t3, .slice a3 m3 c3] 37) = Wb at hb' h6 HB6 HI6 HU6 ⊢
          generalize w5.heap.size = G9 at hb' ⊢
          have y6 : Wb.cell? ⟨G8, 6, none⟩ = some (.int .i64 d.g) := row_cell h6 rfl
          have z6 : Wb.cell? ⟨G9, 6, none⟩ = some (.int .i64 v.g) := row_cell hb' rfl
          clear h5 HI5 HU5 HB5
          by_cases hg2 : d.g = 2
          · have hvd := HV.out hg2
            have hg2' : (d.g == 2) = true := by simpa using hg2
            have KE : Hid (Calls Tryz.prog 15 #[.agg (zSu Wb.heap.size), .agg (zSu (Wb.heap.size + 1))] ((Wb.alloc (.cells #[.string d.s, .int .i64 k0, .int .i64 x0, .int .u64 b0, .string t0, .slice a0 m0 c0, .int .i64 d.g, .int .i64 k1, .int .i64 x1, .int .u64 b1, .string t1, .slice a1 m1 c1] 37)).alloc (.cells #[.string v.s, .int .i64 k2, .int .i64 x2, .int .u64 b2, .string t2, .slice a2 m2 c2, .int .i64 v.g, .int .i64 k3, .int .i64 x3, .int .u64 b3, .string t3, .slice a3 m3 c3] 37)) (YesP ((Wb.alloc (.cells #[.string d.s, .int .i64 k0, .int .i64 x0, .int .u64 b0, .string t0, .slice a0 m0 c0, .int .i64 d.g, .int .i64 k1, .int .i64 x1, .int .u64 b1, .string t1, .slice a1 m1 c1] 37)).alloc (.cells #[.string v.s, .int .i64 k2, .int .i64 x2, .int .u64 b2, .string t2, .slice a2 m2 c2, .int .i64 v.g, .int .i64 k3, .int .i64 x3, .int .u64 b3, .string t3, .slice a3 m3 c3] 37)))) := by
              have hbb : Below Wb.heap.size Wb ((Wb.alloc (.cells #[.string d.s, .int .i64 k0, .int .i64 x0, .int .u64 b0, .string t0, .slice a0 m0 c0, .int .i64 d.g, .int .i64 k1, .int .i64 x1, .int .u64 b1, .string t1, .slice a1 m1 c1] 37)).alloc (.cells #[.string v.s, .int .i64 k2, .int .i64 x2, .int .u64 b2, .string t2, .slice a2 m2 c2, .int .i64 v.g, .int .i64 k3, .int .i64 x3, .int .u64 b3, .string t3, .slice a3 m3 c3] 37)) := bel2 (bel1 _ _) (bel1 _ _)
              have iu2 := HU6.out.map (R' := Is ((Wb.alloc (.cells #[.string d.s, .int .i64 k0, .int .i64 x0, .int .u64 b0, .string t0, .slice a0 m0 c0, .int .i64 d.g, .int .i64 k1, .int .i64 x1, .int .u64 b1, .string t1, .slice a1 m1 c1] 37)).alloc (.cells #[.string v.s, .int .i64 k2, .int .i64 x2, .int .u64 b2, .string t2, .slice a2 m2 c2, .int .i64 v.g, .int .i64 k3, .int .i64 x3, .int .u64 b3, .string t3, .slice a3 m3 c3] 37)) (n + 1)) fun v t h => h.below hbb
              have iu1 := HI6.out.map (R' := Is ((Wb.alloc (.cells #[.string d.s, .int .i64 k0, .int .i64 x0, .int .u64 b0, .string t0, .slice a0 m0 c0, .int .i64 d.g, .int .i64 k1, .int .i64 x1, .int .u64 b1, .string t1, .slice a1 m1 c1] 37)).alloc (.cells #[.string v.s, .int .i64 k2, .int .i64 x2, .int .u64 b2, .string t2, .slice a2 m2 c2, .int .i64 v.g, .int .i64 k3, .int .i64 x3, .int .u64 b3, .string t3, .slice a3 m3 c3] 37)) (n + 1)) fun v t h => h.below hbb
              have rs1 := su_rs (heap_alloc2_old Wb (.cells #[.string d.s, .int .i64 k0, .int .i64 x0, .int .u64 b0, .string t0, .slice a0 m0 c0, .int .i64 d.g, .int .i64 k1, .int .i64 x1, .int .u64 b1, .string t1, .slice a1 m1 c1] 37) (.cells #[.string v.s, .int .i64 k2, .int .i64 x2, .int .u64 b2, .string t2, .slice a2 m2 c2, .int .i64 v.g, .int .i64 k3, .int .i64 x3, .int .u64 b3, .string t3, .slice a3 m3 c3] 37)) iu1
              have rs2 := su_rs (heap_alloc2_new Wb (.cells #[.string d.s, .int .i64 k0, .int .i64 x0, .int .u64 b0, .string t0, .slice a0 m0 c0, .int .i64 d.g, .int .i64 k1, .int .i64 x1, .int .u64 b1, .string t1, .slice a1 m1 c1] 37) (.cells #[.string v.s, .int .i64 k2, .int .i64 x2, .int .u64 b2, .string t2, .slice a2 m2 c2, .int .i64 v.g, .int .i64 k3, .int .i64 x3, .int .u64 b3, .string t3, .slice a3 m3 c3] 37)) iu2
              rw [show su v = su d by rw [hvd]] at rs2
              exact sameP_calls (n + 1) _ _ (su d) _ rs1 rs2 (by show 0 ≤ 1000; omega) (by show 1 ≤ 1000; omega)
            have HBb : Hid (Below w4.heap.size w4 ((Wb.alloc (.cells #[.string d.s, .int .i64 k0, .int .i64 x0, .int .u64 b0, .string t0, .slice a0 m0 c0, .int .i64 d.g, .int .i64 k1, .int .i64 x1, .int .u64 b1, .string t1, .slice a1 m1 c1] 37)).alloc (.cells #[.string v.s, .int .i64 k2, .int .i64 x2, .int .u64 b2, .string t2, .slice a2 m2 c2, .int .i64 v.g, .int .i64 k3, .int .i64 x3, .int .u64 b3, .string t3, .slice a3 m3 c3] 37))) := bel2 HB6.out (bel2 (bel1 _ _) (bel1 _ _))
            have y0 : Wb.cell? ⟨G8, 0, none⟩ = _ := row_cell h6 rfl
            have y1 : Wb.cell? ⟨G8, 1, none⟩ = _ := row_cell h6 rfl
            have y2 : Wb.cell? ⟨G8, 2, none⟩ = _ := row_cell h6 rfl
            have y3 : Wb.cell? ⟨G8, 3, none⟩ = _ := row_cell h6 rfl
            have y4 : Wb.cell? ⟨G8, 4, none⟩ = _ := row_cell h6 rfl
            have y5 : Wb.cell? ⟨G8, 5, none⟩ = _ := row_cell h6 rfl
            have y7 : Wb.cell? ⟨G8, 7, none⟩ = _ := row_cell h6 rfl
            have y8 : Wb.cell? ⟨G8, 8, none⟩ = _ := row_cell h6 rfl
            have y9 : Wb.cell? ⟨G8, 9, none⟩ = _ := row_cell h6 rfl
            have y10 : Wb.cell? ⟨G8, 10, none⟩ = _ := row_cell h6 rfl
            have y11 : Wb.cell? ⟨G8, 11, none⟩ = _ := row_cell h6 rfl
            have hb7' : (Wb.alloc (.cells #[.string d.s, .int .i64 k0, .int .i64 x0, .int .u64 b0, .string t0, .slice a0 m0 c0, .int .i64 d.g, .int .i64 k1, .int .i64 x1, .int .u64 b1, .string t1, .slice a1 m1 c1] 37)).heap[G9]? = some (.cells #[.string v.s, .int .i64 k2, .int .i64 x2, .int .u64 b2, .string t2, .slice a2 m2 c2, .int .i64 v.g, .int .i64 k3, .int .i64 x3, .int .u64 b3, .string t3, .slice a3 m3 c3] 37 (0, 0)) := row_below (bel1 Wb _) hb'
            have w0' : (Wb.alloc (.cells #[.string d.s, .int .i64 k0, .int .i64 x0, .int .u64 b0, .string t0, .slice a0 m0 c0, .int .i64 d.g, .int .i64 k1, .int .i64 x1, .int .u64 b1, .string t1, .slice a1 m1 c1] 37)).cell? ⟨G9, 0, none⟩ = _ := row_cell hb7' rfl
            have w1' : (Wb.alloc (.cells #[.string d.s, .int .i64 k0, .int .i64 x0, .int .u64 b0, .string t0, .slice a0 m0 c0, .int .i64 d.g, .int .i64 k1, .int .i64 x1, .int .u64 b1, .string t1, .slice a1 m1 c1] 37)).cell? ⟨G9, 1, none⟩ = _ := row_cell hb7' rfl
            have w2' : (Wb.alloc (.cells #[.string d.s, .int .i64 k0, .int .i64 x0, .int .u64 b0, .string t0, .slice a0 m0 c0, .int .i64 d.g, .int .i64 k1, .int .i64 x1, .int .u64 b1, .string t1, .slice a1 m1 c1] 37)).cell? ⟨G9, 2, none⟩ = _ := row_cell hb7' rfl
            have w3' : (Wb.alloc (.cells #[.string d.s, .int .i64 k0, .int .i64 x0, .int .u64 b0, .string t0, .slice a0 m0 c0, .int .i64 d.g, .int .i64 k1, .int .i64 x1, .int .u64 b1, .string t1, .slice a1 m1 c1] 37)).cell? ⟨G9, 3, none⟩ = _ := row_cell hb7' rfl
            have w4' : (Wb.alloc (.cells #[.string d.s, .int .i64 k0, .int .i64 x0, .int .u64 b0, .string t0, .slice a0 m0 c0, .int .i64 d.g, .int .i64 k1, .int .i64 x1, .int .u64 b1, .string t1, .slice a1 m1 c1] 37)).cell? ⟨G9, 4, none⟩ = _ := row_cell hb7' rfl
            have w5' : (Wb.alloc (.cells #[.string d.s, .int .i64 k0, .int .i64 x0, .int .u64 b0, .string t0, .slice a0 m0 c0, .int .i64 d.g, .int .i64 k1, .int .i64 x1, .int .u64 b1, .string t1, .slice a1 m1 c1] 37)).cell? ⟨G9, 5, none⟩ = _ := row_cell hb7' rfl
            have w6' : (Wb.alloc (.cells #[.string d.s, .int .i64 k0, .int .i64 x0, .int .u64 b0, .string t0, .slice a0 m0 c0, .int .i64 d.g, .int .i64 k1, .int .i64 x1, .int .u64 b1, .string t1, .slice a1 m1 c1] 37)).cell? ⟨G9, 6, none⟩ = _ := row_cell hb7' rfl
            have w7' : (Wb.alloc (.cells #[.string d.s, .int .i64 k0, .int .i64 x0, .int .u64 b0, .string t0, .slice a0 m0 c0, .int .i64 d.g, .int .i64 k1, .int .i64 x1, .int .u64 b1, .string t1, .slice a1 m1 c1] 37)).cell? ⟨G9, 7, none⟩ = _ := row_cell hb7' rfl
            have w8' : (Wb.alloc (.cells #[.string d.s, .int .i64 k0, .int .i64 x0, .int .u64 b0, .string t0, .slice a0 m0 c0, .int .i64 d.g, .int .i64 k1, .int .i64 x1, .int .u64 b1, .string t1, .slice a1 m1 c1] 37)).cell? ⟨G9, 8, none⟩ = _ := row_cell hb7' rfl
            have w9' : (Wb.alloc (.cells #[.string d.s, .int .i64 k0, .int .i64 x0, .int .u64 b0, .string t0, .slice a0 m0 c0, .int .i64 d.g, .int .i64 k1, .int .i64 x1, .int .u64 b1, .string t1, .slice a1 m1 c1] 37)).cell? ⟨G9, 9, none⟩ = _ := row_cell hb7' rfl
            have w10' : (Wb.alloc (.cells #[.string d.s, .int .i64 k0, .int .i64 x0, .int .u64 b0, .string t0, .slice a0 m0 c0, .int .i64 d.g, .int .i64 k1, .int .i64 x1, .int .u64 b1, .string t1, .slice a1 m1 c1] 37)).cell? ⟨G9, 10, none⟩ = _ := row_cell hb7' rfl
            have w11' : (Wb.alloc (.cells #[.string d.s, .int .i64 k0, .int .i64 x0, .int .u64 b0, .string t0, .slice a0 m0 c0, .int .i64 d.g, .int .i64 k1, .int .i64 x1, .int .u64 b1, .string t1, .slice a1 m1 c1] 37)).cell? ⟨G9, 11, none⟩ = _ := row_cell hb7' rfl
            clear hg2 hvd HI6 HU6 HB6 h6 hb' hb7'
            unfold zSu at KE
            go_wp2_with fail
            refine KE.out.mono ?_
            rintro e w7 ⟨rfl, hb7⟩
            have HB7 : Hid (Below w4.heap.size w4 w7) := bel2 HBb.out hb7
            clear hb7 KE HBb y0 w0' y1 w1' y2 w2' y3 w3' y4 w4' y5 w5' y6 w6' y7 w7' y8 w8' y9 w9' y10 w10' y11 w11' z6
            go_wp2_with fail
            exact ⟨⟨j + 1, hlt, by first | rw [HW.out] | exact congrArg _ (Int.natCast_succ j).symm, HB7⟩, by first | exact meas hlt HW.out | exact meas hlt (Int.natCast_succ j).symm⟩
          · have hg2' : (d.g == 2) = false := by simpa using hg2
            clear hg2 HI6 HU6
            go_wp2_with fail
            exact ⟨⟨j + 1, hlt, by first | rw [HW.out] | exact congrArg _ (Int.natCast_succ j).symm, HB6⟩, by first | exact meas hlt HW.out | exact meas hlt (Int.natCast_succ j).symm⟩
        · obtain rfl : j = m := by omega
          have hjn : decide ((j : Int) < (j : Int)) = false := decide_eq_false (by omega)
          go_wp2_with fail
          refine (KA.out _).mono ?_
          rintro e w5 ⟨rfl, hb5⟩
          have HB5 : Hid (Below w.heap.size w w5) := bel2 (bel2 HB4.out HBr.out) hb5
          clear hb5 KA
          go_wp2_with fail
          go_ret
          exact ⟨rfl, HB5.out⟩
end Go.Proofs.YthphgkaifnacbaaGreat
namespace Go.Proofs.YthphgkaifnacbaaGreat
open Go.ChangeShapes Go.WideShapes Go.ChangeAt Go.RowKit
theorem forward_all (n m : Nat) (cs es : Array Value) (s : Sta) (x : Ev) (w : World) (h : Rs w n cs s) (sm : SmS n s) (hpc : s.pc < 18446744073709551616) (he : IsEv (Is w (m + 1)) es x) (sx : SmallW (m + 1) x.v) (hc : x.c < 18446744073709551616) :
    Calls Tryz.prog 5 #[.agg cs, .agg es] w fun e w' => e = .returned (.bool true) ∧ Below w.heap.size w w' := by
  by_cases hf : s.tm.length ≤ 60 ∧ s.up.length ≤ 60
  · exact forward_walk (n + m) cs es s x w (h.lift (by omega)) (he.map fun v t h => h.up (by omega)) hpc hc (sm.lift (by omega)) (sx.up (by omega)) hf.1 hf.2
  · obtain ⟨ta, tc, c23, _⟩ := h.tm
    obtain ⟨ua, uc, us, c24, _⟩ := IsS.up h
    exact forward_many cs es ta ua _ tc _ uc w h.size c23 c24 hf
end Go.Proofs.YthphgkaifnacbaaGreat
namespace Go.Proofs.YthphgkaifnacbaaGreat.stateForward
open Go.ChangeShapes Go.WideShapes Go.ChangeAt Go.RowKit

theorem own : ownKnob Tryz.prog.godebug = none := by kernel_rfl
theorem laidOut : laidOutB Tryz.prog = true := by kernel_rfl

theorem aggN {v : Value} {k : Nat} (h : v.cells.size = k + 2) : v = .agg v.cells := by
  cases v with
  | agg cs => rfl
  | _ => simp [Value.cells] at h

set_option maxRecDepth 100000 in
theorem lifted (os : Go.Os) (started : os.Started) (H : Type) (enc : TypeId × Value → H) :
    ReturnsInHanded {} Tryz.checked os 5 .any (Rows.stateForwardSpec.pre6 enc Tryz.prog Tryz.f5 Rows.stateForwardRow.domain false) (Rows.stateForwardSpec.post enc Tryz.prog Tryz.f5 false true false false) := by
  refine returnsInHanded_of_change_sized (C := Tryz.checked) own started (by kernel_rfl) Tryz.func5
    (ChangeSpec.witness6 (enc := enc) (C := Tryz.checked) false ⟨#[], #[.agg #[.int .i64 0, .int .i64 0, .int .i64 0, .int .i64 0, .int .i64 0, .int .i64 0, .int .i64 0, .string ⟨#[]⟩, .int .i64 0, .int .i64 0, .int .u64 0, .string ⟨#[]⟩, .slice none 0 0, .int .i64 0, .int .u64 0, .int .i64 0, .int .i64 0, .int .i64 0, .int .i64 0, .int .i64 0, .int .i64 0, .bool false, .bool false, .slice none 0 0, .slice none 0 0, .int .i64 0, .int .i64 0, .int .u64 0, .string ⟨#[]⟩, .slice none 0 0, .string ⟨#[]⟩], .agg #[.int .i64 0, .int .i64 0, .int .i64 0, .int .i64 0, .string ⟨#[]⟩, .int .i64 0, .int .i64 0, .int .u64 0, .string ⟨#[]⟩, .slice none 0 0, .int .i64 0, .int .u64 0, .int .i64 0]], []⟩ 8 (by kernel_rfl) (by kernel_rfl) (by kernel_rfl) (by kernel_rfl)) ?_
  intro W base args ds gs before hval0 hW hcnd hsz0 _
  have hsz : (DataW.weightsEach Tryz.prog (Tryz.f5.params.toList ++ Rows.stateForwardSpec.plain.varTypes Tryz.prog) (ds ++ gs)).all (· ≤ reachBytes) = true := hsz0
  have hval : ∀ (j : Nat) t v, Tryz.f5.params[j]? = some t → args[j]? = some v → Value.okWide Tryz.prog W .any base t v := hval0
  have hW' := hW
  obtain ⟨p, q, hA0, hV, rfl, hfz, hnd⟩ := hW
  have hA : DataW.TrodAll enc Tryz.prog W 0 (fun _ => true) true Tryz.f5.params.toList args.toList ds p := hA0
  rw [Tryz.params5] at hA hval hsz
  obtain ⟨v0, vs0, d0, ds0, p0, q0, hargs, rfl, rfl, h0, r0⟩ := trodAll_cons hA
  obtain ⟨v1, vs1, d1, ds1, p1, q1, rfl, rfl, rfl, h1, r1⟩ := trodAll_cons r0
  obtain ⟨rfl, rfl, rfl⟩ := trodAll_nil r1
  obtain rfl : args = #[v0, v1] := by cases args; simp_all
  obtain ⟨rfl, rfl⟩ := trodVars_none hV
  have k0 := h0
  have lt0 : ∀ x ∈ p0, x.block < W.heap.size := by obtain ⟨m, hm⟩ := k0; exact DataW.trod_lt m _ _ _ hm
  obtain ⟨m0, hm0⟩ := h0
  obtain ⟨s0, n0, H0, M0, C0⟩ := open_sta m0 _ _ hm0 (fun y hy => of_decide_eq_true (List.all_eq_true.1 hsz y (DataW.weights_mem_each (j := 0) rfl rfl y hy)))
  rw [Array.toArray_toList] at H0
  have ag0 := aggN (k := 29) H0.size
  have k1 := h1
  have lt1 : ∀ x ∈ p1, x.block < W.heap.size := by obtain ⟨m, hm⟩ := k1; exact DataW.trod_lt m _ _ _ hm
  obtain ⟨m1, hm1⟩ := h1
  obtain ⟨s1, n1, H1, M1, C1⟩ := open_ev m1 _ _ hm1 (fun y hy => of_decide_eq_true (List.all_eq_true.1 hsz y (DataW.weights_mem_each (j := 1) rfl rfl y hy)))
  rw [Array.toArray_toList] at H1
  have ag1 := aggN (k := 11) H1.size
  clear hA0 hval0
  have key : Calls Tryz.prog 5 #[.agg v0.cells, .agg v1.cells] W fun e w' => e = .returned (.bool true) ∧ Below W.heap.size W w' := forward_all n0 n1 v0.cells v1.cells s0 s1 W H0 M0 C0 H1 M1 C1
  have ea : #[.agg v0.cells, .agg v1.cells] = #[v0, v1] := by rw [← ag0, ← ag1]
  rw [ea] at key
  refine key.mono fun e W' ⟨he, bel⟩ => ?_
  subst he
  exact ⟨_, rfl, _, _, _, [], _, [], hW', trodAll_mk1 (shut_bool Tryz.underlying4 _), (trodAll_cons_mk (Below.trod laidOut (by kernel_rfl) (of_decide_eq_true (by kernel_rfl)) k0 bel lt0) (trodAll_cons_mk (Below.trod laidOut (by kernel_rfl) (of_decide_eq_true (by kernel_rfl)) k1 bel lt1) trodAll_mk0)), rfl, bel.frame _, fun h => by cases h⟩

theorem over : Rows.stateForwardRow.holds Tryz.pinned (OpenSpec.ofChange Rows.stateForwardSpec) :=
  OpenClaim.holds_of_wide 5 Tryz.f5 rfl rfl rfl rfl rfl rfl rfl ⟨rfl, rfl, rfl, rfl, rfl⟩ rfl rfl rfl rfl rfl (by kernel_rfl) Tryz.func5 (by kernel_rfl)
    (of_decide_eq_true (by kernel_rfl)) (by unfold Func.isWrapper; first | (rw [if_pos (by decide +kernel)]; kernel_rfl) | (rw [if_neg (by decide +kernel)]; exact ⟨rfl, rfl⟩))
    (fun os started H enc _ => lifted os started H enc)

theorem proved : Rows.StateForwardSaid := over
end Go.Proofs.YthphgkaifnacbaaGreat.stateForward

namespace Go.Proofs.YthphgkaifnacbaaGreat
theorem stateForward_holds : Rows.StateForwardSaid := stateForward.proved
end Go.Proofs.YthphgkaifnacbaaGreat
