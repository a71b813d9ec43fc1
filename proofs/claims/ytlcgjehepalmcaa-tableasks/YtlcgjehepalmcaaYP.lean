/- The contracts of the reference's writers of pack at long texts, and of its Put of a value. -/
import Derived.Test.YtlcgjehepalmcaaYF
import Derived.Test.YtlcgjehepalmcaaPP
import Derived.Deep.RegionLaw
namespace Go.Proofs.Ytlcgjehepalmcaa
open Go.ChangeShapes Go.WideShapes Go.ChangeAt Go.RowKit Go.BigFrame
theorem copied_all (v : Value) (l : List UInt8) (w : World) (hv : Lib.HoldsBytes w v l) (hl : l.length ≤ 140737488355328) :
    Calls Try.prog 53 #[v] w fun e w' => ∃ v', e = .returned v' ∧ Own w.heap.size w' v' l ∧ Below w.heap.size w w' := by
  obtain ⟨p, cap, rfl, h1, h2⟩ := hv
  obtain ⟨i0, hi, hz0, hz1, hz2⟩ := info_parts Try.info5
  cases p with
  | none =>
    have hn : l = [] := h1 rfl
    subst hn
    clear h1 h2 hl
    go_enter Try.func53, Try.ntmps53
    go_wp2
    go_ret
    exact ⟨_, rfl, World.ownsRow_nil _ _ _ _, Below.refl _ _⟩
  | some a =>
    have HC : Hid (∀ (i : Nat) x, l[i]? = some x → w.cell? (a.add i) = some (.int .u8 (x.toNat : Int))) := h2 a rfl
    clear h1 h2
    go_enter Try.func53, Try.ntmps53
    go_wp2_with (at_builtin; refine wpList_append_own _ rfl _ _ 35 rfl w.heap.size 5 i0 (.int .u8 0) 1 1 Try.underlying35 hi hz0 hz1 hz2 rfl (by decide) _ _ _ rfl (World.ownsRow_nil _ _ _ _) a l.length cap (bval l) rfl ?qc1 ?qc2 ?qc3 ?qc4 ?qc5 ?qc6 ?_)
    case qc1 => simp [bval]
    case qc2 =>
      intro j u hj
      unfold bval at hj
      rw [List.getElem?_map] at hj
      obtain ⟨x, hx, rfl⟩ := Option.map_eq_some_iff.1 hj
      exact HC.out j x hx
    case qc3 => intro u hu; obtain ⟨x, _, rfl⟩ := List.mem_map.1 hu; rfl
    case qc4 => unfold maxLen; omega
    case qc5 => omega
    case qc6 => exact Nat.le_refl _
    intro v' w1 hown hgrow hnil
    go_wp2
    go_ret
    refine ⟨v', rfl, by simpa [Own] using hown, ?_⟩
    exact (Below.refl _ w).grown hgrow (Nat.le_refl _) (by intro k hk; simp [Value.ownBlock] at hk)
theorem step_app_run {P : Program} {ops : Array Oper} {o : Oper} {a : Act} {w : World} {K : Act → World → Prop} {Q : Exit → Act → World → Prop} {E : Prop}
    (hg : o.guard = none) (s x : Operand) (t : TypeId) (hop : o.op = Op.call { callee := Callee.builtin Builtin.append, args := #[s, x], argTypes := #[t, t] })
    (vs vx : Value) (hs : a.eval s = vs) (hx : a.eval x = vx) {v' : Value} {w' : World} (hr : ∀ ty, (Builtin.append_ #[t, t] ty #[vs, vx]).run P w = .ok v' w') (hK : K (a.put o.dst v') w') :
    if Region.wanted o (yielded ops a.tmps) = true then Oper.wp P o a w K Q else E := by
  have hw : Region.wanted o (yielded ops a.tmps) = true := by simp [Region.wanted, hg]
  rw [if_pos hw]
  have hrun := hr o.type
  unfold Oper.wp
  simp [execOp, hop, resolve, invoke, builtin, hs, hx, hrun, Result.andThen]
  exact hK
set_option maxHeartbeats 1000000 in
theorem high_all (B : Nat) (v : Value) (l : List UInt8) (x k : Nat) (w : World) (hx : x < 18446744073709551616) (hk : k ≤ 8) (hB : B ≤ w.heap.size) (hv : Own B w v l) (hl : l.length ≤ 140737488353000) :
    Calls Try.prog 52 #[v, .int .u64 (x : Int), .int .i64 (k : Int)] w fun e w' => ∃ v', e = .returned v' ∧ Own B w' v' (l ++ be x k) ∧ Below B w w' := by
  obtain ⟨i0, hi, hz0, hz1, hz2⟩ := info_parts Try.info5
  have HV : Hid (Own B w v l) := hv
  clear hv
  obtain ⟨L, hL⟩ : ∃ L, L = l ++ be x k := ⟨_, rfl⟩
  have HL : Hid (L = l ++ be x k) := hL
  rw [← hL]
  have HX : Hid (x < 18446744073709551616) := hx
  clear hL hx
  go_enter Try.func52, Try.ntmps52
  go_wp2
  go_loopw [0, 2] (fun b i wr => ∃ (j : Nat) (acc : List UInt8), j ≤ k ∧ i = .int .i64 j ∧ Hid (Own B wr b acc) ∧ Hid (Below B w wr) ∧ Hid (acc ++ be x j = L)) (fun _ i _ => (intOf i).toNat)
  case atStart => exact ⟨k, l, Nat.le_refl _, rfl, HV, Below.refl _ _, HL.out.symm⟩
  case round =>
    obtain ⟨j, acc, hj, rfl, HO, HB, HE⟩ := hrel
    cases j with
    | zero =>
      go_wp2
      go_ret
      have he : acc = L := by have := HE.out; simpa [be] using this
      rw [he] at HO
      exact ⟨_, rfl, HO.out, HB.out⟩
    | succ j =>
      have hj0 : (0 : Int) < ((j + 1 : Nat) : Int) := by omega
      have hacc : acc.length ≤ 140737488353100 := by
        have h1 := congrArg List.length HE.out
        rw [HL.out] at h1
        simp [be_length] at h1
        omega
      have hws : B ≤ wr.heap.size := Nat.le_trans hB HB.out.size
      go_wp2
      go_loop [7, 8] (fun y i => ∃ m : Nat, m ≤ j ∧ i = .int .i64 m ∧ y = .int .u64 ((x / 256 ^ m : Nat) : Int)) (fun _ i => j - (intOf i).toNat)
      case atStart => exact ⟨0, Nat.zero_le _, rfl, by simp⟩
      case round =>
        obtain ⟨m, hm, rfl, rfl⟩ := hrel
        have HS : Hid (x / 256 ^ (m + 1) = x / 256 ^ m / 256) := div_step x m
        obtain ⟨q, hq⟩ : ∃ q, x / 256 ^ m = q := ⟨_, rfl⟩
        rw [hq] at HS ⊢
        have HQ : Hid (x / 256 ^ m = q) := hq
        have hqu : (q : Int) ≤ 18446744073709551615 := by
          have h1 := HX.out
          have h2 := Nat.div_le_self x (256 ^ m)
          omega
        clear hq
        by_cases hlt : m < j
        · go_wp2
          go_round
          case rel => exact ⟨m + 1, by omega, by go_num, by rw [HS.out]; go_num⟩
          case measure => simp [intOf]; omega
        · obtain rfl : m = j := by omega
          go_wp2_with (at_builtin; refine wpList_append_own _ rfl _ _ 35 rfl B 5 i0 (.int .u8 0) 1 1 Try.underlying35 hi hz0 hz1 hz2 rfl (by decide) _ _ _ rfl (HO.out.alloc _) ⟨wr.heap.size, 0, none⟩ 1 1 (bval [UInt8.ofNat q]) rfl ?qc1 ?qc2 ?qc3 ?qc4 ?qc5 ?qc6 ?_)
          case qc1 => rfl
          case qc2 =>
            intro i u hu
            rw [byte_lit q]
            exact hu
          case qc3 => intro u hu; obtain ⟨x, _, rfl⟩ := List.mem_map.1 hu; rfl
          case qc4 => unfold maxLen; omega
          case qc5 => omega
          case qc6 => omega
          intro v' w1 hown hgrow hnil
          have HW : Hid (Own B w1 v' (acc ++ [UInt8.ofNat q])) := by
            show w1.ownsRow B 5 1 v' _ _
            have e1 : (acc ++ [UInt8.ofNat q]).length = acc.length + 1 := by simp
            have e2 : bval (acc ++ [UInt8.ofNat q]) = bval acc ++ bval [UInt8.ofNat q] := by simp [bval]
            rw [e1, e2]
            exact hown
          have HBW : Hid (Below B w w1) := by
            refine (HB.out.alloc hws _).grown hgrow (by simp; omega) ?_
            intro kk hkk
            exact (World.ownsRow.lt HO.out kk hkk).1
          clear hown hgrow hnil
          go_wp2
          go_roundw
          case rel =>
            refine ⟨m, acc ++ [UInt8.ofNat q], by omega, by go_num, HW, HBW, ?_⟩
            show _ = L
            rw [← HE.out, ← HQ.out, pow_256]
            simp [be]
          case measure => simp [intOf]
theorem refNum_smallA (v : Value) (l : List UInt8) (m : Nat) (n : Int) (hn : n < 240) (hm : m = n.toNat) (w : World) (hv : Lib.HoldsBytes w v l) (hl : l.length ≤ 140737488353000) : Calls Try.prog 51 #[v, .int .i64 n] w (RB w (l ++ enc m)) := by
  obtain ⟨i0, hi, hz0, hz1, hz2⟩ := info_parts Try.info5
  have HV : Hid (Lib.HoldsBytes w v l) := hv
  have HLL : Hid (l.length ≤ 140737488353000) := hl
  obtain ⟨L, hL⟩ : ∃ L, L = l ++ enc m := ⟨_, rfl⟩
  have HL : Hid (L = l ++ enc m) := hL
  rw [← hL]
  have HE : Hid (enc m = [UInt8.ofNat m]) := by show enc m = _; unfold enc; rw [if_pos (by omega)]
  have BY : Hid (bval [UInt8.ofNat m] = [.int .u8 (m : Int)]) := by
    show bval [UInt8.ofNat m] = _
    have e : ((UInt8.ofNat m).toNat : Int) = (m : Int) := by rw [UInt8.toNat_ofNat']; omega
    simp only [bval, List.map_cons, List.map_nil]
    rw [e]
  have hm240 : (m : Int) < 240 := by omega
  rw [HE.out] at HL
  obtain ⟨p, cap, rfl, q1, q2⟩ := hv
  clear q1 q2 hL
  by_cases h0 : n < 0
  · obtain rfl : m = 0 := by omega
    clear hm
    have BY0 : Hid (bval [UInt8.ofNat 0] = [.int .u8 0]) := BY.out
    clear BY
    go_enter Try.func51, Try.ntmps51
    go_wp2_with fail
    refine (copied_all _ _ _ HV.out (by have := HLL.out; omega)).mono ?_
    rintro e w1 ⟨v1, rfl, ho, hb⟩
    have HO : Hid (Own w.heap.size w1 v1 l) := ho
    have HB : Hid (Below w.heap.size w w1) := hb
    clear ho hb
    go_wp2_with (at_builtin; refine wpList_append_own _ rfl _ _ 35 rfl w.heap.size 5 i0 (.int .u8 0) 1 1 Try.underlying35 hi hz0 hz1 hz2 rfl (by decide) _ _ _ rfl (HO.out.alloc _) ⟨w1.heap.size, 0, none⟩ 1 1 (bval [UInt8.ofNat 0]) rfl ?qc1 ?qc2 ?qc3 ?qc4 ?qc5 ?qc6 ?_)
    case qc1 => rfl
    case qc2 =>
      intro i u hu
      rw [BY0.out] at hu
      first | exact hu | (rw [add_plain, Nat.zero_add]; simpa using hu)
    case qc3 => intro u hu; obtain ⟨x, _, rfl⟩ := List.mem_map.1 hu; rfl
    case qc4 => unfold maxLen; omega
    case qc5 => omega
    case qc6 => have := HB.out.size; simp; omega
    intro v2 w2 hown hgrow hnil
    have HW : Hid (Own w.heap.size w2 v2 (l ++ [UInt8.ofNat 0])) := own_snoc hown
    have HBW : Hid (Below w.heap.size w w2) := by
      refine (HB.out.alloc HB.out.size _).grown hgrow (by have := HB.out.size; simp; omega) ?_
      intro kk hkk
      exact (World.ownsRow.lt HO.out kk hkk).1
    clear hown hgrow hnil
    go_wp2
    go_ret
    exact ⟨_, rfl, by rw [HL.out]; exact HW.out, HBW.out⟩
  · obtain rfl : n = (m : Int) := by omega
    clear hm
    go_enter Try.func51, Try.ntmps51
    go_wp2_with fail
    refine (copied_all _ _ _ HV.out (by have := HLL.out; omega)).mono ?_
    rintro e w1 ⟨v1, rfl, ho, hb⟩
    have HO : Hid (Own w.heap.size w1 v1 l) := ho
    have HB : Hid (Below w.heap.size w w1) := hb
    clear ho hb
    go_wp2_with (at_builtin; refine wpList_append_own _ rfl _ _ 35 rfl w.heap.size 5 i0 (.int .u8 0) 1 1 Try.underlying35 hi hz0 hz1 hz2 rfl (by decide) _ _ _ rfl (HO.out.alloc _) ⟨w1.heap.size, 0, none⟩ 1 1 (bval [UInt8.ofNat m]) rfl ?qc1 ?qc2 ?qc3 ?qc4 ?qc5 ?qc6 ?_)
    case qc1 => rfl
    case qc2 =>
      intro i u hu
      rw [BY.out] at hu
      first | exact hu | (rw [add_plain, Nat.zero_add]; simpa using hu)
    case qc3 => intro u hu; obtain ⟨x, _, rfl⟩ := List.mem_map.1 hu; rfl
    case qc4 => unfold maxLen; omega
    case qc5 => omega
    case qc6 => have := HB.out.size; simp; omega
    intro v2 w2 hown hgrow hnil
    have HW : Hid (Own w.heap.size w2 v2 (l ++ [UInt8.ofNat m])) := own_snoc hown
    have HBW : Hid (Below w.heap.size w w2) := by
      refine (HB.out.alloc HB.out.size _).grown hgrow (by have := HB.out.size; simp; omega) ?_
      intro kk hkk
      exact (World.ownsRow.lt HO.out kk hkk).1
    clear hown hgrow hnil
    go_wp2
    go_ret
    exact ⟨_, rfl, by rw [HL.out]; exact HW.out, HBW.out⟩
theorem refNum_bigA (v : Value) (l : List UInt8) (m : Nat) (h0 : 240 ≤ m) (h1 : m < 9223372036854775808) (w : World) (hv : Lib.HoldsBytes w v l) (hl : l.length ≤ 140737488352900) : Calls Try.prog 51 #[v, .int .i64 (m : Int)] w (RB w (l ++ enc m)) := by
  obtain ⟨i0, hi, hz0, hz1, hz2⟩ := info_parts Try.info5
  have HV : Hid (Lib.HoldsBytes w v l) := hv
  have HLL : Hid (l.length ≤ 140737488353000) := by show l.length ≤ 140737488353000; omega
  obtain ⟨L, hL⟩ : ∃ L, L = l ++ enc m := ⟨_, rfl⟩
  have HL : Hid (L = l ++ enc m) := hL
  rw [← hL]
  have HE : Hid (enc m = [UInt8.ofNat (239 + nb m)] ++ be m (nb m)) := by show enc m = _; unfold enc; rw [if_neg (by omega)]; rfl
  obtain ⟨k1, k8⟩ := nb_bounds m h0 h1
  have BY : Hid (bval [UInt8.ofNat (239 + nb m)] = [.int .u8 (239 + (nb m : Nat) : Int)]) := by
    show bval [UInt8.ofNat (239 + nb m)] = _
    have e : ((UInt8.ofNat (239 + nb m)).toNat : Int) = 239 + (nb m : Nat) := by rw [UInt8.toNat_ofNat']; omega
    simp only [bval, List.map_cons, List.map_nil]
    rw [e]
  obtain ⟨b0, hb0⟩ : ∃ b, UInt8.ofNat (239 + nb m) = b := ⟨_, rfl⟩
  rw [hb0] at HE BY
  clear hb0
  have H1 : Hid (m < 9223372036854775808) := h1
  have d0 : decide ((m : Int) < 0) = false := decide_eq_false (by omega)
  have d1 : decide ((m : Int) < 240) = false := decide_eq_false (by omega)
  have hw : IntKind.u64.wrap (m : Int) = (m : Int) := by rw [IntKind.wrap_u64]; omega
  have HLM : Hid (l.length ≤ 140737488352900) := hl
  obtain ⟨p, cap, rfl, q1, q2⟩ := hv
  clear q1 q2 hL
  clear h0 h1
  go_enter Try.func51, Try.ntmps51
  go_wp2_with fail
  refine (bytes_calls _ _ H1.out).mono ?_
  rintro e w0 ⟨rfl, hw0⟩
  have hw00 := hw0.symm
  subst hw00
  go_wp2_with fail
  refine (copied_all _ _ _ HV.out (by have := HLL.out; omega)).mono ?_
  rintro e w1 ⟨v1, rfl, ho, hb⟩
  have HO : Hid (Own w.heap.size w1 v1 l) := ho
  have HB : Hid (Below w.heap.size w w1) := hb
  clear ho hb
  go_wp2_with (at_builtin; refine wpList_append_own _ rfl _ _ 35 rfl w.heap.size 5 i0 (.int .u8 0) 1 1 Try.underlying35 hi hz0 hz1 hz2 rfl (by decide) _ _ _ rfl (HO.out.alloc _) ⟨w1.heap.size, 0, none⟩ 1 1 (bval [b0]) rfl ?qc1 ?qc2 ?qc3 ?qc4 ?qc5 ?qc6 ?_)
  case qc1 => rfl
  case qc2 =>
    intro i u hu
    rw [BY.out] at hu
    first | exact hu | (rw [add_plain, Nat.zero_add]; simpa using hu)
  case qc3 => intro u hu; obtain ⟨x, _, rfl⟩ := List.mem_map.1 hu; rfl
  case qc4 => unfold maxLen; omega
  case qc5 => omega
  case qc6 => have := HB.out.size; simp; omega
  intro v2 w2 hown hgrow hnil
  have HW : Hid (Own w.heap.size w2 v2 (l ++ [b0])) := own_snoc hown
  have HBW : Hid (Below w.heap.size w w2) := by
    refine (HB.out.alloc HB.out.size _).grown hgrow (by have := HB.out.size; simp; omega) ?_
    intro kk hkk
    exact (World.ownsRow.lt HO.out kk hkk).1
  clear hown hgrow hnil
  go_wp2_with fail
  refine (high_all w.heap.size _ _ _ _ _ (by have := H1.out; omega) k8 HBW.out.size HW.out (by have := HLM.out; simp; omega)).mono ?_
  rintro e w3 ⟨v3, rfl, ho, hb⟩
  have HO3 : Hid (Own w.heap.size w3 v3 (l ++ [b0] ++ be m (nb m))) := ho
  have HB3 : Hid (Below w.heap.size w2 w3) := hb
  clear ho hb
  go_wp2
  go_ret
  refine ⟨_, rfl, ?_, HBW.out.trans HB3.out⟩
  rw [HL.out, HE.out, ← List.append_assoc]
  exact HO3.out
theorem refBits_all (v : Value) (l : List UInt8) (x : Nat) (hx : x < 18446744073709551616) (w : World) (hv : Lib.HoldsBytes w v l) (hl : l.length ≤ 140737488353000) : Calls Try.prog 38 #[v, .int .u64 (x : Int)] w (RB w (l ++ be x 8)) := by
  have HV : Hid (Lib.HoldsBytes w v l) := hv
  have HLL : Hid (l.length ≤ 140737488353000) := hl
  obtain ⟨L, hL⟩ : ∃ L, L = l ++ be x 8 := ⟨_, rfl⟩
  have HL : Hid (L = l ++ be x 8) := hL
  rw [← hL]
  have HX : Hid (x < 18446744073709551616) := hx
  clear hx
  obtain ⟨p, cap, rfl, q1, q2⟩ := hv
  clear q1 q2 hL
  go_enter Try.func38, Try.ntmps38
  go_wp2_with fail
  refine (copied_all _ _ _ HV.out (by have := HLL.out; omega)).mono ?_
  rintro e w1 ⟨v1, rfl, ho, hb⟩
  have HO : Hid (Own w.heap.size w1 v1 l) := ho
  have HB : Hid (Below w.heap.size w w1) := hb
  clear ho hb
  go_wp2_with fail
  refine (high_all w.heap.size _ _ x 8 _ HX.out (by omega) HB.out.size HO.out HLL.out).mono ?_
  rintro e w3 ⟨v3, rfl, ho, hb⟩
  have HO3 : Hid (Own w.heap.size w3 v3 (l ++ be x 8)) := ho
  have HB3 : Hid (Below w.heap.size w1 w3) := hb
  clear ho hb
  go_wp2
  go_ret
  exact ⟨_, rfl, by rw [HL.out]; exact HO3.out, HB.out.trans HB3.out⟩
theorem refInt_all (v : Value) (l : List UInt8) (n : Int) (hn : (Lit.int .i64 n).wf = true) (w : World) (hv : Lib.HoldsBytes w v l) (hl : l.length ≤ 140737488353000) : Calls Try.prog 36 #[v, .int .i64 n] w (RB w (l ++ be (tn n) 8)) := by
  have HV : Hid (Lib.HoldsBytes w v l) := hv
  have HLL : Hid (l.length ≤ 140737488353000) := hl
  obtain ⟨L, hL⟩ : ∃ L, L = l ++ be (tn n) 8 := ⟨_, rfl⟩
  have HL : Hid (L = l ++ be (tn n) 8) := hL
  rw [← hL]
  have HX : Hid (tn n < 18446744073709551616) := tn_lt n hn
  have ht := turn_top n hn
  clear hn
  obtain ⟨p, cap, rfl, q1, q2⟩ := hv
  clear q1 q2 hL
  go_enter Try.func36, Try.ntmps36
  go_wp2_with fail
  refine (copied_all _ _ _ HV.out (by have := HLL.out; omega)).mono ?_
  rintro e w1 ⟨v1, rfl, ho, hb⟩
  have HO : Hid (Own w.heap.size w1 v1 l) := ho
  have HB : Hid (Below w.heap.size w w1) := hb
  clear ho hb
  go_wp2_with fail
  refine (high_all w.heap.size _ _ (tn n) 8 _ HX.out (by omega) HB.out.size HO.out HLL.out).mono ?_
  rintro e w3 ⟨v3, rfl, ho, hb⟩
  have HO3 : Hid (Own w.heap.size w3 v3 (l ++ be (tn n) 8)) := ho
  have HB3 : Hid (Below w.heap.size w1 w3) := hb
  clear ho hb
  go_wp2
  go_ret
  exact ⟨_, rfl, by rw [HL.out]; exact HO3.out, HB.out.trans HB3.out⟩
theorem refNum_all (v : Value) (l : List UInt8) (n : Int) (hn : n < 9223372036854775808) (w : World) (hv : Lib.HoldsBytes w v l) (hl : l.length ≤ 140737488352900) : Calls Try.prog 51 #[v, .int .i64 n] w (RB w (l ++ enc n.toNat)) := by
  by_cases h : n < 240
  · exact refNum_smallA v l n.toNat n h rfl w hv (by omega)
  · obtain ⟨m, rfl⟩ := Int.eq_ofNat_of_zero_le (show 0 ≤ n by omega)
    exact refNum_bigA v l m (by omega) (by omega) w hv hl
theorem refText_all (v : Value) (l : List UInt8) (s : ByteArray) (w : World) (hv : Lib.HoldsBytes w v l) (hl : l.length ≤ 140737488352900) (hs : s.size ≤ 1000) :
    Calls Try.prog 35 #[v, .string s] w (RB w (l ++ enc s.size ++ s.data.toList)) := by
  obtain ⟨i0, hi, hz0, hz1, hz2⟩ := info_parts Try.info5
  obtain ⟨L, hL⟩ : ∃ L, L = l ++ enc s.size ++ s.data.toList := ⟨_, rfl⟩
  have HL : Hid (L = l ++ enc s.size ++ s.data.toList) := hL
  rw [← hL]
  have NC := refNum_all v l (s.size : Int) (by omega) w hv hl
  rw [Int.toNat_natCast] at NC
  have HC : Hid (Calls Try.prog 51 #[v, .int .i64 (s.size : Int)] w (RB w (l ++ enc s.size))) := NC
  have he := enc_length s.size (by omega)
  have hlen : (l ++ enc s.size).length ≤ 140737488353100 := by rw [List.length_append]; omega
  generalize l ++ enc s.size = l2 at HC HL hlen
  obtain ⟨p, cap, rfl, q1, q2⟩ := hv
  clear q1 q2 hL NC he hl
  go_enter Try.func35, Try.ntmps35
  go_wp2_with fail
  refine HC.out.mono ?_
  rintro e w1 ⟨v1, rfl, ho, hb⟩
  have HO : Hid (Own w.heap.size w1 v1 l2) := ho
  have HB : Hid (Below w.heap.size w w1) := hb
  clear ho hb
  go_wp2_with (at_builtin; refine Lib.wpList_append_own_string _ rfl _ _ 35 9 rfl w.heap.size 5 i0 Try.underlying35 Try.underlying9 hi hz0 hz1 hz2 _ _ _ rfl HO.out s rfl ?qc4 ?qc5 ?qc6 ?_)
  case qc4 => unfold maxLen; omega
  case qc5 => omega
  case qc6 => exact HB.out.size
  intro v2 w2 hown hgrow hnil
  have HW : Hid (Own w.heap.size w2 v2 (l2 ++ s.data.toList)) := by
    show w2.ownsRow w.heap.size 5 1 v2 _ _
    have e1 : (l2 ++ s.data.toList).length = l2.length + s.size := by rw [List.length_append, str_len]
    have e2 : bval (l2 ++ s.data.toList) = bval l2 ++ Lib.strCells s := by simp [bval, Lib.strCells]
    rw [e1, e2]
    exact hown
  have HBW : Hid (Below w.heap.size w w2) := by
    refine HB.out.grown hgrow HB.out.size ?_
    intro kk hkk
    exact (World.ownsRow.lt HO.out kk hkk).1
  clear hown hgrow hnil
  go_wp2
  go_ret
  exact ⟨_, rfl, by rw [HL.out]; exact HW.out, HBW.out⟩
def BytesAtA (n : Nat) : Prop := ∀ (d : Nat) (v : Value) (t : Tv) (b : Value) (L : List UInt8) (w : World), Is w n v t → ShapeT n (d : Int) t → Lib.HoldsBytes w b L → L.length + (bytesT n t).length ≤ 140737488352600 → Calls Try.prog 55 #[b, v] w (RH w (L ++ bytesT n t))
set_option maxHeartbeats 2000000 in
set_option maxRecDepth 100000 in
theorem bytes_flatA (k x : Int) (b : Nat) (s : ByteArray) (a : Option Addr) (c : Nat) (bv : Value) (L : List UInt8) (w : World) (hk0 : 0 ≤ k) (hk : k ≤ 3) (hx : (Lit.int .i64 x).wf = true) (hb : b < 18446744073709551616) (hs : s.size ≤ 200) (hv : Lib.HoldsBytes w bv L) (hl : L.length + 210 ≤ 140737488352900) :
    Calls Try.prog 55 #[bv, .agg #[.int .i64 k, .int .i64 x, .int .u64 (b : Int), .string s, .slice a 0 c]] w (RH w (L ++ (enc k.toNat ++ (if k = 1 then be (tn x) 8 else if k = 2 then be b 8 else if k = 3 then enc s.size ++ s.data.toList else [])))) := by
  have he : (enc k.toNat).length = 1 := enc_one (by omega)
  have HN : Hid (∀ W, Below w.heap.size w W → Calls Try.prog 51 #[bv, .int .i64 k] W (RB W (L ++ enc k.toNat))) := fun W hB => refNum_all bv L k (by omega) W (holds_below hv hB) (by omega)
  obtain ⟨bp, bm, bc, rfl⟩ := holds_slice hv
  obtain ⟨M, hM⟩ : ∃ M, M = L ++ enc k.toNat := ⟨_, rfl⟩
  have hml : M.length ≤ 140737488352700 := by rw [hM, List.length_append]; omega
  rw [← List.append_assoc]
  rw [← hM] at HN ⊢
  have H1 : Hid (∀ W v, Lib.HoldsBytes W v M → Calls Try.prog 36 #[v, .int .i64 x] W (RB W (M ++ be (tn x) 8))) := fun W v h => refInt_all v M x hx W h (by omega)
  have H2 : Hid (∀ W v, Lib.HoldsBytes W v M → Calls Try.prog 38 #[v, .int .u64 (b : Int)] W (RB W (M ++ be b 8))) := fun W v h => refBits_all v M b hb W h (by omega)
  have H3 : Hid (∀ W v, Lib.HoldsBytes W v M → Calls Try.prog 35 #[v, .string s] W (RB W (M ++ enc s.size ++ s.data.toList))) := fun W v h => refText_all v M s W h (by omega) (by omega)
  clear hv hl he hM hml hx hb hs
  rcases (by omega : k = 0 ∨ k = 1 ∨ k = 2 ∨ k = 3) with rfl | rfl | rfl | rfl
  · rw [if_neg (by decide), if_neg (by decide), if_neg (by decide), List.append_nil]
    clear hk hk0
    go_enter Try.func55, Try.ntmps55
    go_wp2_with fail
    refine (HN.out _ (bel1 _ _)).mono ?_
    rintro e w1 ⟨v1, rfl, ho, hb⟩
    have HV : Hid (Lib.HoldsBytes w1 v1 M) := own_holds ho
    have HB : Hid (Below w.heap.size w w1) := bel2 (bel1 _ _) hb
    obtain ⟨p0, p1, p2, p3, p4⟩ := (box_at w (.int .i64 0) (.int .i64 x) (.int .u64 (b : Int)) (.string s) (.slice a 0 c)).below hb
    clear ho hb
    go_wp2_with fail
    go_ret
    exact ⟨_, rfl, HV.out, HB.out⟩
  · rw [if_pos rfl]
    clear hk hk0
    go_enter Try.func55, Try.ntmps55
    go_wp2_with fail
    refine (HN.out _ (bel1 _ _)).mono ?_
    rintro e w1 ⟨v1, rfl, ho, hb⟩
    have HV : Hid (Lib.HoldsBytes w1 v1 M) := own_holds ho
    have HB : Hid (Below w.heap.size w w1) := bel2 (bel1 _ _) hb
    obtain ⟨p0, p1, p2, p3, p4⟩ := (box_at w (.int .i64 1) (.int .i64 x) (.int .u64 (b : Int)) (.string s) (.slice a 0 c)).below hb
    clear ho hb
    go_wp2_with fail
    refine (H1.out _ _ HV.out).mono ?_
    rintro e w2 ⟨v2, rfl, ho, hb⟩
    have HV2 : Hid (Lib.HoldsBytes w2 v2 _) := own_holds ho
    have HB2 : Hid (Below w.heap.size w w2) := bel2 HB.out hb
    clear ho hb
    go_wp2_with fail
    go_ret
    exact ⟨_, rfl, HV2.out, HB2.out⟩
  · rw [if_neg (by decide), if_pos rfl]
    clear hk hk0
    go_enter Try.func55, Try.ntmps55
    go_wp2_with fail
    refine (HN.out _ (bel1 _ _)).mono ?_
    rintro e w1 ⟨v1, rfl, ho, hb⟩
    have HV : Hid (Lib.HoldsBytes w1 v1 M) := own_holds ho
    have HB : Hid (Below w.heap.size w w1) := bel2 (bel1 _ _) hb
    obtain ⟨p0, p1, p2, p3, p4⟩ := (box_at w (.int .i64 2) (.int .i64 x) (.int .u64 (b : Int)) (.string s) (.slice a 0 c)).below hb
    clear ho hb
    go_wp2_with fail
    refine (H2.out _ _ HV.out).mono ?_
    rintro e w2 ⟨v2, rfl, ho, hb⟩
    have HV2 : Hid (Lib.HoldsBytes w2 v2 _) := own_holds ho
    have HB2 : Hid (Below w.heap.size w w2) := bel2 HB.out hb
    clear ho hb
    go_wp2_with fail
    go_ret
    exact ⟨_, rfl, HV2.out, HB2.out⟩
  · rw [if_neg (by decide), if_neg (by decide), if_pos rfl, ← List.append_assoc]
    clear hk hk0
    go_enter Try.func55, Try.ntmps55
    go_wp2_with fail
    refine (HN.out _ (bel1 _ _)).mono ?_
    rintro e w1 ⟨v1, rfl, ho, hb⟩
    have HV : Hid (Lib.HoldsBytes w1 v1 M) := own_holds ho
    have HB : Hid (Below w.heap.size w w1) := bel2 (bel1 _ _) hb
    obtain ⟨p0, p1, p2, p3, p4⟩ := (box_at w (.int .i64 3) (.int .i64 x) (.int .u64 (b : Int)) (.string s) (.slice a 0 c)).below hb
    clear ho hb
    go_wp2_with fail
    refine (H3.out _ _ HV.out).mono ?_
    rintro e w2 ⟨v2, rfl, ho, hb⟩
    have HV2 : Hid (Lib.HoldsBytes w2 v2 _) := own_holds ho
    have HB2 : Hid (Below w.heap.size w w2) := bel2 HB.out hb
    clear ho hb
    go_wp2_with fail
    go_ret
    exact ⟨_, rfl, HV2.out, HB2.out⟩
set_option maxHeartbeats 2000000 in
set_option maxRecDepth 100000 in
theorem bytes_listA (n d : Nat) (ih : BytesAtA n) (x : Int) (b : Int) (s : ByteArray) (a : Option Addr) (c : Nat) (l : List Tv) (bv : Value) (L : List UInt8) (w : World) (hn : l.length ≤ 12) (hr : Row (Is w n) w a l) (hs : ∀ (i : Nat) t, l[i]? = some t → ShapeT n (d : Int) t) (hv : Lib.HoldsBytes w bv L) (hl : L.length + 2 + ((l.map (bytesT n)).flatten).length ≤ 140737488352600) :
    Calls Try.prog 55 #[bv, .agg #[.int .i64 4, .int .i64 x, .int .u64 b, .string s, .slice a l.length c]] w (RH w (L ++ enc 4 ++ enc l.length ++ (l.map (bytesT n)).flatten)) := by
  have hfl : ∀ j (hj : j < l.length), (((l.take j).map (bytesT n)).flatten).length + (bytesT n l[j]).length ≤ ((l.map (bytesT n)).flatten).length := fun j hj => by
    have h1 := flat_le (n := n) (l := l) (j := j + 1)
    rw [flat_more hj, List.length_append] at h1
    exact h1
  have e1 : (enc 4).length = 1 := enc_one (by omega)
  have e2 : (enc l.length).length = 1 := enc_one hn
  have HN : Hid (∀ W, Below w.heap.size w W → Calls Try.prog 51 #[bv, .int .i64 4] W (RB W (L ++ enc 4))) := fun W hB => refNum_all bv L 4 (by omega) W (holds_below hv hB) (by omega)
  have HM : Hid (∀ W v, Lib.HoldsBytes W v (L ++ enc 4) → Calls Try.prog 51 #[v, .int .i64 (l.length : Int)] W (RB W (L ++ enc 4 ++ enc l.length))) := fun W v h => by
    have := refNum_all v (L ++ enc 4) (l.length : Int) (by omega) W h (by rw [List.length_append]; omega)
    rwa [Int.toNat_natCast] at this
  obtain ⟨M, hM⟩ : ∃ M, M = L ++ enc 4 ++ enc l.length := ⟨_, rfl⟩
  have hml : M.length = L.length + 2 := by rw [hM, List.length_append, List.length_append]; omega
  rw [← hM] at HM ⊢
  obtain ⟨bp, bm, bc, rfl⟩ := holds_slice hv
  have HI : Hid (∀ (j : Nat) (hj : j < l.length) (v : Value) (bv : Value) (W : World), Is W n v (l[j]) → Lib.HoldsBytes W bv (M ++ ((l.take j).map (bytesT n)).flatten) → Calls Try.prog 55 #[bv, v] W (RH W (M ++ ((l.take (j + 1)).map (bytesT n)).flatten))) := fun j hj v bv W hi hb => by
    have := ih d v l[j] bv _ W hi (hs j _ (List.getElem?_eq_getElem hj)) hb (by rw [List.length_append]; have := hfl j hj; omega)
    rwa [List.append_assoc, ← flat_more hj] at this
  have HR : Hid (Row (Is w n) w a l) := hr
  obtain ⟨N, hN⟩ : ∃ N, N = l.length := ⟨_, rfl⟩
  rw [← hN] at HM ⊢
  have HNN : Hid (N = l.length ∧ N ≤ 12) := ⟨hN, by omega⟩
  clear hr hv hl hs hfl e1 e2 hM hml hN hn ih
  go_enter Try.func55, Try.ntmps55
  go_wp2_with fail
  refine (HN.out _ (bel1 _ _)).mono ?_
  rintro e w1 ⟨v1, rfl, ho, hb⟩
  have HV : Hid (Lib.HoldsBytes w1 v1 _) := own_holds ho
  have HB : Hid (Below w.heap.size w w1) := bel2 (bel1 _ _) hb
  have HP : Hid (At5 w1 w.heap.size 0 (.int .i64 4) (.int .i64 x) (.int .u64 b) (.string s) (.slice a N c)) := (box_at w (.int .i64 4) (.int .i64 x) (.int .u64 b) (.string s) (.slice a N c)).below hb
  clear ho hb
  obtain ⟨p0, p1, p2, p3, p4⟩ := HP.out
  go_wp2_with fail
  refine (HM.out _ _ HV.out).mono ?_
  rintro e w2 ⟨v2, rfl, ho, hb⟩
  have HV2 : Hid (Lib.HoldsBytes w2 v2 M) := own_holds ho
  have HB2 : Hid (Below w.heap.size w w2) := bel2 HB.out hb
  have HP2 : Hid (At5 w2 w.heap.size 0 (.int .i64 4) (.int .i64 x) (.int .u64 b) (.string s) (.slice a N c)) := HP.out.below hb
  clear ho hb p0 p1 p2 p3 p4
  go_wp2_with fail
  go_loopw [0, 5] (fun bb i wr => ∃ j : Nat, j ≤ N ∧ i = .int .i64 j ∧ Hid (Lib.HoldsBytes wr bb (M ++ ((l.take j).map (bytesT n)).flatten)) ∧ Hid (Below w2.heap.size w2 wr)) (fun _ i _ => N - (intOf i).toNat)
  case atStart => exact ⟨0, Nat.zero_le _, rfl, by simpa using HV2, Below.refl _ _⟩
  case round =>
    obtain ⟨j, hj, rfl, HE, HBr⟩ := hrel
    obtain ⟨p0, p1, p2, p3, p4⟩ := HP2.out.below HBr.out
    by_cases hlt : j < N
    · have HT : Hid (j < l.length) := by have := HNN.out.1; show _ < _; omega
      obtain ⟨B, o, c0, c1, c2, c3, c4, rfl, h5, hi⟩ := HR.out j _ (List.getElem?_eq_getElem HT.out)
      obtain ⟨k', x', b', s', a', m', c', rfl, rfl, rfl, rfl, rfl⟩ := hi.shape
      have HBw := bel2 HB2.out HBr.out
      obtain ⟨e0, e1, e2, e3, e4⟩ := h5.below HBw
      have C0 : Hid (Calls Try.prog 55 #[_, _] wr _) := HI.out j HT.out _ _ wr (hi.below HBw) HE.out
      have HW : Hid (wrap64 ((j : Int) + 1) = ((j + 1 : Nat) : Int)) := wr1 hlt (by have := HNN.out.2; omega)
      have hjl : (j : Int) < (N : Int) := by omega
      clear hi h5 HBw
      go_wp2_with fail
      refine C0.out.mono ?_
      rintro x w3 ⟨v3, rfl, hv3, hb3⟩
      have HV3 : Hid (Lib.HoldsBytes w3 v3 _) := hv3
      have HB3 : Hid (Below w2.heap.size w2 w3) := bel2 HBr.out hb3
      clear hv3 hb3
      go_wp2_with fail
      exact ⟨⟨j + 1, hlt, by rw [HW.out], HV3, HB3⟩, meas hlt HW.out⟩
    · obtain rfl : j = N := by omega
      go_wp2_with fail
      go_ret
      refine ⟨_, rfl, ?_, bel2 HB2.out HBr.out⟩
      have := HE.out
      rwa [List.take_of_length_le (by have := HNN.out.1; omega)] at this
theorem bytes_calls45A : ∀ n, BytesAtA n := by
  intro n
  induction n with
  | zero => intro d v t b L w h; exact h.elim
  | succ n ih =>
    rintro d v ⟨k, x, b, s, l⟩ bv L w ⟨a, c, rfl, hf, hr⟩ ⟨hfi, hk, hs⟩ hv hl
    obtain ⟨b, rfl⟩ : ∃ m : Nat, b = m := ⟨b.toNat, by have := hf.b0; omega⟩
    obtain ⟨k0, k4, _, _, _, _, hsz, hn0, hn⟩ := hfi
    by_cases h4 : k = 4
    · subst h4
      obtain ⟨d', rfl⟩ : ∃ d', d = d' + 1 := ⟨d - 1, by have := hk rfl; omega⟩
      unfold bytesT at hl ⊢
      rw [if_neg (by decide), if_neg (by decide), if_neg (by decide), if_pos rfl] at hl ⊢
      have e1 : (enc (4 : Int).toNat).length = 1 := enc_one (by omega)
      have e2 : (enc l.length).length = 1 := enc_one hn
      rw [List.length_append, List.length_append, e1, e2] at hl
      have := bytes_listA n d' ih x b s a c l bv L w hn hr (fun i t ht => by have := hs i t ht; rwa [show (((d' + 1 : Nat) : Int) - 1) = (d' : Int) by omega] at this) hv (by omega)
      rw [← List.append_assoc, ← List.append_assoc]
      exact this
    · obtain rfl : l = [] := List.eq_nil_of_length_eq_zero (hn0.resolve_left h4)
      have hx : (Lit.int .i64 x).wf = true := by
        have h1 := hf.x0
        have h2 := hf.x1
        simp only [Lit.wf, IntKind.min, IntKind.max, IntKind.signed, IntKind.bits, Bool.and_eq_true, decide_eq_true_eq, if_true]
        omega
      have := bytes_flatA k x b s a c bv L w k0 (by omega) hx (by have := hf.b1; omega) hsz hv (by omega)
      unfold bytesT
      rw [if_neg (c := k = 4) h4, Int.toNat_natCast]
      exact this
/-- append of bytes to none: its run. -/
theorem bapp_nil (v : Value) (l : List UInt8) (w : World) (hv : Lib.HoldsBytes w v l) (hl : l.length ≤ 140737488355328) :
    ∃ v' w', (∀ ty, (Builtin.append_ #[35, 35] ty #[.slice none 0 0, v]).run Try.prog w = .ok v' w') ∧ Own w.heap.size w' v' l ∧ Below w.heap.size w w' := by
  obtain ⟨p, cap, rfl, h1, h2⟩ := hv
  obtain ⟨i0, hi, hz0, hz1, hz2⟩ := info_parts Try.info5
  cases p with
  | none =>
    have hn : l = [] := h1 rfl
    subst hn
    exact ⟨.slice none 0 0, w, fun ty => by go_simp, World.ownsRow_nil _ _ _ _, Below.refl _ _⟩
  | some a =>
    have key : ∀ ty, ∃ v' w', (Builtin.append_ #[35, 35] ty #[.slice none 0 0, .slice (some a) l.length cap]).run Try.prog w = .ok v' w' ∧ w'.ownsRow w.heap.size 5 1 v' (0 + l.length) ([] ++ bval l) ∧ w.grownBy w' (Value.slice none 0 0).ownBlock ∧ _ := fun ty =>
      run_append_own (P := Try.prog) (w := w) w.heap.size 35 ty 5 i0 (.int .u8 0) 1 1 Try.underlying35 hi hz0 hz1 hz2 rfl (by decide) (.slice none 0 0) 0 [] (World.ownsRow_nil _ _ _ _) a l.length cap (bval l) (by simp [bval]) (by
        intro j u hj
        unfold bval at hj
        rw [List.getElem?_map] at hj
        obtain ⟨x, hx, rfl⟩ := Option.map_eq_some_iff.1 hj
        exact h2 a rfl j x hx) (by intro u hu; obtain ⟨x, _, rfl⟩ := List.mem_map.1 hu; rfl) (by unfold maxLen; omega) (by omega) (Nat.le_refl _)
    obtain ⟨v', w', hr, hown, hgrow, _⟩ := key 35
    exact ⟨v', w', fun ty => hr, by simpa [Own] using hown, (Below.refl _ w).grown hgrow (Nat.le_refl _) (by intro k hk; simp [Value.ownBlock] at hk)⟩
set_option maxHeartbeats 1000000 in
set_option maxRecDepth 100000 in
theorem rput_calls (n : Nat) (v : Value) (t : Tv) (b : Value) (l : List UInt8) (w : World) (h : Is w n v t) (hv : Lib.HoldsBytes w b l) (hl : l.length ≤ 140737488351600) :
    Calls Try.prog 37 #[b, v] w fun e w' => ∃ v', e = .returned v' ∧ (May n t → Lib.HoldsBytes w' v' (l ++ bytesT n t)) ∧ (¬ May n t → Lib.HoldsBytes w' v' l) ∧ Below w.heap.size w w' := by
  have HK : Hid (∀ W, Below w.heap.size w W → Calls Try.prog 54 #[v] W (CkP W (May n t))) := fun W hB => rcheck_calls n v t W (h.below hB)
  have HA : Hid (∀ W, Below w.heap.size w W → _) := fun W (hB : Below w.heap.size w W) => bapp_nil b l W (holds_below hv hB) (by omega)
  have HY : Hid (May n t → ∀ W bv, Below w.heap.size w W → Lib.HoldsBytes W bv l → Calls Try.prog 55 #[bv, v] W (RH W (l ++ bytesT n t))) := fun m W bv hB hb => bytes_calls45A n 4 v t bv l W (h.below hB) m.1 hb (by have := m.2; omega)
  obtain ⟨k, x, bb, s, a, m, c, rfl⟩ : ∃ k x b s a m c, v = .agg #[.int .i64 k, .int .i64 x, .int .u64 b, .string s, .slice a m c] := by
    cases n with
    | zero => exact h.elim
    | succ n => obtain ⟨k, x, b, s, l⟩ := t; obtain ⟨a, c, rfl, _⟩ := h; exact ⟨_, _, _, _, _, _, _, rfl⟩
  obtain ⟨bp, bm, bc, rfl⟩ := holds_slice hv
  have HM : Hid (May n t ∨ ¬ May n t) := Classical.em _
  clear h hv hl
  go_enter Try.func37, Try.ntmps37
  go_wp2_with fail
  refine (HK.out _ (bel1 _ _)).mono ?_
  rintro e w1 ⟨⟨r, rfl, hr1, hr2⟩, hb1⟩
  have HB1 : Hid (Below w.heap.size w w1) := bel2 (bel1 _ _) hb1
  obtain ⟨p0, p1, p2, p3, p4⟩ := (box_at w (.int .i64 k) (.int .i64 x) (.int .u64 bb) (.string s) (.slice a m c)).below hb1
  have HR : Hid ((May n t → r = 0) ∧ (¬ May n t → r = 1)) := ⟨hr1, hr2⟩
  clear hb1 hr1 hr2
  rcases HM.out with hm | hm
  · have hr0 := HR.out.1 hm
    subst hr0
    have HMy : Hid (May n t) := hm
    clear hm HR HM
    obtain ⟨v2, w2, hrun, ho2, hb2⟩ := HA.out w1.drew HB1.out.drew
    obtain ⟨vp, vm, vc, rfl⟩ := holds_slice (own_holds ho2)
    have HO2 : Hid (Lib.HoldsBytes w2 (.slice vp vm vc) l) := own_holds ho2
    have HB2 : Hid (Below w.heap.size w w2) := bel2 HB1.out.drew hb2
    have z : At5 w2 w.heap.size 0 (.int .i64 k) (.int .i64 x) (.int .u64 bb) (.string s) (.slice a m c) := At5.below (w := w1.drew) ⟨p0, p1, p2, p3, p4⟩ hb2
    obtain ⟨z0, z1, z2, z3, z4⟩ := z
    clear ho2 hb2
    go_wp2_with fail
    go_region_law (first
      | (refine step_app_run rfl (.const (.slice none 0 0)) (.tmp 10) 35 rfl (.slice none 0 0) (.slice bp bm bc) rfl rfl (by with_reducible assumption) ?_)
      | (go_simp; go_at_call 55; refine (HY.out HMy.out _ _ HB2.out HO2.out).mono ?_; rintro x w3 ⟨v3, rfl, hv3, hb3⟩; have HV3 : Hid (Lib.HoldsBytes w3 v3 _) := hv3; have HB3 : Hid (Below w.heap.size w w3) := bel2 HB2.out hb3; clear hv3 hb3))
    all_goals go_wp2_with fail
    all_goals go_ret
    all_goals exact ⟨_, rfl, fun _ => HV3.out, fun q => absurd HMy.out q, HB3.out⟩
  · have hr0 := HR.out.2 hm
    subst hr0
    have HMy : Hid (¬ May n t) := hm
    clear hm HR HM
    obtain ⟨v2, w2, hrun, ho2, hb2⟩ := HA.out w1 HB1.out
    have HO2 : Hid (Lib.HoldsBytes w2 v2 l) := own_holds ho2
    have HB2 : Hid (Below w.heap.size w w2) := bel2 HB1.out hb2
    clear ho2 hb2
    go_wp2_with (at_builtin; refine Lib.wpList_append_run _ rfl _ _ 35 35 rfl _ _ rfl rfl _ _ (hrun _) ?_)
    go_ret
    exact ⟨_, rfl, fun q => absurd q HMy.out, fun _ => HO2.out, HB2.out⟩
theorem refText_big (v : Value) (l : List UInt8) (s : ByteArray) (w : World) (hv : Lib.HoldsBytes w v l) (hl : l.length ≤ 1000) (hs : s.size ≤ 140737488351232) :
    Calls Try.prog 35 #[v, .string s] w (RB w (l ++ enc s.size ++ s.data.toList)) := by
  obtain ⟨i0, hi, hz0, hz1, hz2⟩ := info_parts Try.info5
  obtain ⟨L, hL⟩ : ∃ L, L = l ++ enc s.size ++ s.data.toList := ⟨_, rfl⟩
  have HL : Hid (L = l ++ enc s.size ++ s.data.toList) := hL
  rw [← hL]
  have NC := refNum_all v l (s.size : Int) (by omega) w hv (by omega)
  rw [Int.toNat_natCast] at NC
  have HC : Hid (Calls Try.prog 51 #[v, .int .i64 (s.size : Int)] w (RB w (l ++ enc s.size))) := NC
  have he := enc_length s.size (by omega)
  have hlen : (l ++ enc s.size).length ≤ 1100 := by rw [List.length_append]; omega
  generalize l ++ enc s.size = l2 at HC HL hlen
  obtain ⟨p, cap, rfl, q1, q2⟩ := hv
  clear q1 q2 hL NC he hl
  go_enter Try.func35, Try.ntmps35
  go_wp2_with fail
  refine HC.out.mono ?_
  rintro e w1 ⟨v1, rfl, ho, hb⟩
  have HO : Hid (Own w.heap.size w1 v1 l2) := ho
  have HB : Hid (Below w.heap.size w w1) := hb
  clear ho hb
  go_wp2_with (at_builtin; refine Lib.wpList_append_own_string _ rfl _ _ 35 9 rfl w.heap.size 5 i0 Try.underlying35 Try.underlying9 hi hz0 hz1 hz2 _ _ _ rfl HO.out s rfl ?qc4 ?qc5 ?qc6 ?_)
  case qc4 => unfold maxLen; omega
  case qc5 => omega
  case qc6 => exact HB.out.size
  intro v2 w2 hown hgrow hnil
  have HW : Hid (Own w.heap.size w2 v2 (l2 ++ s.data.toList)) := by
    show w2.ownsRow w.heap.size 5 1 v2 _ _
    have e1 : (l2 ++ s.data.toList).length = l2.length + s.size := by rw [List.length_append, str_len]
    have e2 : bval (l2 ++ s.data.toList) = bval l2 ++ Lib.strCells s := by simp [bval, Lib.strCells]
    rw [e1, e2]
    exact hown
  have HBW : Hid (Below w.heap.size w w2) := by
    refine HB.out.grown hgrow HB.out.size ?_
    intro kk hkk
    exact (World.ownsRow.lt HO.out kk hkk).1
  clear hown hgrow hnil
  go_wp2
  go_ret
  exact ⟨_, rfl, by rw [HL.out]; exact HW.out, HBW.out⟩
end Go.Proofs.Ytlcgjehepalmcaa
