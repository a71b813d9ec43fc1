/- The Go function PackBack returns true for every input, and its arguments read afterwards as they did before. -/
import Derived.Test.YtdgnpllbdjjiiaaRows
import Derived.Test.YtdgnpllbdjjiiaaB
import Derived.WalkKit
import Derived.ProofKit
import Derived.OpenShut
import Derived.ShutString
import Derived.ChangeOld
import Derived.Below
import Derived.SizedLaws
namespace Go.Proofs.Ytdgnpllbdjjiiaa.packBack
open Go.ChangeShapes Go.WideShapes Go.ChangeAt Go.RowKit
open Go.ChangeMaps (open_string shut_string)
set_option linter.unusedVariables false

theorem own : ownKnob Try.prog.godebug = none := by kernel_rfl
theorem laidOut : laidOutB Try.prog = true := by kernel_rfl

/-- WHAT THE WALK IS TOLD OF A SLICE OF INTEGERS THAT CAME IN: it is nil; or it leads to a row of 'cap' cells, the numbers 'zs' (the first 'len' are its elements, the rest its spare room), each fitting its kind. -/
def IsRow (k : IntKind) (w : World) (a : Option Addr) (len cap : Nat) (zs : List Int) : Prop :=
  (a = none ∧ len = 0 ∧ cap = 0 ∧ zs = []) ∨
  ∃ x, a = some x ∧ len ≤ cap ∧ cap ≤ maxLen ∧ zs.length = cap ∧ (∀ i, i < zs.length → w.cell? (x.add i) = some (.int k (zs.getD i 0))) ∧ ∀ n ∈ zs, (Lit.int k n).wf = true

theorem row_holds {w : World} {a : Option Addr} {len cap : Nat} {zs : List Int} (h : IsRow .u8 w a len cap zs) : ∃ l : List UInt8, l.length = len ∧ Lib.HoldsBytes w (.slice a len cap) l := by
  rcases h with ⟨rfl, rfl, rfl, _⟩ | ⟨x, rfl, hl, _, hz, hcell, hwf⟩
  · exact ⟨[], rfl, holds_nil w⟩
  · have hlen : ((zs.take len).map fun z => UInt8.ofNat z.toNat).length = len := by rw [List.length_map, List.length_take]; omega
    refine ⟨(zs.take len).map fun z => UInt8.ofNat z.toNat, hlen, some x, cap, by rw [hlen], (fun h => by cases h), ?_⟩
    intro b hb i u hu
    cases hb
    rw [List.getElem?_map] at hu
    obtain ⟨z, hz1, rfl⟩ := Option.map_eq_some_iff.1 hu
    have hi : i < (zs.take len).length := (List.getElem?_eq_some_iff.1 hz1).1
    rw [List.length_take] at hi
    rw [List.getElem?_take_of_lt (by omega)] at hz1
    have hw := hwf z (List.mem_of_getElem? hz1)
    simp only [Lit.wf, IntKind.min, IntKind.max, IntKind.signed, IntKind.bits, Bool.and_eq_true, decide_eq_true_eq, Bool.false_eq_true, if_false] at hw
    rw [hcell i (by omega), List.getD_eq_getElem?_getD, hz1]
    have e : ((UInt8.ofNat z.toNat).toNat : Int) = z := by rw [UInt8.toNat_ofNat']; omega
    rw [e]
    rfl
theorem below_step {a b c : World} (h : Below a.heap.size a b) (k : Below b.heap.size b c) : Below a.heap.size a c := h.trans (k.mono h.size)
theorem nat_u64 (a : Int) (h : (Lit.int .u64 a).wf = true) : ∃ x : Nat, a = (x : Int) ∧ x < 18446744073709551616 := by
  simp only [Lit.wf, IntKind.min, IntKind.max, IntKind.signed, IntKind.bits, Bool.and_eq_true, decide_eq_true_eq, Bool.false_eq_true, if_false] at h
  exact ⟨a.toNat, by omega, by omega⟩
theorem max_lt (a : Int) (h : (Lit.int .i64 a).wf = true) : max a 0 < 9223372036854775808 := by
  simp only [Lit.wf, IntKind.min, IntKind.max, IntKind.signed, IntKind.bits, Bool.and_eq_true, decide_eq_true_eq, if_true] at h
  omega
theorem str_self (s : ByteArray) : str s.data.toList = s := by
  apply ByteArray.ext
  simp [str]
theorem en_zero (l : List UInt8) : (en l 0 == 0) = ((l.length : Int) == 0) := by
  unfold en
  by_cases h : l.length = 0
  · simp [h]
  · simp [h]
set_option maxHeartbeats 1000000 in
theorem core (n m : Int) (x : Nat) (s : ByteArray) (y : Bool) (v : Value) (lb : List UInt8) (w : World) (hv : Lib.HoldsBytes w v lb) (hl : lb.length ≤ 140737488351232) (hn : (Lit.int .i64 n).wf = true) (hm : (Lit.int .i64 m).wf = true) (hx : x < 18446744073709551616) (hsm : s.size ≤ maxLen) :
    Calls Try.prog 5 #[.int .i64 n, .int .i64 m, .int .u64 (x : Int), .string s, .bool y, v] w fun e w' => e = .returned (.bool true) ∧ Below w.heap.size w w' := by
  have HV : Hid (Lib.HoldsBytes w v lb) := hv
  have HLB : Hid (lb.length ≤ 140737488351232) := hl
  have HM : Hid ((Lit.int .i64 m).wf = true) := hm
  have HX : Hid (x < 18446744073709551616) := hx
  have hk := max_lt n hn
  obtain ⟨K, hK⟩ : ∃ K : Nat, max n 0 = (K : Int) := ⟨(max n 0).toNat, by omega⟩
  rw [hK] at hk
  have HK : Hid ((K : Int) < 9223372036854775808) := hk
  unfold maxLen at hsm
  have hss : (s.extract 0 (min (s.size : Int) 3000).toNat).size ≤ 3000 := by rw [ByteArray.size_extract]; omega
  have HSS : Hid ((s.extract 0 (min (s.size : Int) 3000).toNat).size ≤ 3000) := hss
  obtain ⟨p, cap, rfl, q1, q2⟩ := hv
  have hen := en_zero lb
  clear q1 q2 hl hn hm hx hk hss
  go_enter Try.func5, Try.ntmps5
  go_wp2_with fail
  generalize s.extract 0 (min (s.size : Int) 3000).toNat = S at HSS
  have NC := num_calls (.slice none 0 0) [] (K : Int) HK.out w (holds_nil w) (by simp)
  rw [Int.toNat_natCast, List.nil_append] at NC
  obtain ⟨M1, hM1⟩ : ∃ M, M = enc K := ⟨_, rfl⟩
  rw [← hM1] at NC
  have HM1 : Hid (M1 = enc K) := hM1
  have L1 : Hid (M1.length ≤ 9) := by show M1.length ≤ 9; rw [hM1]; exact enc_length K (by have := HK.out; omega)
  clear hM1
  refine NC.mono ?_
  clear NC
  intro e w1 hN
  obtain ⟨g1, _, rfl, ho, hb⟩ := hN
  have HV1 : Hid (Lib.HoldsBytes w1 (.slice (some ⟨g1, 0, none⟩) M1.length M1.length) M1) := ho
  have B1 : Hid (Below w.heap.size w w1) := hb
  clear ho hb
  go_wp2_with fail
  obtain ⟨M2, hM2⟩ : ∃ M, M = M1 ++ be (tn m) 8 := ⟨_, rfl⟩
  have NC := int_calls _ M1 m HM.out w1 HV1.out (by have := L1.out; omega)
  rw [← hM2] at NC
  have HM2 : Hid (M2 = M1 ++ be (tn m) 8) := hM2
  have L2 : Hid (M2.length ≤ 17) := by
    show M2.length ≤ 17
    rw [hM2]
    have := L1.out
    rw [List.length_append, be_length]; omega
  clear hM2
  refine NC.mono ?_
  clear NC
  intro e w2 hN
  obtain ⟨g2, _, rfl, ho, hb⟩ := hN
  have HV2 : Hid (Lib.HoldsBytes w2 (.slice (some ⟨g2, 0, none⟩) M2.length M2.length) M2) := ho
  have B2 : Hid (Below w.heap.size w w2) := below_step B1.out hb
  clear ho hb
  go_wp2_with fail
  obtain ⟨M3, hM3⟩ : ∃ M, M = M2 ++ be x 8 := ⟨_, rfl⟩
  have NC := bits_calls _ M2 x w2 HV2.out (by have := L2.out; omega)
  rw [← hM3] at NC
  have HM3 : Hid (M3 = M2 ++ be x 8) := hM3
  have L3 : Hid (M3.length ≤ 25) := by
    show M3.length ≤ 25
    rw [hM3]
    have := L2.out
    rw [List.length_append, be_length]; omega
  clear hM3
  refine NC.mono ?_
  clear NC
  intro e w3 hN
  obtain ⟨g3, _, rfl, ho, hb⟩ := hN
  have HV3 : Hid (Lib.HoldsBytes w3 (.slice (some ⟨g3, 0, none⟩) M3.length M3.length) M3) := ho
  have B3 : Hid (Below w.heap.size w w3) := below_step B2.out hb
  clear ho hb
  go_wp2_with fail
  obtain ⟨M4, hM4⟩ : ∃ M, M = M3 ++ enc S.size ++ S.data.toList := ⟨_, rfl⟩
  have NC := text_calls _ M3 S w3 HV3.out (by have := HSS.out; omega) (by have := HSS.out; have := L3.out; omega)
  rw [← hM4] at NC
  have HM4 : Hid (M4 = M3 ++ enc S.size ++ S.data.toList) := hM4
  have L4 : Hid (M4.length ≤ 3034) := by
    show M4.length ≤ 3034
    rw [hM4]
    have := L3.out
    have h9 := enc_length S.size (by have := HSS.out; omega)
    have hsl := str_len S
    have := HSS.out
    rw [List.length_append, List.length_append]; omega
  clear hM4
  refine NC.mono ?_
  clear NC
  intro e w4 hN
  obtain ⟨g4, _, rfl, ho, hb⟩ := hN
  have HV4 : Hid (Lib.HoldsBytes w4 (.slice (some ⟨g4, 0, none⟩) M4.length M4.length) M4) := ho
  have B4 : Hid (Below w.heap.size w w4) := below_step B3.out hb
  clear ho hb
  go_wp2_with fail
  obtain ⟨M5, hM5⟩ : ∃ M, M = M4 ++ [fb y] := ⟨_, rfl⟩
  have NC := flag_calls _ M4 y w4 HV4.out (by have := L4.out; omega)
  rw [← hM5] at NC
  have HM5 : Hid (M5 = M4 ++ [fb y]) := hM5
  have L5 : Hid (M5.length ≤ 3035) := by
    show M5.length ≤ 3035
    rw [hM5]
    have := L4.out
    rw [List.length_append, List.length_singleton]; omega
  clear hM5
  refine NC.mono ?_
  clear NC
  intro e w5 hN
  obtain ⟨g5, _, rfl, ho, hb⟩ := hN
  have HV5 : Hid (Lib.HoldsBytes w5 (.slice (some ⟨g5, 0, none⟩) M5.length M5.length) M5) := ho
  have B5 : Hid (Below w.heap.size w w5) := below_step B4.out hb
  clear ho hb
  obtain ⟨v6, w6, hr6, ho6, hb6⟩ := append_full w5 g5 M5 lb (.slice p lb.length cap) HV5.out (holds_below HV.out B5.out) (by have := L5.out; have := HLB.out; omega)
  have HV6 : Hid (Lib.HoldsBytes w6 v6 (M5 ++ lb)) := ho6
  have B6 : Hid (Below w.heap.size w w6) := below_step B5.out hb6
  clear ho6 hb6
  go_wp2_with (at_builtin; refine Lib.wpList_append_run_sl _ rfl _ _ 22 rfl _ _ rfl rfl hr6 ?_)
  refine (open_calls v6 (M5 ++ lb) w6 HV6.out (by rw [List.length_append]; have := L5.out; have := HLB.out; omega)).mono ?_
  rintro e w7 ⟨g, h, rfl, k1, k2, k3, k4, k5⟩
  have E1 : M5 ++ lb = enc K ++ (be (tn m) 8 ++ (be x 8 ++ (enc S.size ++ S.data.toList ++ (fb y :: lb)))) := by
    rw [HM5.out, HM4.out, HM3.out, HM2.out, HM1.out]
    simp only [List.append_assoc, List.cons_append, List.nil_append]
  rw [E1] at k4
  obtain ⟨L0, hL0⟩ : ∃ L, L = be (tn m) 8 ++ (be x 8 ++ (enc S.size ++ S.data.toList ++ (fb y :: lb))) := ⟨_, rfl⟩
  rw [← hL0] at k4
  have HL0 : Hid (L0 = be (tn m) 8 ++ (be x 8 ++ (enc S.size ++ S.data.toList ++ (fb y :: lb)))) := hL0
  have S7 : Hid (St w7 g h (enc K ++ L0) 0) := k4
  have B7 : Hid (Below w.heap.size w w7) := below_step B6.out k5
  have HG : Hid (w.heap.size ≤ g) := by show w.heap.size ≤ g; have := B6.out.size; omega
  clear k1 k2 k3 k4 k5 E1 hL0 hr6
  clear HV1 HV2 HV3 HV4 HV5 HV6 HM1 HM2 HM3 HM4 HM5
  go_wp2_with fail
  have NC := num_st w7 g h (enc K ++ L0) 0 (K : Int) S7.out
  rw [sNum_enc K (K : Int) L0 (by have := HK.out; omega) (by omega)] at NC
  refine NC.mono ?_
  clear NC
  rintro e w8 ⟨rfl, h1, h2⟩
  have S8 : Hid (St w8 g h L0 0) := h1
  have B8 : Hid (Below w.heap.size w w8) := B7.out.trans (h2.below HG.out B7.out.size)
  clear h1 h2
  rw [HL0.out] at S8
  go_wp2_with fail
  have NC := int_st w8 g h _ 0 S8.out
  rw [sInt_be m _ HM.out] at NC
  refine NC.mono ?_
  clear NC
  rintro e w9 ⟨rfl, h1, h2⟩
  have S9 : Hid (St w9 g h (be x 8 ++ (enc S.size ++ S.data.toList ++ (fb y :: lb))) 0) := h1
  have B9 : Hid (Below w.heap.size w w9) := B8.out.trans (h2.below HG.out B8.out.size)
  clear h1 h2
  go_wp2_with fail
  have NC := bits_st w9 g h _ 0 S9.out
  rw [sBits_be x _ HX.out] at NC
  refine NC.mono ?_
  clear NC
  rintro e w10 ⟨rfl, h1, h2⟩
  have S10 : Hid (St w10 g h (enc S.size ++ S.data.toList ++ (fb y :: lb)) 0) := h1
  have B10 : Hid (Below w.heap.size w w10) := B9.out.trans (h2.below HG.out B9.out.size)
  clear h1 h2
  have HT : Hid (sText 3000 (enc S.size ++ S.data.toList ++ (fb y :: lb)) 0 = (S.data.toList, fb y :: lb, 0)) := by
    have h1 := str_len S
    have h2 := HSS.out
    have := sText_enc S.data.toList (fb y :: lb) 3000 (by omega) (by omega)
    rwa [h1] at this
  go_wp2_with fail
  have NC := text_st w10 g h _ 0 3000 S10.out
  rw [HT.out] at NC
  refine NC.mono ?_
  clear NC
  rintro e w11 ⟨rfl, h1, h2⟩
  have S11 : Hid (St w11 g h (fb y :: lb) 0) := h1
  have B11 : Hid (Below w.heap.size w w11) := B10.out.trans (h2.below HG.out B10.out.size)
  clear h1 h2
  rw [str_self]
  go_wp2_with fail
  have NC := flag_st w11 g h _ 0 S11.out
  rw [sFlag_fb y lb] at NC
  refine NC.mono ?_
  clear NC
  rintro e w12 ⟨rfl, h1, h2⟩
  have S12 : Hid (St w12 g h lb 0) := h1
  have B12 : Hid (Below w.heap.size w w12) := B11.out.trans (h2.below HG.out B11.out.size)
  clear h1 h2
  go_wp2_with fail
  refine Calls.mono (err_st S12.out) ?_
  rintro e u ⟨rfl, hw1⟩
  have hw2 := hw1.symm
  subst hw2
  go_wp2_with fail
  refine (left_st w12 g h lb 0 S12.out).mono ?_
  rintro e u ⟨rfl, hw1⟩
  have hw2 := hw1.symm
  subst hw2
  go_wp2_with fail
  refine (end_st w12 g h lb 0 S12.out).mono ?_
  rintro e u ⟨rfl, hw1⟩
  have hw2 := hw1.symm
  subst hw2
  go_wp2_with fail
  refine (awake_calls _).mono ?_
  rintro e w13 ⟨rfl, hb⟩
  go_wp2
  go_ret
  exact ⟨rfl, below_step B12.out hb⟩
/-! ### STEP 1: THE WALK: the Go text returns true, AND WRITES NOTHING THAT WAS THERE: 'Below w.heap.size w w'' (Derived/Below.lean: '.refl', '.alloc', '.drew', '.setCell' at a new block, '.trans'). Open each 'IsRow' by 'rcases' AHEAD of 'go_enter'; part every test ahead of the walk. -/
theorem walk (a0 : Int) (a1 : Int) (a2 : Int) (a3 : ByteArray) (a4 : Bool) (a5 : Option Addr) (len5 cap5 : Nat) (z5 : List Int) (w : World) (w0 : (Lit.int .i64 a0).wf = true) (w1 : (Lit.int .i64 a1).wf = true) (w2 : (Lit.int .u64 a2).wf = true) (w3 : a3.size ≤ maxLen) (w5 : IsRow .u8 w a5 len5 cap5 z5) (hl : len5 ≤ 140737488351232) :
    Calls Try.prog 5 #[.int .i64 a0, .int .i64 a1, .int .u64 a2, .string a3, .bool a4, .slice a5 len5 cap5] w fun e w' => e = .returned (.bool true) ∧ Below w.heap.size w w' := by
  obtain ⟨l, hll, hv⟩ := row_holds w5
  obtain ⟨x, rfl, hx⟩ := nat_u64 a2 w2
  exact core a0 a1 x a3 a4 _ l w hv (by omega) w0 w1 hx w3

/-! ### THE ROW's STEP: WRITTEN OUT: LEAVE IT -/
set_option maxRecDepth 100000 in
theorem lifted (os : Os) (started : os.Started) (H : Type) (enc : TypeId × Value → H) :
    ReturnsInHanded {} Try.checked os 5 .any (Rows.packBackSpec.pre6 enc Try.prog Try.f5 Rows.packBackRow.domain false) (Rows.packBackSpec.post enc Try.prog Try.f5 false true false false) := by
  refine returnsInHanded_of_change_sized (C := Try.checked) own started (by kernel_rfl) Try.func5
    (ChangeSpec.witness6 (enc := enc) (C := Try.checked) false ⟨#[], #[.int .i64 0, .int .i64 0, .int .u64 0, .string ByteArray.empty, .bool false, .slice none 0 0], []⟩ 8 (by kernel_rfl) (by kernel_rfl) (by kernel_rfl) (by kernel_rfl)) ?_
  intro W base args ds gs before hval0 hW hcnd hsz0 _
  have hsz : (DataW.weightsEach Try.prog (Try.f5.params.toList ++ Rows.packBackSpec.plain.varTypes Try.prog) (ds ++ gs)).all (· ≤ reachBytes) = true := hsz0
  have hval : ∀ (j : Nat) t v, Try.f5.params[j]? = some t → args[j]? = some v → Value.okWide Try.prog W .any base t v := hval0
  have hW' := hW
  obtain ⟨p, q, hA0, hV, rfl, hfz, hnd⟩ := hW
  have hA : DataW.TrodAll enc Try.prog W 0 (fun _ => true) true Try.f5.params.toList args.toList ds p := hA0
  rw [Try.params5] at hA hval hsz
  obtain ⟨v0, vs0, d0, ds0, p0, q0, hargs, rfl, rfl, h0, r0⟩ := trodAll_cons hA
  obtain ⟨v1, vs1, d1, ds1, p1, q1, rfl, rfl, rfl, h1, r1⟩ := trodAll_cons r0
  obtain ⟨v2, vs2, d2, ds2, p2, q2, rfl, rfl, rfl, h2, r2⟩ := trodAll_cons r1
  obtain ⟨v3, vs3, d3, ds3, p3, q3, rfl, rfl, rfl, h3, r3⟩ := trodAll_cons r2
  obtain ⟨v4, vs4, d4, ds4, p4, q4, rfl, rfl, rfl, h4, r4⟩ := trodAll_cons r3
  obtain ⟨v5, vs5, d5, ds5, p5, q5, rfl, rfl, rfl, h5, r5⟩ := trodAll_cons r4
  obtain ⟨rfl, rfl, rfl⟩ := trodAll_nil r5
  obtain rfl : args = #[v0, v1, v2, v3, v4, v5] := by cases args; simp_all
  obtain ⟨rfl, rfl⟩ := trodVars_none hV
  obtain ⟨a0, rfl, rfl, rfl, w0⟩ := open_int Try.underlying3 (hval 0 3 v0 rfl rfl) h0
  obtain ⟨a1, rfl, rfl, rfl, w1⟩ := open_int Try.underlying3 (hval 1 3 v1 rfl rfl) h1
  obtain ⟨a2, rfl, rfl, rfl, w2⟩ := open_int Try.underlying23 (hval 2 23 v2 rfl rfl) h2
  obtain ⟨a3, rfl, rfl, rfl, w3⟩ := open_string Try.underlying9 (hval 3 9 v3 rfl rfl) h3
  obtain ⟨a4, rfl, rfl, rfl⟩ := open_bool Try.underlying4 (hval 4 4 v4 rfl rfl) h4
  obtain ⟨a5, len5, cap5, rfl⟩ := okWide_slice Try.underlying22 (hval 5 22 v5 rfl rfl)
  have k5 := h5
  have lt5 : ∀ x ∈ p5, x.block < W.heap.size := by obtain ⟨m, hm⟩ := k5; exact DataW.trod_lt m _ _ _ hm
  obtain ⟨z5, w5, hbd5⟩ : ∃ zs, IsRow .u8 W a5 len5 cap5 zs ∧ len5 ≤ 140737488351232 := by
    obtain ⟨fuel, hf⟩ := h5
    rcases open_ints Try.underlying22 Try.underlying5 (by kernel_rfl) hf with ⟨hcs, _⟩ | ⟨x, l, c, zs, hcs, _, hl, hm, hz, hx, hcell, hwz⟩
    · simp [Value.cells] at hcs
      obtain ⟨rfl, rfl, rfl⟩ := hcs
      exact ⟨[], .inl ⟨rfl, rfl, rfl, rfl⟩, by omega⟩
    · simp [Value.cells] at hcs
      obtain ⟨rfl, rfl, rfl⟩ := hcs
      refine ⟨zs, .inr ⟨_, rfl, hl, hm, by simpa using hz, hcell, hwz⟩, ?_⟩
      have hd : d5 = DataW.slice (lits IntKind.u8 (List.take len5 zs)) (lits IntKind.u8 (List.drop len5 zs)) := congrArg Prod.fst hx
      have hlen : (lits (H := H) IntKind.u8 (List.take len5 zs)).length = len5 := by
        simp only [lits, List.length_map, List.length_take]
        simp at hz
        omega
      have hw := sized_slice hsz (j := 5) (t := 22) (e := 5) rfl (by rw [hd]; rfl) Try.underlying22
      have hbytes : Try.prog.bytesOf 5 = 1 := by kernel_rfl
      rw [hbytes, hlen] at hw
      unfold reachBytes at hw
      omega
  clear hA0 hval0
  refine (walk a0 a1 a2 a3 a4 a5 len5 cap5 z5 W w0 w1 w2 w3 w5 hbd5).mono fun e W' ⟨he, bel⟩ => ?_
  subst he
  exact ⟨_, rfl, _, _, _, [], _, [], hW', trodAll_mk1 (shut_bool Try.underlying4 _), (trodAll_cons_mk (shut_int Try.underlying3 w0) (trodAll_cons_mk (shut_int Try.underlying3 w1) (trodAll_cons_mk (shut_int Try.underlying23 w2) (trodAll_cons_mk (shut_string Try.underlying9 w3) (trodAll_cons_mk (shut_bool Try.underlying4 _) (trodAll_cons_mk (Below.trod laidOut (by kernel_rfl) (of_decide_eq_true (by kernel_rfl)) k5 bel lt5) trodAll_mk0)))))), rfl, bel.frame _, fun h => by cases h⟩

theorem over : Rows.packBackRow.holds Try.pinned (OpenSpec.ofChange Rows.packBackSpec) :=
  OpenClaim.holds_of_wide 5 Try.f5 rfl rfl rfl rfl rfl rfl rfl ⟨rfl, rfl, rfl, rfl, rfl⟩ rfl rfl rfl rfl rfl (by kernel_rfl) Try.func5 (by kernel_rfl)
    (of_decide_eq_true (by kernel_rfl)) (by unfold Func.isWrapper; first | (rw [if_pos (by decide +kernel)]; kernel_rfl) | (rw [if_neg (by decide +kernel)]; exact ⟨rfl, rfl⟩))
    (fun os started H enc _ => lifted os started H enc)

/-- ████ THE STATEMENT ████ -/
theorem proved : Rows.PackBackSaid := over
end Go.Proofs.Ytdgnpllbdjjiiaa.packBack

namespace Go.Proofs.Ytdgnpllbdjjiiaa
theorem packBack_holds : Rows.PackBackSaid := packBack.proved
end Go.Proofs.Ytdgnpllbdjjiiaa
