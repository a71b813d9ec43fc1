/- The Go function PackWrites returns true, and its arguments read afterwards as they did before, for every input of bulk at most 1048576. -/
import Derived.Test.YtdgnpllbdjjiiaaRows
import Derived.Test.YtdgnpllbdjjiiaaP
import Derived.WalkKit
import Derived.ProofKit
import Derived.OpenShut
import Derived.ShutString
import Derived.ChangeOld
import Derived.Below
import Derived.JoinedCond
namespace Go.Proofs.Ytdgnpllbdjjiiaa.packWrites
open Go.ChangeShapes Go.WideShapes Go.ChangeAt Go.RowKit
open Go.ChangeMaps (open_string shut_string)
set_option linter.unusedVariables false

theorem own : ownKnob Try.prog.godebug = none := by kernel_rfl
theorem laidOut : laidOutB Try.prog = true := by kernel_rfl

/-- WHAT THE WALK IS TOLD OF A SLICE OF INTEGERS THAT CAME IN: it is nil; or it leads to a row of 'cap' cells, the numbers 'zs' (the first 'len' are its elements, the rest its spare room), each fitting its kind. -/
def IsRow (k : IntKind) (w : World) (a : Option Addr) (len cap : Nat) (zs : List Int) : Prop :=
  (a = none ∧ len = 0 ∧ cap = 0 ∧ zs = []) ∨
  ∃ x, a = some x ∧ len ≤ cap ∧ cap ≤ maxLen ∧ zs.length = cap ∧ (∀ i, i < zs.length → w.cell? (x.add i) = some (.int k (zs.getD i 0))) ∧ ∀ n ∈ zs, (Lit.int k n).wf = true

/-- A slice of bytes that came in holds a list of bytes, as many as its length says. -/
theorem row_holds {w : World} {a : Option Addr} {len cap : Nat} {zs : List Int} (h : IsRow .u8 w a len cap zs) : ∃ l : List UInt8, l.length = len ∧ Lib.HoldsBytes w (.slice a len cap) l := by
  rcases h with ⟨rfl, rfl, rfl, _⟩ | ⟨x, rfl, hl, _, hz, hcell, hwf⟩
  · exact ⟨[], rfl, holds_nil w⟩
  · have hlen : ((zs.take len).map fun z => UInt8.ofNat z.toNat).length = len := by rw [List.length_map, List.length_take]; omega
    refine ⟨(zs.take len).map fun z => UInt8.ofNat z.toNat, hlen, some x, cap, by rw [hlen], (fun h => by cases h), ?_⟩
    intro b hb i u hu
    cases hb
    rw [List.getElem?_map] at hu
    obtain ⟨z, hz1, rfl⟩ := Option.map_eq_some_iff.1 hu
    have hi : i < (zs.take len).length := (List.getElem?_eq_some_iff.1 hz1).1
    rw [List.length_take] at hi
    rw [List.getElem?_take_of_lt (by omega)] at hz1
    have hw := hwf z (List.mem_of_getElem? hz1)
    simp only [Lit.wf, IntKind.min, IntKind.max, IntKind.signed, IntKind.bits, Bool.and_eq_true, decide_eq_true_eq, Bool.false_eq_true, if_false] at hw
    rw [hcell i (by omega), List.getD_eq_getElem?_getD, hz1]
    have e : ((UInt8.ofNat z.toNat).toNat : Int) = z := by rw [UInt8.toNat_ofNat']; omega
    rw [e]
    rfl
theorem nb_take {w : World} {l : List UInt8} {e : Ending} {w' : World} (h : NB w l e w') : ∃ v, e = .returned v ∧ Lib.HoldsBytes w' v l ∧ Below w.heap.size w w' := by
  obtain ⟨g, _, rfl, h3, h4⟩ := h
  exact ⟨_, rfl, h3, h4⟩
theorem rb_take {w : World} {l : List UInt8} {e : Ending} {w' : World} (h : RB w l e w') : ∃ v, e = .returned v ∧ Lib.HoldsBytes w' v l ∧ Below w.heap.size w w' := by
  obtain ⟨v, rfl, h3, h4⟩ := h
  exact ⟨v, rfl, own_holds h3, h4⟩
theorem below_step {a b c : World} (h : Below a.heap.size a b) (k : Below b.heap.size b c) : Below a.heap.size a c := h.trans (k.mono h.size)
theorem nat_u64 (a : Int) (h : (Lit.int .u64 a).wf = true) : ∃ x : Nat, a = (x : Int) ∧ x < 18446744073709551616 := by
  simp only [Lit.wf, IntKind.min, IntKind.max, IntKind.signed, IntKind.bits, Bool.and_eq_true, decide_eq_true_eq, Bool.false_eq_true, if_false] at h
  exact ⟨a.toNat, by omega, by omega⟩
theorem i64_lt (a : Int) (h : (Lit.int .i64 a).wf = true) : a < 9223372036854775808 := by
  simp only [Lit.wf, IntKind.min, IntKind.max, IntKind.signed, IntKind.bits, Bool.and_eq_true, decide_eq_true_eq, if_true] at h
  omega
theorem core (v : Value) (l : List UInt8) (n : Int) (x : Nat) (s : ByteArray) (y : Bool) (w : World) (hv : Lib.HoldsBytes w v l) (hl : l.length ≤ 1048576) (hn : (Lit.int .i64 n).wf = true) (hx : x < 18446744073709551616) (hs : s.size ≤ 1048576) :
    Calls Try.prog 3 #[v, .int .i64 n, .int .u64 (x : Int), .string s, .bool y] w fun e w' => e = .returned (.bool true) ∧ Below w.heap.size w w' := by
  have HV : Hid (Lib.HoldsBytes w v l) := hv
  have HL1 : Hid (l.length ≤ 70368744177663) := by show l.length ≤ 70368744177663; omega
  have HL2 : Hid (l.length ≤ 70368744177664) := by show l.length ≤ 70368744177664; omega
  have HL3 : Hid (l.length ≤ 140737488355328) := by show l.length ≤ 140737488355328; omega
  have HN : Hid ((Lit.int .i64 n).wf = true) := hn
  have HX : Hid (x < 18446744073709551616) := hx
  have HS1 : Hid (s.size ≤ 140737488351232) := by show s.size ≤ 140737488351232; omega
  have HS2 : Hid (s.size ≤ 35184372088832) := by show s.size ≤ 35184372088832; omega
  have HT : Hid (l.length + s.size + 9 ≤ 281474976710656) := by show l.length + s.size + 9 ≤ 281474976710656; omega
  obtain ⟨p, cap, rfl, q1, q2⟩ := hv
  clear q1 q2 hl hn hx hs
  go_enter Try.func3, Try.ntmps3
  go_wp2_with fail
  refine (clone_calls _ _ _ HV.out HL2.out).mono ?_
  rintro e w0 ⟨v0, rfl, ho, hb⟩
  have HV0 : Hid (Lib.HoldsBytes w0 v0 l) := ho
  have B0 : Hid (Below w.heap.size w w0) := hb
  clear ho hb
  go_wp2_with fail
  refine (num_calls _ _ _ (i64_lt _ HN.out) _ (holds_below HV.out B0.out) HL3.out).mono ?_
  intro e w1 hN
  obtain ⟨v1, rfl, ho, hb⟩ := nb_take hN
  have HV1 : Hid (Lib.HoldsBytes w1 v1 _) := ho
  have D1 : Hid (Below w0.heap.size w0 w1) := hb
  have B1 : Hid (Below w.heap.size w w1) := below_step B0.out hb
  have C1 : Hid (Below w0.heap.size w0 w1) := hb
  clear hN ho hb
  go_wp2_with fail
  refine (refNum_calls _ _ _ (i64_lt _ HN.out) _ (holds_below HV0.out C1.out) HL1.out).mono ?_
  intro e w2 hN
  obtain ⟨v2, rfl, ho, hb⟩ := rb_take hN
  have HV2 : Hid (Lib.HoldsBytes w2 v2 _) := ho
  have D2 : Hid (Below w1.heap.size w1 w2) := hb
  have B2 : Hid (Below w.heap.size w w2) := below_step B1.out hb
  have C2 : Hid (Below w0.heap.size w0 w2) := below_step C1.out hb
  clear hN ho hb
  go_wp2_with fail
  refine (equal_calls _ _ _ _ _ (holds_below HV1.out D2.out) HV2.out).mono ?_
  rintro e u ⟨rfl, hw1⟩
  have hw2 := hw1.symm
  subst hw2
  simp only [BEq.rfl]
  clear HV1 HV2
  go_wp2_with fail
  refine (int_calls _ _ _ HN.out _ (holds_below HV.out B2.out) HL3.out).mono ?_
  intro e w3 hN
  obtain ⟨v3, rfl, ho, hb⟩ := nb_take hN
  have HV3 : Hid (Lib.HoldsBytes w3 v3 _) := ho
  have D3 : Hid (Below w2.heap.size w2 w3) := hb
  have B3 : Hid (Below w.heap.size w w3) := below_step B2.out hb
  have C3 : Hid (Below w0.heap.size w0 w3) := below_step C2.out hb
  clear hN ho hb
  go_wp2_with fail
  refine (refInt_calls _ _ _ HN.out _ (holds_below HV0.out C3.out) HL2.out).mono ?_
  intro e w4 hN
  obtain ⟨v4, rfl, ho, hb⟩ := rb_take hN
  have HV4 : Hid (Lib.HoldsBytes w4 v4 _) := ho
  have D4 : Hid (Below w3.heap.size w3 w4) := hb
  have B4 : Hid (Below w.heap.size w w4) := below_step B3.out hb
  have C4 : Hid (Below w0.heap.size w0 w4) := below_step C3.out hb
  clear hN ho hb
  go_wp2_with fail
  refine (equal_calls _ _ _ _ _ (holds_below HV3.out D4.out) HV4.out).mono ?_
  rintro e u ⟨rfl, hw1⟩
  have hw2 := hw1.symm
  subst hw2
  simp only [BEq.rfl]
  clear HV3 HV4
  go_wp2_with fail
  refine (bits_calls _ _ _ _ (holds_below HV.out B4.out) HL3.out).mono ?_
  intro e w5 hN
  obtain ⟨v5, rfl, ho, hb⟩ := nb_take hN
  have HV5 : Hid (Lib.HoldsBytes w5 v5 _) := ho
  have D5 : Hid (Below w4.heap.size w4 w5) := hb
  have B5 : Hid (Below w.heap.size w w5) := below_step B4.out hb
  have C5 : Hid (Below w0.heap.size w0 w5) := below_step C4.out hb
  clear hN ho hb
  go_wp2_with fail
  refine (refBits_calls _ _ _ HX.out _ (holds_below HV0.out C5.out) HL2.out).mono ?_
  intro e w6 hN
  obtain ⟨v6, rfl, ho, hb⟩ := rb_take hN
  have HV6 : Hid (Lib.HoldsBytes w6 v6 _) := ho
  have D6 : Hid (Below w5.heap.size w5 w6) := hb
  have B6 : Hid (Below w.heap.size w w6) := below_step B5.out hb
  have C6 : Hid (Below w0.heap.size w0 w6) := below_step C5.out hb
  clear hN ho hb
  go_wp2_with fail
  refine (equal_calls _ _ _ _ _ (holds_below HV5.out D6.out) HV6.out).mono ?_
  rintro e u ⟨rfl, hw1⟩
  have hw2 := hw1.symm
  subst hw2
  simp only [BEq.rfl]
  clear HV5 HV6
  go_wp2_with fail
  refine (text_calls _ _ _ _ (holds_below HV.out B6.out) HS1.out HT.out).mono ?_
  intro e w7 hN
  obtain ⟨v7, rfl, ho, hb⟩ := nb_take hN
  have HV7 : Hid (Lib.HoldsBytes w7 v7 _) := ho
  have D7 : Hid (Below w6.heap.size w6 w7) := hb
  have B7 : Hid (Below w.heap.size w w7) := below_step B6.out hb
  have C7 : Hid (Below w0.heap.size w0 w7) := below_step C6.out hb
  clear hN ho hb
  go_wp2_with fail
  refine (refText_calls _ _ _ _ (holds_below HV0.out C7.out) HL1.out HS2.out).mono ?_
  intro e w8 hN
  obtain ⟨v8, rfl, ho, hb⟩ := rb_take hN
  have HV8 : Hid (Lib.HoldsBytes w8 v8 _) := ho
  have D8 : Hid (Below w7.heap.size w7 w8) := hb
  have B8 : Hid (Below w.heap.size w w8) := below_step B7.out hb
  have C8 : Hid (Below w0.heap.size w0 w8) := below_step C7.out hb
  clear hN ho hb
  go_wp2_with fail
  refine (equal_calls _ _ _ _ _ (holds_below HV7.out D8.out) HV8.out).mono ?_
  rintro e u ⟨rfl, hw1⟩
  have hw2 := hw1.symm
  subst hw2
  simp only [BEq.rfl]
  clear HV7 HV8
  go_wp2_with fail
  refine (flag_calls _ _ _ _ (holds_below HV.out B8.out) HL3.out).mono ?_
  intro e w9 hN
  obtain ⟨v9, rfl, ho, hb⟩ := nb_take hN
  have HV9 : Hid (Lib.HoldsBytes w9 v9 _) := ho
  have D9 : Hid (Below w8.heap.size w8 w9) := hb
  have B9 : Hid (Below w.heap.size w w9) := below_step B8.out hb
  have C9 : Hid (Below w0.heap.size w0 w9) := below_step C8.out hb
  clear hN ho hb
  go_wp2_with fail
  refine (refFlag_calls _ _ _ _ (holds_below HV0.out C9.out) HL2.out).mono ?_
  intro e w10 hN
  obtain ⟨v10, rfl, ho, hb⟩ := rb_take hN
  have HV10 : Hid (Lib.HoldsBytes w10 v10 _) := ho
  have D10 : Hid (Below w9.heap.size w9 w10) := hb
  have B10 : Hid (Below w.heap.size w w10) := below_step B9.out hb
  have C10 : Hid (Below w0.heap.size w0 w10) := below_step C9.out hb
  clear hN ho hb
  go_wp2_with fail
  refine (equal_calls _ _ _ _ _ (holds_below HV9.out D10.out) HV10.out).mono ?_
  rintro e u ⟨rfl, hw1⟩
  have hw2 := hw1.symm
  subst hw2
  simp only [BEq.rfl]
  clear HV9 HV10
  go_wp2_with fail
  refine (equal_calls _ _ _ _ _ (holds_below HV.out B10.out) (holds_below HV0.out C10.out)).mono ?_
  rintro e u ⟨rfl, hw1⟩
  have hw2 := hw1.symm
  subst hw2
  simp only [BEq.rfl]
  go_wp2_with fail
  refine (awake_calls _).mono ?_
  rintro e w12 ⟨rfl, hb⟩
  go_wp2
  go_ret
  exact ⟨rfl, below_step B10.out hb⟩
/-- So many values at the most are in a list of bulk so much. -/
theorem bulk_len {H : Type} (l : List (DataW H)) : l.length ≤ Rows.uptoBulkAll l := by
  induction l with
  | nil => simp [Rows.uptoBulkAll]
  | cons x r ih =>
    have h1 : 1 ≤ Rows.uptoBulk x := by
      cases x with
      | lit l => cases l <;> simp [Rows.uptoBulk]
      | nil => simp [Rows.uptoBulk]
      | ptr d => simp [Rows.uptoBulk]
      | slice elems spare => simp [Rows.uptoBulk]
      | agg parts => simp [Rows.uptoBulk]
      | iface t d => simp [Rows.uptoBulk]
      | map entries => simp [Rows.uptoBulk]
      | held h => simp [Rows.uptoBulk]
    simp only [Rows.uptoBulkAll, List.length_cons]; omega
/-! ### STEP 1: THE WALK: the Go text returns true, AND WRITES NOTHING THAT WAS THERE: 'Below w.heap.size w w'' (Derived/Below.lean: '.refl', '.alloc', '.drew', '.setCell' at a new block, '.trans'). Open each 'IsRow' by 'rcases' AHEAD of 'go_enter'; part every test ahead of the walk. -/
theorem walk (a0 : Option Addr) (len0 cap0 : Nat) (z0 : List Int) (a1 : Int) (a2 : Int) (a3 : ByteArray) (a4 : Bool) (w : World) (w0 : IsRow .u8 w a0 len0 cap0 z0) (w1 : (Lit.int .i64 a1).wf = true) (w2 : (Lit.int .u64 a2).wf = true) (w3 : a3.size ≤ maxLen) (hl : len0 ≤ 1048576) (hs : a3.size ≤ 1048576) :
    Calls Try.prog 3 #[.slice a0 len0 cap0, .int .i64 a1, .int .u64 a2, .string a3, .bool a4] w fun e w' => e = .returned (.bool true) ∧ Below w.heap.size w w' := by
  obtain ⟨l, hll, hv⟩ := row_holds w0
  obtain ⟨x, rfl, hx⟩ := nat_u64 a2 w2
  exact core _ l a1 x a3 a4 w hv (by omega) w1 hx hs

/-! ### THE ROW's STEP: WRITTEN OUT: LEAVE IT -/
set_option maxRecDepth 100000 in
theorem lifted (os : Os) (started : os.Started) (H : Type) (enc : TypeId × Value → H) (F : Stop.Interp) :
    ReturnsInHanded {} Try.checked os 3 .any ((Rows.OpenSpec.upto Rows.packWritesSpec).pre6 enc Try.prog Try.f3 Rows.packWritesUptoRow.domain false) (((Rows.OpenSpec.upto Rows.packWritesSpec).at F).post enc Try.prog Try.f3 false true false false) := by
  refine returnsInHanded_of_cond (C := Try.checked) (s := Rows.OpenSpec.upto Rows.packWritesSpec) (k := Rows.uptoSmall) rfl own started (by kernel_rfl) Try.func3
    (OpenSpec.witness (enc := enc) (C := Try.checked) (s := Rows.OpenSpec.upto Rows.packWritesSpec) (k := Rows.uptoSmall) rfl false ⟨#[], #[.slice none 0 0, .int .i64 0, .int .u64 0, .string ByteArray.empty, .bool false], []⟩ 8 (by kernel_rfl) (by kernel_rfl) (by kernel_rfl)
      (x := ([.nil, .lit (.int .i64 0), .lit (.int .u64 0), .lit (.string []), .lit (.bool false)], [], [])) (by kernel_rfl) rfl (by kernel_rfl)) ?_
  intro W base args ds gs before hval0 hW hcnd hk _
  have hval : ∀ (j : Nat) t v, Try.f3.params[j]? = some t → args[j]? = some v → Value.okWide Try.prog W .any base t v := hval0
  have hW' := hW
  obtain ⟨p, q, hA0, hV, rfl, hfz, hnd⟩ := hW
  have hA : DataW.TrodAll enc Try.prog W 0 (fun _ => true) true Try.f3.params.toList args.toList ds p := hA0
  rw [Try.params3] at hA hval
  obtain ⟨v0, vs0, d0, ds0, p0, q0, hargs, rfl, rfl, h0, r0⟩ := trodAll_cons hA
  obtain ⟨v1, vs1, d1, ds1, p1, q1, rfl, rfl, rfl, h1, r1⟩ := trodAll_cons r0
  obtain ⟨v2, vs2, d2, ds2, p2, q2, rfl, rfl, rfl, h2, r2⟩ := trodAll_cons r1
  obtain ⟨v3, vs3, d3, ds3, p3, q3, rfl, rfl, rfl, h3, r3⟩ := trodAll_cons r2
  obtain ⟨v4, vs4, d4, ds4, p4, q4, rfl, rfl, rfl, h4, r4⟩ := trodAll_cons r3
  obtain ⟨rfl, rfl, rfl⟩ := trodAll_nil r4
  obtain rfl : args = #[v0, v1, v2, v3, v4] := by cases args; simp_all
  obtain ⟨rfl, rfl⟩ := trodVars_none hV
  obtain ⟨a0, len0, cap0, rfl⟩ := okWide_slice Try.underlying22 (hval 0 22 v0 rfl rfl)
  have k0 := h0
  have lt0 : ∀ x ∈ p0, x.block < W.heap.size := by obtain ⟨m, hm⟩ := k0; exact DataW.trod_lt m _ _ _ hm
  obtain ⟨z0, w0, hbk⟩ : ∃ zs, IsRow .u8 W a0 len0 cap0 zs ∧ len0 ≤ Rows.uptoBulk d0 := by
    obtain ⟨fuel, hf⟩ := h0
    rcases open_ints Try.underlying22 Try.underlying5 (by kernel_rfl) hf with ⟨hcs, _⟩ | ⟨x, l, c, zs, hcs, _, hl, hm, hz, hx, hcell, hwz⟩
    · simp [Value.cells] at hcs
      obtain ⟨rfl, rfl, rfl⟩ := hcs
      exact ⟨[], .inl ⟨rfl, rfl, rfl, rfl⟩, Nat.zero_le _⟩
    · simp [Value.cells] at hcs
      obtain ⟨rfl, rfl, rfl⟩ := hcs
      refine ⟨zs, .inr ⟨_, rfl, hl, hm, by simpa using hz, hcell, hwz⟩, ?_⟩
      have hd : d0 = DataW.slice (lits IntKind.u8 (List.take len0 zs)) (lits IntKind.u8 (List.drop len0 zs)) := congrArg Prod.fst hx
      have hlen : (lits (H := H) IntKind.u8 (List.take len0 zs)).length = len0 := by
        simp only [lits, List.length_map, List.length_take]
        simp at hz
        omega
      have hb := bulk_len (lits (H := H) IntKind.u8 (List.take len0 zs))
      rw [hd]
      simp only [Rows.uptoBulk]
      omega
  obtain ⟨a1, rfl, rfl, rfl, w1⟩ := open_int Try.underlying3 (hval 1 3 v1 rfl rfl) h1
  obtain ⟨a2, rfl, rfl, rfl, w2⟩ := open_int Try.underlying23 (hval 2 23 v2 rfl rfl) h2
  obtain ⟨a3, rfl, rfl, rfl, w3⟩ := open_string Try.underlying9 (hval 3 9 v3 rfl rfl) h3
  obtain ⟨a4, rfl, rfl, rfl⟩ := open_bool Try.underlying4 (hval 4 4 v4 rfl rfl) h4
  clear hA0 hval0
  have hb : Rows.uptoBulkAll [d0, .lit (.int .i64 a1), .lit (.int .u64 a2), .lit (.string a3.data.toList), .lit (.bool a4)] ≤ 1048576 := of_decide_eq_true hk
  simp only [Rows.uptoBulkAll, Rows.uptoBulk] at hb
  have hsl := str_len a3
  refine (walk a0 len0 cap0 z0 a1 a2 a3 a4 W w0 w1 w2 w3 (by omega) (by omega)).mono fun e W' ⟨he, bel⟩ => ?_
  subst he
  exact ⟨_, rfl, _, _, _, [], _, [], hW', trodAll_mk1 (shut_bool Try.underlying4 _), (trodAll_cons_mk (Below.trod laidOut (by kernel_rfl) (of_decide_eq_true (by kernel_rfl)) k0 bel lt0) (trodAll_cons_mk (shut_int Try.underlying3 w1) (trodAll_cons_mk (shut_int Try.underlying23 w2) (trodAll_cons_mk (shut_string Try.underlying9 w3) (trodAll_cons_mk (shut_bool Try.underlying4 _) trodAll_mk0))))), rfl, bel.frame _, fun h => by cases h⟩

theorem over : Rows.PackWritesUptoSaid :=
  OpenClaim.holds_of_cond 3 Try.f3 rfl rfl rfl rfl rfl rfl rfl ⟨rfl, rfl, rfl, rfl, rfl⟩ rfl rfl rfl rfl rfl (by kernel_rfl) Try.func3 (by kernel_rfl)
    (of_decide_eq_true (by kernel_rfl)) (by unfold Func.isWrapper; first | (rw [if_pos (by decide +kernel)]; kernel_rfl) | (rw [if_neg (by decide +kernel)]; exact ⟨rfl, rfl⟩))
    (fun os started H enc _ F => lifted os started H enc F)

/-- ████ THE STATEMENT ████ -/
theorem proved : Rows.PackWritesUptoSaid := over
end Go.Proofs.Ytdgnpllbdjjiiaa.packWrites

namespace Go.Proofs.Ytdgnpllbdjjiiaa
theorem packWrites_holds : Rows.PackWritesUptoSaid := packWrites.proved
end Go.Proofs.Ytdgnpllbdjjiiaa
