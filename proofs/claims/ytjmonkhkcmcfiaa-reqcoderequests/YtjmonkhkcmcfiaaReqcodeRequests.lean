/- The Go function ReqcodeRequests returns true for any two requests and all bytes, and its arguments read afterwards as they did before. -/
import Derived.Test.YtjmonkhkcmcfiaaRows
import Derived.Test.YtjmonkhkcmcfiaaTW
import Derived.WalkKit
import Derived.ProofKit
import Derived.OpenShut
import Derived.ChangeOld
import Derived.Below
import Derived.SizedLaws
namespace Go.Proofs.Ytjmonkhkcmcfiaa.reqcodeRequests
open Go.ChangeShapes Go.WideShapes Go.ChangeAt Go.RowKit

theorem own : ownKnob Try.prog.godebug = none := by kernel_rfl
theorem laidOut : laidOutB Try.prog = true := by kernel_rfl

/-- WHAT THE WALK IS TOLD OF A SLICE OF INTEGERS THAT CAME IN: it is nil; or it leads to a row of 'cap' cells, the numbers 'zs' (the first 'len' are its elements, the rest its spare room), each fitting its kind. -/
def IsRow (k : IntKind) (w : World) (a : Option Addr) (len cap : Nat) (zs : List Int) : Prop :=
  (a = none ∧ len = 0 ∧ cap = 0 ∧ zs = []) ∨
  ∃ x, a = some x ∧ len ≤ cap ∧ cap ≤ maxLen ∧ zs.length = cap ∧ (∀ i, i < zs.length → w.cell? (x.add i) = some (.int k (zs.getD i 0))) ∧ ∀ n ∈ zs, (Lit.int k n).wf = true

theorem row_holds {w : World} {a : Option Addr} {len cap : Nat} {zs : List Int} (h : IsRow .u8 w a len cap zs) : ∃ l : List UInt8, l.length = len ∧ Lib.HoldsBytes w (.slice a len cap) l := by
  rcases h with ⟨rfl, rfl, rfl, _⟩ | ⟨x, rfl, hl, _, hz, hcell, hwf⟩
  · exact ⟨[], rfl, holds_nil w⟩
  · have hlen : ((zs.take len).map fun z => UInt8.ofNat z.toNat).length = len := by rw [List.length_map, List.length_take]; omega
    refine ⟨(zs.take len).map fun z => UInt8.ofNat z.toNat, hlen, some x, cap, by rw [hlen], (fun h => by cases h), ?_⟩
    intro b hb i u hu
    cases hb
    rw [List.getElem?_map] at hu
    obtain ⟨z, hz1, rfl⟩ := Option.map_eq_some_iff.1 hu
    have hi : i < (zs.take len).length := (List.getElem?_eq_some_iff.1 hz1).1
    rw [List.length_take] at hi
    rw [List.getElem?_take_of_lt (by omega)] at hz1
    have hw := hwf z (List.mem_of_getElem? hz1)
    simp only [Lit.wf, IntKind.min, IntKind.max, IntKind.signed, IntKind.bits, Bool.and_eq_true, decide_eq_true_eq, Bool.false_eq_true, if_false] at hw
    rw [hcell i (by omega), List.getD_eq_getElem?_getD, hz1]
    have e : ((UInt8.ofNat z.toNat).toNat : Int) = z := by rw [UInt8.toNat_ofNat']; omega
    rw [e]
    rfl
set_option maxRecDepth 100000 in
theorem lifted (os : Os) (started : os.Started) (H : Type) (enc : TypeId × Value → H) :
    ReturnsInHanded {} Try.checked os 3 .any (Rows.reqcodeRequestsSpec.pre6 enc Try.prog Try.f3 Rows.reqcodeRequestsRow.domain false) (Rows.reqcodeRequestsSpec.post enc Try.prog Try.f3 false true false false) := by
  refine returnsInHanded_of_change_sized (C := Try.checked) own started (by kernel_rfl) Try.func3
    (ChangeSpec.witness6 (enc := enc) (C := Try.checked) false ⟨#[], #[.agg #[.int .i64 0, .string ⟨#[]⟩, .string ⟨#[]⟩, .string ⟨#[]⟩, .int .i64 0, .int .i64 0, .int .u64 0, .string ⟨#[]⟩, .slice none 0 0, .int .i64 0, .int .i64 0, .int .i64 0, .int .i64 0, .int .u64 0, .int .i64 0, .slice none 0 0, .slice none 0 0], .agg #[.int .i64 0, .string ⟨#[]⟩, .string ⟨#[]⟩, .string ⟨#[]⟩, .int .i64 0, .int .i64 0, .int .u64 0, .string ⟨#[]⟩, .slice none 0 0, .int .i64 0, .int .i64 0, .int .i64 0, .int .i64 0, .int .u64 0, .int .i64 0, .slice none 0 0, .slice none 0 0], .slice none 0 0], []⟩ 8 (by kernel_rfl) (by kernel_rfl) (by kernel_rfl) (by kernel_rfl)) ?_
  intro W base args ds gs before hval0 hW hcnd hsz0 _
  have hsz : (DataW.weightsEach Try.prog (Try.f3.params.toList ++ Rows.reqcodeRequestsSpec.plain.varTypes Try.prog) (ds ++ gs)).all (· ≤ reachBytes) = true := hsz0
  have hval : ∀ (j : Nat) t v, Try.f3.params[j]? = some t → args[j]? = some v → Value.okWide Try.prog W .any base t v := hval0
  have hW' := hW
  obtain ⟨p, q, hA0, hV, rfl, hfz, hnd⟩ := hW
  have hA : DataW.TrodAll enc Try.prog W 0 (fun _ => true) true Try.f3.params.toList args.toList ds p := hA0
  rw [Try.params3] at hA hval hsz
  obtain ⟨v0, vs0, d0, ds0, p0, q0, hargs, rfl, rfl, g0, r0⟩ := trodAll_cons hA
  obtain ⟨v1, vs1, d1, ds1, p1, q1x, rfl, rfl, rfl, g1, r1⟩ := trodAll_cons r0
  obtain ⟨vY, vs2, dY, ds2, pY, q2x, rfl, rfl, rfl, hY, r2⟩ := trodAll_cons r1
  obtain ⟨rfl, rfl, rfl⟩ := trodAll_nil r2
  obtain rfl : args = #[v0, v1, vY] := by cases args; simp_all
  obtain ⟨rfl, rfl⟩ := trodVars_none hV
  have e1z := g0
  have lt0 : ∀ x ∈ p0, x.block < W.heap.size := by obtain ⟨m, hm⟩ := e1z; exact DataW.trod_lt m _ _ _ hm
  obtain ⟨m0, hm0⟩ := g0
  obtain ⟨rk1, f1, q1, nm1, k1, x1, b1, s1, la1, lm1, lc1, t1, ru1, nu1, wa1, pf1, pc1, pm1, ca1, cc1, aa1, ac1, cds1, ads1, n1, e1, _, iv1, ic1, ia1, hf1, hcl1, hal1⟩ := open_rq m0 _ _ hm0
  have z1 : v0.cells = #[.int .i64 rk1, .string f1, .string q1, .string nm1, .int .i64 k1, .int .i64 x1, .int .u64 b1, .string s1, .slice la1 lm1 lc1, .int .i64 ru1, .int .i64 nu1, .int .i64 wa1, .int .i64 pf1, .int .u64 (pc1 : Int), .int .i64 pm1, .slice ca1 cds1.length cc1, .slice aa1 ads1.length ac1] := Array.toList_inj.1 e1
  obtain rfl : v0 = .agg #[.int .i64 rk1, .string f1, .string q1, .string nm1, .int .i64 k1, .int .i64 x1, .int .u64 b1, .string s1, .slice la1 lm1 lc1, .int .i64 ru1, .int .i64 nu1, .int .i64 wa1, .int .i64 pf1, .int .u64 (pc1 : Int), .int .i64 pm1, .slice ca1 cds1.length cc1, .slice aa1 ads1.length ac1] := (aggQ (v := v0) (k := 15) (by rw [z1]; rfl)).trans (by rw [z1])
  have e2z := g1
  have lt1 : ∀ x ∈ p1, x.block < W.heap.size := by obtain ⟨m, hm⟩ := e2z; exact DataW.trod_lt m _ _ _ hm
  obtain ⟨m1, hm1⟩ := g1
  obtain ⟨rk2, f2, q2, nm2, k2, x2, b2, s2, la2, lm2, lc2, t2, ru2, nu2, wa2, pf2, pc2, pm2, ca2, cc2, aa2, ac2, cds2, ads2, n2, e2, _, iv2, ic2, ia2, hf2, hcl2, hal2⟩ := open_rq m1 _ _ hm1
  have z2 : v1.cells = #[.int .i64 rk2, .string f2, .string q2, .string nm2, .int .i64 k2, .int .i64 x2, .int .u64 b2, .string s2, .slice la2 lm2 lc2, .int .i64 ru2, .int .i64 nu2, .int .i64 wa2, .int .i64 pf2, .int .u64 (pc2 : Int), .int .i64 pm2, .slice ca2 cds2.length cc2, .slice aa2 ads2.length ac2] := Array.toList_inj.1 e2
  obtain rfl : v1 = .agg #[.int .i64 rk2, .string f2, .string q2, .string nm2, .int .i64 k2, .int .i64 x2, .int .u64 b2, .string s2, .slice la2 lm2 lc2, .int .i64 ru2, .int .i64 nu2, .int .i64 wa2, .int .i64 pf2, .int .u64 (pc2 : Int), .int .i64 pm2, .slice ca2 cds2.length cc2, .slice aa2 ads2.length ac2] := (aggQ (v := v1) (k := 15) (by rw [z2]; rfl)).trans (by rw [z2])
  obtain ⟨aY, lenY, capY, rfl⟩ := okWide_slice Try.underlying32 (hval 2 32 vY rfl rfl)
  have kY := hY
  have ltY : ∀ x ∈ pY, x.block < W.heap.size := by obtain ⟨m, hm⟩ := kY; exact DataW.trod_lt m _ _ _ hm
  obtain ⟨zY, wY, hbdY⟩ : ∃ zs, IsRow .u8 W aY lenY capY zs ∧ lenY ≤ 140737488351232 := by
    obtain ⟨fuel, hf⟩ := hY
    rcases open_ints Try.underlying32 Try.underlying5 (by kernel_rfl) hf with ⟨hcs, _⟩ | ⟨x, l, c, zs, hcs, _, hl, hm, hz, hx, hcell, hwz⟩
    · simp [Value.cells] at hcs
      obtain ⟨rfl, rfl, rfl⟩ := hcs
      exact ⟨[], .inl ⟨rfl, rfl, rfl, rfl⟩, by omega⟩
    · simp [Value.cells] at hcs
      obtain ⟨rfl, rfl, rfl⟩ := hcs
      refine ⟨zs, .inr ⟨_, rfl, hl, hm, by simpa using hz, hcell, hwz⟩, ?_⟩
      have hd : dY = DataW.slice (lits IntKind.u8 (List.take lenY zs)) (lits IntKind.u8 (List.drop lenY zs)) := congrArg Prod.fst hx
      have hlen : (lits (H := H) IntKind.u8 (List.take lenY zs)).length = lenY := by
        simp only [lits, List.length_map, List.length_take]
        simp at hz
        omega
      have hw := sized_slice hsz (j := 2) (t := 32) (e := 5) rfl (by rw [hd]; rfl) Try.underlying32
      have hbytes : Try.prog.bytesOf 5 = 1 := by kernel_rfl
      rw [hbytes, hlen] at hw
      unfold reachBytes at hw
      omega
  obtain ⟨lY, hlY, hhY⟩ := row_holds wY
  clear hA0 hval0
  subst hlY
  refine (requests_all (n1 + n2) W rk1 f1 q1 nm1 k1 x1 b1 s1 la1 lm1 lc1 t1 ru1 nu1 wa1 pf1 pc1 pm1 ca1 cc1 aa1 ac1 cds1 ads1 rk2 f2 q2 nm2 k2 x2 b2 s2 la2 lm2 lc2 t2 ru2 nu2 wa2 pf2 pc2 pm2 ca2 cc2 aa2 ac2 cds2 ads2 aY capY lY (iv1.up (by omega)) (ic1.up elC (by omega)) (ia1.up elA (by omega)) (Nat.lt_succ_of_le hf1.pc) hcl1 hal1 (iv2.up (by omega)) (ic2.up elC (by omega)) (ia2.up elA (by omega)) (Nat.lt_succ_of_le hf2.pc) hcl2 hal2 hhY (by omega)).mono fun e W' ⟨he, bel⟩ => ?_
  subst he
  exact ⟨_, rfl, _, _, _, [], _, [], hW', trodAll_mk1 (shut_bool Try.underlying4 _), (trodAll_cons_mk (Below.trod laidOut (by kernel_rfl) (of_decide_eq_true (by kernel_rfl)) e1z bel lt0) (trodAll_cons_mk (Below.trod laidOut (by kernel_rfl) (of_decide_eq_true (by kernel_rfl)) e2z bel lt1) (trodAll_cons_mk (Below.trod laidOut (by kernel_rfl) (of_decide_eq_true (by kernel_rfl)) kY bel ltY) trodAll_mk0))), rfl, bel.frame _, fun h => by cases h⟩

theorem over : Rows.reqcodeRequestsRow.holds Try.pinned (OpenSpec.ofChange Rows.reqcodeRequestsSpec) :=
  OpenClaim.holds_of_wide 3 Try.f3 rfl rfl rfl rfl rfl rfl rfl ⟨rfl, rfl, rfl, rfl, rfl⟩ rfl rfl rfl rfl rfl (by kernel_rfl) Try.func3 (by kernel_rfl)
    (of_decide_eq_true (by kernel_rfl)) (by unfold Func.isWrapper; first | (rw [if_pos (by decide +kernel)]; kernel_rfl) | (rw [if_neg (by decide +kernel)]; exact ⟨rfl, rfl⟩))
    (fun os started H enc _ => lifted os started H enc)

theorem proved : Rows.ReqcodeRequestsSaid := over
end Go.Proofs.Ytjmonkhkcmcfiaa.reqcodeRequests

namespace Go.Proofs.Ytjmonkhkcmcfiaa
theorem reqcodeRequests_holds : Rows.ReqcodeRequestsSaid := reqcodeRequests.proved
end Go.Proofs.Ytjmonkhkcmcfiaa
