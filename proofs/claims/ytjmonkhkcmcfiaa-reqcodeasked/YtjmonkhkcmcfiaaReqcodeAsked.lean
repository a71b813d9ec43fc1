/- The Go function ReqcodeAsked returns true for every request and all bytes, and its arguments read afterwards as they did before. -/
import Derived.Test.YtjmonkhkcmcfiaaRows
import Derived.Test.YtjmonkhkcmcfiaaTT
import Derived.WalkKit
import Derived.ProofKit
import Derived.OpenShut
import Derived.ChangeOld
import Derived.Below
import Derived.SizedLaws
namespace Go.Proofs.Ytjmonkhkcmcfiaa.reqcodeAsked
open Go.ChangeShapes Go.WideShapes Go.ChangeAt Go.RowKit

theorem own : ownKnob Try.prog.godebug = none := by kernel_rfl
theorem laidOut : laidOutB Try.prog = true := by kernel_rfl

/-- WHAT THE WALK IS TOLD OF A SLICE OF INTEGERS THAT CAME IN: it is nil; or it leads to a row of 'cap' cells, the numbers 'zs' (the first 'len' are its elements, the rest its spare room), each fitting its kind. -/
def IsRow (k : IntKind) (w : World) (a : Option Addr) (len cap : Nat) (zs : List Int) : Prop :=
  (a = none ∧ len = 0 ∧ cap = 0 ∧ zs = []) ∨
  ∃ x, a = some x ∧ len ≤ cap ∧ cap ≤ maxLen ∧ zs.length = cap ∧ (∀ i, i < zs.length → w.cell? (x.add i) = some (.int k (zs.getD i 0))) ∧ ∀ n ∈ zs, (Lit.int k n).wf = true

theorem row_holds {w : World} {a : Option Addr} {len cap : Nat} {zs : List Int} (h : IsRow .u8 w a len cap zs) : ∃ l : List UInt8, l.length = len ∧ Lib.HoldsBytes w (.slice a len cap) l := by
  rcases h with ⟨rfl, rfl, rfl, _⟩ | ⟨x, rfl, hl, _, hz, hcell, hwf⟩
  · exact ⟨[], rfl, holds_nil w⟩
  · have hlen : ((zs.take len).map fun z => UInt8.ofNat z.toNat).length = len := by rw [List.length_map, List.length_take]; omega
    refine ⟨(zs.take len).map fun z => UInt8.ofNat z.toNat, hlen, some x, cap, by rw [hlen], (fun h => by cases h), ?_⟩
    intro b hb i u hu
    cases hb
    rw [List.getElem?_map] at hu
    obtain ⟨z, hz1, rfl⟩ := Option.map_eq_some_iff.1 hu
    have hi : i < (zs.take len).length := (List.getElem?_eq_some_iff.1 hz1).1
    rw [List.length_take] at hi
    rw [List.getElem?_take_of_lt (by omega)] at hz1
    have hw := hwf z (List.mem_of_getElem? hz1)
    simp only [Lit.wf, IntKind.min, IntKind.max, IntKind.signed, IntKind.bits, Bool.and_eq_true, decide_eq_true_eq, Bool.false_eq_true, if_false] at hw
    rw [hcell i (by omega), List.getD_eq_getElem?_getD, hz1]
    have e : ((UInt8.ofNat z.toNat).toNat : Int) = z := by rw [UInt8.toNat_ofNat']; omega
    rw [e]
    rfl
set_option maxRecDepth 100000 in
theorem lifted (os : Os) (started : os.Started) (H : Type) (enc : TypeId × Value → H) :
    ReturnsInHanded {} Try.checked os 4 .any (Rows.reqcodeAskedSpec.pre6 enc Try.prog Try.f4 Rows.reqcodeAskedRow.domain false) (Rows.reqcodeAskedSpec.post enc Try.prog Try.f4 false true false false) := by
  refine returnsInHanded_of_change_sized (C := Try.checked) own started (by kernel_rfl) Try.func4
    (ChangeSpec.witness6 (enc := enc) (C := Try.checked) false ⟨#[], #[.agg #[.int .i64 0, .string ⟨#[]⟩, .string ⟨#[]⟩, .string ⟨#[]⟩, .int .i64 0, .int .i64 0, .int .u64 0, .string ⟨#[]⟩, .slice none 0 0, .int .i64 0, .int .i64 0, .int .i64 0, .int .i64 0, .int .u64 0, .int .i64 0, .slice none 0 0, .slice none 0 0], .slice none 0 0], []⟩ 8 (by kernel_rfl) (by kernel_rfl) (by kernel_rfl) (by kernel_rfl)) ?_
  intro W base args ds gs before hval0 hW hcnd hsz0 _
  have hsz : (DataW.weightsEach Try.prog (Try.f4.params.toList ++ Rows.reqcodeAskedSpec.plain.varTypes Try.prog) (ds ++ gs)).all (· ≤ reachBytes) = true := hsz0
  have hval : ∀ (j : Nat) t v, Try.f4.params[j]? = some t → args[j]? = some v → Value.okWide Try.prog W .any base t v := hval0
  have hW' := hW
  obtain ⟨p, q, hA0, hV, rfl, hfz, hnd⟩ := hW
  have hA : DataW.TrodAll enc Try.prog W 0 (fun _ => true) true Try.f4.params.toList args.toList ds p := hA0
  rw [Try.params4] at hA hval hsz
  obtain ⟨v0, vs0, d0, ds0, p0, q0, hargs, rfl, rfl, h0, r0⟩ := trodAll_cons hA
  obtain ⟨v1, vs1, d1, ds1, p1, q1, rfl, rfl, rfl, h1, r1⟩ := trodAll_cons r0
  obtain ⟨rfl, rfl, rfl⟩ := trodAll_nil r1
  obtain rfl : args = #[v0, v1] := by cases args; simp_all
  obtain ⟨rfl, rfl⟩ := trodVars_none hV
  have k0 := h0
  have lt0 : ∀ x ∈ p0, x.block < W.heap.size := by obtain ⟨m, hm⟩ := k0; exact DataW.trod_lt m _ _ _ hm
  obtain ⟨m0, hm0⟩ := h0
  obtain ⟨rk, tf, tq, tn, vk, vx, vb, vs, va, vm, vc, tv, ru, nu, wa, pf, pc, pm, ca, cc, aa, ac, cds, ads, nn, e0, hn5, iv, ic, ia, hfq, hcl, hal⟩ := open_rq m0 _ _ hm0
  have c0 : v0.cells = #[.int .i64 rk, .string tf, .string tq, .string tn, .int .i64 vk, .int .i64 vx, .int .u64 vb, .string vs, .slice va vm vc, .int .i64 ru, .int .i64 nu, .int .i64 wa, .int .i64 pf, .int .u64 (pc : Int), .int .i64 pm, .slice ca cds.length cc, .slice aa ads.length ac] := Array.toList_inj.1 e0
  obtain rfl : v0 = .agg #[.int .i64 rk, .string tf, .string tq, .string tn, .int .i64 vk, .int .i64 vx, .int .u64 vb, .string vs, .slice va vm vc, .int .i64 ru, .int .i64 nu, .int .i64 wa, .int .i64 pf, .int .u64 (pc : Int), .int .i64 pm, .slice ca cds.length cc, .slice aa ads.length ac] := (aggQ (v := v0) (k := 15) (by rw [c0]; rfl)).trans (by rw [c0])
  obtain ⟨a1, len1, cap1, rfl⟩ := okWide_slice Try.underlying32 (hval 1 32 v1 rfl rfl)
  have k1 := h1
  have lt1 : ∀ x ∈ p1, x.block < W.heap.size := by obtain ⟨m, hm⟩ := k1; exact DataW.trod_lt m _ _ _ hm
  obtain ⟨z1, w1, hbd1⟩ : ∃ zs, IsRow .u8 W a1 len1 cap1 zs ∧ len1 ≤ 140737488351232 := by
    obtain ⟨fuel, hf⟩ := h1
    rcases open_ints Try.underlying32 Try.underlying5 (by kernel_rfl) hf with ⟨hcs, _⟩ | ⟨x, l, c, zs, hcs, _, hl, hm, hz, hx, hcell, hwz⟩
    · simp [Value.cells] at hcs
      obtain ⟨rfl, rfl, rfl⟩ := hcs
      exact ⟨[], .inl ⟨rfl, rfl, rfl, rfl⟩, by omega⟩
    · simp [Value.cells] at hcs
      obtain ⟨rfl, rfl, rfl⟩ := hcs
      refine ⟨zs, .inr ⟨_, rfl, hl, hm, by simpa using hz, hcell, hwz⟩, ?_⟩
      have hd : d1 = DataW.slice (lits IntKind.u8 (List.take len1 zs)) (lits IntKind.u8 (List.drop len1 zs)) := congrArg Prod.fst hx
      have hlen : (lits (H := H) IntKind.u8 (List.take len1 zs)).length = len1 := by
        simp only [lits, List.length_map, List.length_take]
        simp at hz
        omega
      have hw := sized_slice hsz (j := 1) (t := 32) (e := 5) rfl (by rw [hd]; rfl) Try.underlying32
      have hbytes : Try.prog.bytesOf 5 = 1 := by kernel_rfl
      rw [hbytes, hlen] at hw
      unfold reachBytes at hw
      omega
  obtain ⟨l1, hl1, hh1⟩ := row_holds w1
  clear hA0 hval0
  subst hl1
  refine (asked_walk nn rk tf tq tn vk vx vb vs va vm vc tv ru nu wa pf pc pm ca cc aa ac cds ads a1 cap1 l1 W hn5 iv ic ia hfq hcl hal hh1 (by omega)).mono fun e W' ⟨he, bel⟩ => ?_
  subst he
  exact ⟨_, rfl, _, _, _, [], _, [], hW', trodAll_mk1 (shut_bool Try.underlying4 _), (trodAll_cons_mk (Below.trod laidOut (by kernel_rfl) (of_decide_eq_true (by kernel_rfl)) k0 bel lt0) (trodAll_cons_mk (Below.trod laidOut (by kernel_rfl) (of_decide_eq_true (by kernel_rfl)) k1 bel lt1) trodAll_mk0)), rfl, bel.frame _, fun h => by cases h⟩

theorem over : Rows.reqcodeAskedRow.holds Try.pinned (OpenSpec.ofChange Rows.reqcodeAskedSpec) :=
  OpenClaim.holds_of_wide 4 Try.f4 rfl rfl rfl rfl rfl rfl rfl ⟨rfl, rfl, rfl, rfl, rfl⟩ rfl rfl rfl rfl rfl (by kernel_rfl) Try.func4 (by kernel_rfl)
    (of_decide_eq_true (by kernel_rfl)) (by unfold Func.isWrapper; first | (rw [if_pos (by decide +kernel)]; kernel_rfl) | (rw [if_neg (by decide +kernel)]; exact ⟨rfl, rfl⟩))
    (fun os started H enc _ => lifted os started H enc)

theorem proved : Rows.ReqcodeAskedSaid := over
end Go.Proofs.Ytjmonkhkcmcfiaa.reqcodeAsked

namespace Go.Proofs.Ytjmonkhkcmcfiaa
theorem reqcodeAsked_holds : Rows.ReqcodeAskedSaid := reqcodeAsked.proved
end Go.Proofs.Ytjmonkhkcmcfiaa
