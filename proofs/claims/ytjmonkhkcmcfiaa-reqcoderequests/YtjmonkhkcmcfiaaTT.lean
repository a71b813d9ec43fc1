/- The walk of ReqcodeAsked; the opening of a request. -/
import Derived.Test.YtjmonkhkcmcfiaaTP
import Derived.Deep.WholeRow
import Derived.Test.YtjmonkhkcmcfiaaVJ
import Derived.Deep.Slices
import Derived.ChangeArms
import Derived.ChangeSame
namespace Go.Proofs.Ytjmonkhkcmcfiaa
open Go.ChangeShapes Go.WideShapes Go.ChangeAt Go.RowKit
theorem wpList_load_rowG {P : Program} {ops : Array Oper} {rest : List Oper} {o : Oper} {a : Act} {w : World} {Q : Exit → Act → World → Prop} (hw : Region.wanted o (yielded ops a.tmps) = true) (ty : TypeId) (x : Operand) (ho : o.op = .load ty x)
    (g : Nat) (hx : a.eval x = .pointer (some ⟨g, 0, none⟩)) (t : TypeId) (cs : Array Value) (fr : Nat × Nat) (d : TypeDesc) (hg : w.heap[g]? = some (.cells cs t fr))
    (hu : P.underlying ty = some d) (hd : (match d with | .struct _ | .array _ _ => true | _ => false) = true) (hi : (P.info? ty).map (·.size) = some cs.size)
    (h : wpList P ops Q rest (a.put o.dst (.agg cs)) w) : wpList P ops Q (o :: rest) a w :=
  wpList_step fun _ hK => by rw [if_pos hw]; exact wp_load_row ty x ho g hx t cs fr d hg hu hd hi (hK _ _ h)
theorem cx_error {w w' : World} {c : Int} {e : Ending} (h : CxP w (.error c) e w') : Below w.heap.size w w' ∧ e = .returned (.tuple #[.slice none 0 0, .int .i64 c]) := h
theorem cx_ok {w w' : World} {m : List UInt8} {e : Ending} (h : CxP w (.ok m) e w') : Below w.heap.size w w' ∧ ∃ v, e = .returned (.tuple #[v, .int .i64 0]) ∧ Own w.heap.size w' v m := h
theorem qR_err {r : Option (List UInt8)} {c : Int} (h : qR r = .error c) : c ≠ 0 := by
  cases r with
  | none => cases h; decide
  | some m =>
    have h2 : (if m.length ≤ 16384 then Except.ok m else .error 5 : Except Int (List UInt8)) = .error c := h
    split at h2
    · cases h2
    · cases h2; decide
set_option maxHeartbeats 8000000 in
set_option maxRecDepth 100000 in
theorem asked_walk (n : Nat) (rk : Int) (tf tq tn : ByteArray) (vk vx vb : Int) (vs : ByteArray) (va : Option Addr) (vm vc : Nat) (tv : Tv) (ru nu wa pf : Int) (pc : Nat) (pm : Int) (ca : Option Addr) (cc : Nat) (aa : Option Addr) (ac : Nat) (cds : List (Int × ByteArray × Tv × Int)) (ads : List (Int × Tv)) (bp : Option Addr) (bc : Nat) (lb : List UInt8) (w : World) (hn : 5 ≤ n)
    (hv : Is w n (.agg #[.int .i64 vk, .int .i64 vx, .int .u64 vb, .string vs, .slice va vm vc]) tv) (hc : LsG 8 ElC w n ca cds) (ha : LsG 6 ElA w n aa ads) (hf : FitQ n (⟨rk, tf, tq, tn, tv, ru, nu, wa, pf, pc, pm, cds, ads⟩ : Rq)) (hcl : cds.length ≤ 9223372036854775807) (hal : ads.length ≤ 9223372036854775807) (hb : Lib.HoldsBytes w (.slice bp lb.length bc) lb) (hbl : lb.length ≤ 281474976710656) :
    Calls Try.prog 4 #[.agg #[.int .i64 rk, .string tf, .string tq, .string tn, .int .i64 vk, .int .i64 vx, .int .u64 vb, .string vs, .slice va vm vc, .int .i64 ru, .int .i64 nu, .int .i64 wa, .int .i64 pf, .int .u64 (pc : Int), .int .i64 pm, .slice ca cds.length cc, .slice aa ads.length ac], .slice bp lb.length bc] w fun e w' => e = .returned (.bool true) ∧ Below w.heap.size w w' := by
  obtain ⟨W0, hW0⟩ : ∃ W0, W0 = w.alloc (.cells #[.int .i64 rk, .string tf, .string tq, .string tn, .int .i64 vk, .int .i64 vx, .int .u64 vb, .string vs, .slice va vm vc, .int .i64 ru, .int .i64 nu, .int .i64 wa, .int .i64 pf, .int .u64 (pc : Int), .int .i64 pm, .slice ca cds.length cc, .slice aa ads.length ac] 31) := ⟨_, rfl⟩
  have HW0 : Hid (W0 = _) := hW0
  have B0 : Hid (Below w.heap.size w W0) := by rw [hW0]; exact bel1 _ _
  have r0 : W0.heap[w.heap.size]? = some (.cells #[.int .i64 rk, .string tf, .string tq, .string tn, .int .i64 vk, .int .i64 vx, .int .u64 vb, .string vs, .slice va vm vc, .int .i64 ru, .int .i64 nu, .int .i64 wa, .int .i64 pf, .int .u64 (pc : Int), .int .i64 pm, .slice ca cds.length cc, .slice aa ads.length ac] 31 (0, 0)) := by rw [hW0]; exact heap_alloc_new w _
  have R0 : Hid (W0.heap[w.heap.size]? = some (.cells #[.int .i64 rk, .string tf, .string tq, .string tn, .int .i64 vk, .int .i64 vx, .int .u64 vb, .string vs, .slice va vm vc, .int .i64 ru, .int .i64 nu, .int .i64 wa, .int .i64 pf, .int .u64 (pc : Int), .int .i64 pm, .slice ca cds.length cc, .slice aa ads.length ac] 31 (0, 0))) := r0
  have Z0 : Hid (w.heap.size < W0.heap.size) := (Array.getElem?_eq_some_iff.1 r0).1
  have FW : Hid (Calls Try.prog 5 _ W0 _) := few_calls rk tf tq tn vk vx vb vs va vm vc ru nu wa pf pc pm ca cds.length cc aa ads.length ac W0
  have RQ : Hid (∀ W, Below w.heap.size w W → Calls Try.prog 7 #[.agg #[.int .i64 rk, .string tf, .string tq, .string tn, .int .i64 vk, .int .i64 vx, .int .u64 vb, .string vs, .slice va vm vc, .int .i64 ru, .int .i64 nu, .int .i64 wa, .int .i64 pf, .int .u64 (pc : Int), .int .i64 pm, .slice ca cds.length cc, .slice aa ads.length ac]] W (CxP W (qR (rB n rk tf tq tn tv ru nu wa pf pc pm cds ads)))) := fun W hB => request_calls n rk tf tq tn vk vx vb vs va vm vc tv ru nu wa pf pc pm ca cds.length cc aa ads.length ac cds ads W (hv.below hB) rfl (hc.below elC hB).lsC rfl (ha.below elA hB).lsA
  have HBk : Hid (∀ m, qR (rB n rk tf tq tn tv ru nu wa pf pc pm cds ads) = .ok m → rdQ m = ((⟨rk, tf, tq, tn, tv, ru, nu, wa, pf, pc, pm, cds, ads⟩ : Rq), 0) ∧ m.length ≤ 16384) := fun m hm => asked_back (n := n) hf hm
  have SM : Hid (∀ W, Below w.heap.size w W → ∀ (k2 x2 b2 : Int) (s2 : ByteArray) (la2 : Option Addr) (lm2 lc2 : Nat) (ca2 : Option Addr) (cc2 : Nat) (aa2 : Option Addr) (ac2 : Nat), Is W 5 (.agg #[.int .i64 k2, .int .i64 x2, .int .u64 b2, .string s2, .slice la2 lm2 lc2]) tv → LsG 8 ElC W 5 ca2 cds → LsG 6 ElA W 5 aa2 ads → Calls Try.prog 13 #[.agg #[.int .i64 rk, .string tf, .string tq, .string tn, .int .i64 vk, .int .i64 vx, .int .u64 vb, .string vs, .slice va vm vc, .int .i64 ru, .int .i64 nu, .int .i64 wa, .int .i64 pf, .int .u64 (pc : Int), .int .i64 pm, .slice ca cds.length cc, .slice aa ads.length ac], .agg #[.int .i64 rk, .string tf, .string tq, .string tn, .int .i64 k2, .int .i64 x2, .int .u64 b2, .string s2, .slice la2 lm2 lc2, .int .i64 ru, .int .i64 nu, .int .i64 wa, .int .i64 pf, .int .u64 (pc : Int), .int .i64 pm, .slice ca2 cds.length cc2, .slice aa2 ads.length ac2]] W (SmP W ((⟨rk, tf, tq, tn, tv, ru, nu, wa, pf, pc, pm, cds, ads⟩ : Rq) = (⟨rk, tf, tq, tn, tv, ru, nu, wa, pf, pc, pm, cds, ads⟩ : Rq)))) := fun W hB k2 x2 b2 s2 la2 lm2 lc2 ca2 cc2 aa2 ac2 h1 h2 h3 => sameR_calls n W rk tf tq tn vk vx vb vs va vm vc tv ru nu wa pf pc pm ca cc aa ac cds ads rk tf tq tn k2 x2 b2 s2 la2 lm2 lc2 tv ru nu wa pf pc pm ca2 cc2 aa2 ac2 cds ads (hv.below hB) (h1.up hn) (hc.below elC hB) (h2.up elC hn) (ha.below elA hB) (h3.up elA hn) hcl hal
  have RDb : Hid (∀ W, Below w.heap.size w W → Calls Try.prog 9 #[.slice bp lb.length bc] W (OnP W (rdQ lb))) := fun W hB => readrequest_calls W _ lb (holds_below hb hB) hbl
  have HBb : Hid (∀ W, Below w.heap.size w W → Lib.HoldsBytes W (.slice bp lb.length bc) lb) := fun W hB => holds_below hb hB
  have HInv : Hid (∀ x, rdQ lb = (x, 0) → qR (rBq 5 x) = .ok lb) := fun x hx => asked_inv hx
  have HErr : Hid (∀ c, qR (rB n rk tf tq tn tv ru nu wa pf pc pm cds ads) = .error c → c ≠ 0) := fun c hc => qR_err hc
  generalize hQ : qR (rB n rk tf tq tn tv ru nu wa pf pc pm cds ads) = QR at RQ HBk HErr
  obtain ⟨RB, hRB⟩ : ∃ RB, RB = rdQ lb := ⟨_, rfl⟩
  rw [← hRB] at RDb HInv
  clear hW0 hv hc ha hf hcl hal hb hbl r0 hQ hRB hn
  go_enter Try.func4, Try.ntmps4
  go_upto_region 1 with fail
  rw [← HW0.out]
  have r0 := R0.out
  go_wp2_with (refine wpList_load_row rfl 31 _ rfl w.heap.size rfl 31 _ (0, 0) _ r0 Try.underlying31 rfl infoR31 ?_)
  clear r0
  refine FW.out.mono ?_
  rintro e w1 ⟨⟨bb, rfl⟩, hb1⟩
  have B1 : Hid (Below w.heap.size w w1) := bel2 B0.out hb1
  have R1 : Hid (w1.heap[w.heap.size]? = some (.cells #[.int .i64 rk, .string tf, .string tq, .string tn, .int .i64 vk, .int .i64 vx, .int .u64 vb, .string vs, .slice va vm vc, .int .i64 ru, .int .i64 nu, .int .i64 wa, .int .i64 pf, .int .u64 (pc : Int), .int .i64 pm, .slice ca cds.length cc, .slice aa ads.length ac] 31 (0, 0))) := (hb1.block _ Z0.out).trans R0.out
  have Z1 : Hid (w.heap.size < w1.heap.size) := Nat.lt_of_lt_of_le Z0.out hb1.size
  clear hb1 FW
  cases bb with
  | false =>
    clear RQ HBk SM RDb HBb HInv HErr
    go_wp2_with fail
    refine (awake_calls _).mono ?_
    rintro e w2 ⟨rfl, hb2⟩
    have B2 : Hid (Below w.heap.size w w2) := bel2 B1.out hb2
    clear hb2
    go_wp2_with fail
    go_ret
    exact ⟨rfl, B2.out⟩
  | true =>
    have r1 := R1.out
    have RQ1 : Hid (Calls Try.prog 7 _ w1 (CxP w1 QR)) := RQ.out w1 B1.out
    clear RQ
    go_wp2_with (refine wpList_load_row rfl 31 _ rfl w.heap.size rfl 31 _ (0, 0) _ r1 Try.underlying31 rfl infoR31 ?_)
    clear r1
    refine RQ1.out.mono ?_
    intro e w2 hcx
    clear RQ1
    cases QR with
    | error cd =>
      obtain ⟨hb2, rfl⟩ := cx_error hcx
      have B2 : Hid (Below w.heap.size w w2) := bel2 B1.out hb2
      have dcd : (cd == 0) = false := by have := HErr.out cd rfl; simpa using this
      clear hcx hb2 SM HBk HErr
      have RD8 : Hid (Calls Try.prog 9 _ w2 (OnP w2 RB)) := RDb.out w2 B2.out
      clear RDb
      obtain ⟨⟨rk8, tf8, tq8, tn8, t8, ru8, nu8, wa8, pf8, pc8, pm8, cds8, ads8⟩, E8⟩ := RB
      go_wp2_with fail
      refine RD8.out.mono ?_
      rintro e w8 ⟨k8, x8, b8, s8, la8, lm8, lc8, ca8, cc8, aa8, ac8, rfl, hi8, hc8, ha8, hb8⟩
      dsimp only at hi8 hc8 ha8
      obtain ⟨W8, hW8⟩ : ∃ W8, W8 = w8.alloc (.cells #[.int .i64 rk8, .string tf8, .string tq8, .string tn8, .int .i64 k8, .int .i64 x8, .int .u64 b8, .string s8, .slice la8 lm8 lc8, .int .i64 ru8, .int .i64 nu8, .int .i64 wa8, .int .i64 pf8, .int .u64 (pc8 : Int), .int .i64 pm8, .slice ca8 cds8.length cc8, .slice aa8 ads8.length ac8] 31) := ⟨_, rfl⟩
      have HW8 : Hid (W8 = _) := hW8
      obtain ⟨q8, hq8⟩ : ∃ q8, q8 = w8.heap.size := ⟨_, rfl⟩
      have HQ8 : Hid (q8 = w8.heap.size) := hq8
      have bW8 : Below w8.heap.size w8 W8 := by rw [hW8]; exact bel1 _ _
      have R8 : Hid (W8.heap[q8]? = some (.cells #[.int .i64 rk8, .string tf8, .string tq8, .string tn8, .int .i64 k8, .int .i64 x8, .int .u64 b8, .string s8, .slice la8 lm8 lc8, .int .i64 ru8, .int .i64 nu8, .int .i64 wa8, .int .i64 pf8, .int .u64 (pc8 : Int), .int .i64 pm8, .slice ca8 cds8.length cc8, .slice aa8 ads8.length ac8] 31 (0, 0))) := by rw [hW8, hq8]; exact heap_alloc_new w8 _
      have B8 : Hid (Below w.heap.size w W8) := bel2 (bel2 B2.out hb8) bW8
      have RQ8 : Hid (Calls Try.prog 7 #[.agg #[.int .i64 rk8, .string tf8, .string tq8, .string tn8, .int .i64 k8, .int .i64 x8, .int .u64 b8, .string s8, .slice la8 lm8 lc8, .int .i64 ru8, .int .i64 nu8, .int .i64 wa8, .int .i64 pf8, .int .u64 (pc8 : Int), .int .i64 pm8, .slice ca8 cds8.length cc8, .slice aa8 ads8.length ac8]] W8 (CxP W8 (qR (rBq 5 ⟨rk8, tf8, tq8, tn8, t8, ru8, nu8, wa8, pf8, pc8, pm8, cds8, ads8⟩)))) := request_calls 5 rk8 tf8 tq8 tn8 k8 x8 b8 s8 la8 lm8 lc8 t8 ru8 nu8 wa8 pf8 pc8 pm8 ca8 cds8.length cc8 aa8 ads8.length ac8 cds8 ads8 W8 (hi8.is.below bW8) rfl ((hc8.g elC).below elC bW8).lsC rfl ((ha8.g elA).below elA bW8).lsA
      clear hi8 hc8 ha8 hb8 hW8 hq8 bW8 RD8
      go_upto_region 9 with fail
      rw [← HW8.out, ← HQ8.out]
      by_cases h8 : E8 = 0
      · subst h8
        rw [HInv.out _ rfl] at RQ8
        have r8 := R8.out
        go_wp2_with (refine wpList_load_row rfl 31 _ rfl q8 rfl 31 _ (0, 0) _ r8 Try.underlying31 rfl infoR31 ?_)
        clear r8
        refine RQ8.out.mono ?_
        intro e w9 hcx9
        obtain ⟨hb9, v9, rfl, ho9⟩ := cx_ok hcx9
        obtain ⟨p9, c9, rfl⟩ := own_shape ho9
        have H9 : Hid (Lib.HoldsBytes w9 (.slice p9 lb.length c9) lb) := own_holds ho9
        have B9 : Hid (Below w.heap.size w w9) := bel2 B8.out hb9
        have HB9 : Hid (Lib.HoldsBytes w9 (.slice bp lb.length bc) lb) := HBb.out w9 B9.out
        clear hcx9 hb9 ho9 RQ8
        go_wp2_with fail
        refine (equal_calls _ _ _ _ _ H9.out HB9.out).mono ?_
        rintro e w10 ⟨rfl, hw⟩
        have hw' := hw.symm
        subst hw'
        clear hw
        rw [beq_self_eq_true]
        go_wp2_with fail
        refine (awake_calls _).mono ?_
        rintro e w11 ⟨rfl, hb11⟩
        have B11 : Hid (Below w.heap.size w w11) := bel2 B9.out hb11
        clear hb11
        go_wp2_with fail
        go_ret
        exact ⟨by simp, B11.out⟩
      · have dE : (E8 != 0) = true := by simpa using h8
        clear RQ8 h8 HInv
        go_wp2_with fail
        refine (awake_calls _).mono ?_
        rintro e w11 ⟨rfl, hb11⟩
        have B11 : Hid (Below w.heap.size w w11) := bel2 B8.out hb11
        clear hb11
        go_wp2_with fail
        go_ret
        exact ⟨rfl, B11.out⟩
    | ok m =>
      obtain ⟨hb2, v2, rfl, ho2⟩ := cx_ok hcx
      obtain ⟨p2, c2, rfl⟩ := own_shape ho2
      obtain ⟨hbk, hml⟩ := HBk.out m rfl
      have B2 : Hid (Below w.heap.size w w2) := bel2 B1.out hb2
      have R2 : Hid (w2.heap[w.heap.size]? = some (.cells #[.int .i64 rk, .string tf, .string tq, .string tn, .int .i64 vk, .int .i64 vx, .int .u64 vb, .string vs, .slice va vm vc, .int .i64 ru, .int .i64 nu, .int .i64 wa, .int .i64 pf, .int .u64 (pc : Int), .int .i64 pm, .slice ca cds.length cc, .slice aa ads.length ac] 31 (0, 0))) := (hb2.block _ Z1.out).trans R1.out
      have Z2 : Hid (w.heap.size < w2.heap.size) := Nat.lt_of_lt_of_le Z1.out hb2.size
      have RD2 : Hid (Calls Try.prog 9 #[.slice p2 m.length c2] w2 (OnP w2 ((⟨rk, tf, tq, tn, tv, ru, nu, wa, pf, pc, pm, cds, ads⟩ : Rq), 0))) := by rw [← hbk]; exact readrequest_calls w2 _ m (own_holds ho2) (by omega)
      have dm : decide ((16384 : Int) < (m.length : Int)) = false := decide_eq_false (by omega)
      have dm2 : decide (16384 < m.length) = false := decide_eq_false (by omega)
      clear hcx hb2 ho2 hbk hml HBk HErr
      go_wp2_with fail
      refine RD2.out.mono ?_
      rintro e w3 ⟨k2, x2, b2, s2, la2, lm2, lc2, ca2, cc2, aa2, ac2, rfl, hi3, hc3, ha3, hb3⟩
      dsimp only at hi3 hc3 ha3
      obtain ⟨W3, hW3⟩ : ∃ W3, W3 = w3.alloc (.cells #[.int .i64 rk, .string tf, .string tq, .string tn, .int .i64 k2, .int .i64 x2, .int .u64 b2, .string s2, .slice la2 lm2 lc2, .int .i64 ru, .int .i64 nu, .int .i64 wa, .int .i64 pf, .int .u64 (pc : Int), .int .i64 pm, .slice ca2 cds.length cc2, .slice aa2 ads.length ac2] 31) := ⟨_, rfl⟩
      have HW3 : Hid (W3 = _) := hW3
      obtain ⟨q3, hq3⟩ : ∃ q3, q3 = w3.heap.size := ⟨_, rfl⟩
      have HQ3 : Hid (q3 = w3.heap.size) := hq3
      have bW3 : Below w3.heap.size w3 W3 := by rw [hW3]; exact bel1 _ _
      have r3 : W3.heap[q3]? = some (.cells #[.int .i64 rk, .string tf, .string tq, .string tn, .int .i64 k2, .int .i64 x2, .int .u64 b2, .string s2, .slice la2 lm2 lc2, .int .i64 ru, .int .i64 nu, .int .i64 wa, .int .i64 pf, .int .u64 (pc : Int), .int .i64 pm, .slice ca2 cds.length cc2, .slice aa2 ads.length ac2] 31 (0, 0)) := by rw [hW3, hq3]; exact heap_alloc_new w3 _
      have r3q : W3.heap[w.heap.size]? = some (.cells #[.int .i64 rk, .string tf, .string tq, .string tn, .int .i64 vk, .int .i64 vx, .int .u64 vb, .string vs, .slice va vm vc, .int .i64 ru, .int .i64 nu, .int .i64 wa, .int .i64 pf, .int .u64 (pc : Int), .int .i64 pm, .slice ca cds.length cc, .slice aa ads.length ac] 31 (0, 0)) := ((bel2 hb3 bW3).block _ Z2.out).trans R2.out
      have B3 : Hid (Below w.heap.size w W3) := bel2 B2.out (bel2 hb3 bW3)
      have SM3 : Hid (Calls Try.prog 13 _ W3 _) := SM.out W3 B3.out k2 x2 b2 s2 la2 lm2 lc2 ca2 cc2 aa2 ac2 (hi3.is.below bW3) ((hc3.g elC).below elC bW3) ((ha3.g elA).below elA bW3)
      clear hi3 hc3 ha3 hb3 hW3 hq3 bW3 RD2 SM
      go_upto_region 6 with fail
      rw [← HW3.out, ← HQ3.out]
      go_wp2_with (first | refine wpList_load_rowG rfl 31 _ rfl w.heap.size rfl 31 _ (0, 0) _ r3q Try.underlying31 rfl infoR31 ?_ | refine wpList_load_rowG rfl 31 _ rfl q3 rfl 31 _ (0, 0) _ r3 Try.underlying31 rfl infoR31 ?_)
      clear r3 r3q
      refine SM3.out.mono ?_
      rintro e w4 ⟨⟨rr, rfl, hrr⟩, hb4⟩
      obtain rfl : rr = true := hrr.2 (by simp)
      have B4 : Hid (Below w.heap.size w w4) := bel2 B3.out hb4
      clear hrr hb4 SM3
      have RD8 : Hid (Calls Try.prog 9 _ w4 (OnP w4 RB)) := RDb.out w4 B4.out
      clear RDb
      obtain ⟨⟨rk8, tf8, tq8, tn8, t8, ru8, nu8, wa8, pf8, pc8, pm8, cds8, ads8⟩, E8⟩ := RB
      go_wp2_with fail
      refine RD8.out.mono ?_
      rintro e w8 ⟨k8, x8, b8, s8, la8, lm8, lc8, ca8, cc8, aa8, ac8, rfl, hi8, hc8, ha8, hb8⟩
      dsimp only at hi8 hc8 ha8
      obtain ⟨W8, hW8⟩ : ∃ W8, W8 = w8.alloc (.cells #[.int .i64 rk8, .string tf8, .string tq8, .string tn8, .int .i64 k8, .int .i64 x8, .int .u64 b8, .string s8, .slice la8 lm8 lc8, .int .i64 ru8, .int .i64 nu8, .int .i64 wa8, .int .i64 pf8, .int .u64 (pc8 : Int), .int .i64 pm8, .slice ca8 cds8.length cc8, .slice aa8 ads8.length ac8] 31) := ⟨_, rfl⟩
      have HW8 : Hid (W8 = _) := hW8
      obtain ⟨q8, hq8⟩ : ∃ q8, q8 = w8.heap.size := ⟨_, rfl⟩
      have HQ8 : Hid (q8 = w8.heap.size) := hq8
      have bW8 : Below w8.heap.size w8 W8 := by rw [hW8]; exact bel1 _ _
      have R8 : Hid (W8.heap[q8]? = some (.cells #[.int .i64 rk8, .string tf8, .string tq8, .string tn8, .int .i64 k8, .int .i64 x8, .int .u64 b8, .string s8, .slice la8 lm8 lc8, .int .i64 ru8, .int .i64 nu8, .int .i64 wa8, .int .i64 pf8, .int .u64 (pc8 : Int), .int .i64 pm8, .slice ca8 cds8.length cc8, .slice aa8 ads8.length ac8] 31 (0, 0))) := by rw [hW8, hq8]; exact heap_alloc_new w8 _
      have B8 : Hid (Below w.heap.size w W8) := bel2 (bel2 B4.out hb8) bW8
      have RQ8 : Hid (Calls Try.prog 7 #[.agg #[.int .i64 rk8, .string tf8, .string tq8, .string tn8, .int .i64 k8, .int .i64 x8, .int .u64 b8, .string s8, .slice la8 lm8 lc8, .int .i64 ru8, .int .i64 nu8, .int .i64 wa8, .int .i64 pf8, .int .u64 (pc8 : Int), .int .i64 pm8, .slice ca8 cds8.length cc8, .slice aa8 ads8.length ac8]] W8 (CxP W8 (qR (rBq 5 ⟨rk8, tf8, tq8, tn8, t8, ru8, nu8, wa8, pf8, pc8, pm8, cds8, ads8⟩)))) := request_calls 5 rk8 tf8 tq8 tn8 k8 x8 b8 s8 la8 lm8 lc8 t8 ru8 nu8 wa8 pf8 pc8 pm8 ca8 cds8.length cc8 aa8 ads8.length ac8 cds8 ads8 W8 (hi8.is.below bW8) rfl ((hc8.g elC).below elC bW8).lsC rfl ((ha8.g elA).below elA bW8).lsA
      clear hi8 hc8 ha8 hb8 hW8 hq8 bW8 RD8
      go_upto_region 9 with fail
      rw [← HW8.out, ← HQ8.out]
      by_cases h8 : E8 = 0
      · subst h8
        rw [HInv.out _ rfl] at RQ8
        have r8 := R8.out
        go_wp2_with (refine wpList_load_row rfl 31 _ rfl q8 rfl 31 _ (0, 0) _ r8 Try.underlying31 rfl infoR31 ?_)
        clear r8
        refine RQ8.out.mono ?_
        intro e w9 hcx9
        obtain ⟨hb9, v9, rfl, ho9⟩ := cx_ok hcx9
        obtain ⟨p9, c9, rfl⟩ := own_shape ho9
        have H9 : Hid (Lib.HoldsBytes w9 (.slice p9 lb.length c9) lb) := own_holds ho9
        have B9 : Hid (Below w.heap.size w w9) := bel2 B8.out hb9
        have HB9 : Hid (Lib.HoldsBytes w9 (.slice bp lb.length bc) lb) := HBb.out w9 B9.out
        clear hcx9 hb9 ho9 RQ8
        go_wp2_with fail
        refine (equal_calls _ _ _ _ _ H9.out HB9.out).mono ?_
        rintro e w10 ⟨rfl, hw⟩
        have hw' := hw.symm
        subst hw'
        clear hw
        rw [beq_self_eq_true]
        go_wp2_with fail
        refine (awake_calls _).mono ?_
        rintro e w11 ⟨rfl, hb11⟩
        have B11 : Hid (Below w.heap.size w w11) := bel2 B9.out hb11
        clear hb11
        go_wp2_with fail
        go_ret
        exact ⟨by simp, B11.out⟩
      · have dE : (E8 != 0) = true := by simpa using h8
        clear RQ8 h8 HInv
        go_wp2_with fail
        refine (awake_calls _).mono ?_
        rintro e w11 ⟨rfl, hb11⟩
        have B11 : Hid (Below w.heap.size w w11) := bel2 B8.out hb11
        clear hb11
        go_wp2_with fail
        go_ret
        exact ⟨rfl, B11.out⟩
end Go.Proofs.Ytjmonkhkcmcfiaa
namespace Go.Proofs.Ytjmonkhkcmcfiaa
open Go.ChangeShapes Go.WideShapes Go.ChangeAt Go.RowKit
theorem lsq2 {α : Type} : ∀ {l : List α}, l.length = 2 → ∃ e0 e1, l = [e0, e1]
  | [e0, e1], _ => ⟨e0, e1, rfl⟩
theorem lsq3 {α : Type} : ∀ {l : List α}, l.length = 3 → ∃ e0 e1 e2, l = [e0, e1, e2]
  | [e0, e1, e2], _ => ⟨e0, e1, e2, rfl⟩
theorem lsq4 {α : Type} : ∀ {l : List α}, l.length = 4 → ∃ e0 e1 e2 e3, l = [e0, e1, e2, e3]
  | [e0, e1, e2, e3], _ => ⟨e0, e1, e2, e3, rfl⟩
theorem lsq6 {α : Type} : ∀ {l : List α}, l.length = 6 → ∃ e0 e1 e2 e3 e4 e5, l = [e0, e1, e2, e3, e4, e5]
  | [e0, e1, e2, e3, e4, e5], _ => ⟨e0, e1, e2, e3, e4, e5, rfl⟩
theorem lsq8 {α : Type} : ∀ {l : List α}, l.length = 8 → ∃ e0 e1 e2 e3 e4 e5 e6 e7, l = [e0, e1, e2, e3, e4, e5, e6, e7]
  | [e0, e1, e2, e3, e4, e5, e6, e7], _ => ⟨e0, e1, e2, e3, e4, e5, e6, e7, rfl⟩
theorem lsq11 {α : Type} : ∀ {l : List α}, l.length = 11 → ∃ e0 e1 e2 e3 e4 e5 e6 e7 e8 e9 e10, l = [e0, e1, e2, e3, e4, e5, e6, e7, e8, e9, e10]
  | [e0, e1, e2, e3, e4, e5, e6, e7, e8, e9, e10], _ => ⟨e0, e1, e2, e3, e4, e5, e6, e7, e8, e9, e10, rfl⟩
theorem lsq17 {α : Type} : ∀ {l : List α}, l.length = 17 → ∃ e0 e1 e2 e3 e4 e5 e6 e7 e8 e9 e10 e11 e12 e13 e14 e15 e16, l = [e0, e1, e2, e3, e4, e5, e6, e7, e8, e9, e10, e11, e12, e13, e14, e15, e16]
  | [e0, e1, e2, e3, e4, e5, e6, e7, e8, e9, e10, e11, e12, e13, e14, e15, e16], _ => ⟨e0, e1, e2, e3, e4, e5, e6, e7, e8, e9, e10, e11, e12, e13, e14, e15, e16, rfl⟩
theorem clQ71 : Try.prog.cellsOf 71 = 8 := by kernel_rfl
theorem clQ73 : Try.prog.cellsOf 73 = 6 := by kernel_rfl
theorem clQ27 : Try.prog.cellsOf 27 = 3 := by kernel_rfl
theorem clQ31 : Try.prog.cellsOf 31 = 17 := by kernel_rfl
open Go.Deep
theorem open_rows {H : Type} {enc : TypeId × Value → H} {W : World} {base : Nat} {spare : Nat → Bool} {held : Bool} {sl el : TypeId} {k : Nat} (hs : Try.prog.underlying sl = some (.slice el)) (hc : Try.prog.cellsOf el = k) (hk : 0 < k) (fuel : Nat) (cs : List Value) (x : DataW H × List MemPlace)
    (h : DataW.trod enc Try.prog W base spare held fuel sl cs = some x) :
    ∃ (a : Option Addr) (cap q : Nat) (rows : List (List Value)), cs = [.slice a rows.length cap] ∧ rows.length ≤ 9223372036854775807 ∧ ∀ (i : Nat) r, rows[i]? = some r → r.length = k ∧ (∃ B o, a = some ⟨B, o, none⟩ ∧ ∀ (j : Nat) v, r[j]? = some v → W.cell? ⟨B, o + i * k + j, none⟩ = some v) ∧
      ∃ y, DataW.trod enc Try.prog W base spare held q el r = some y := by
  rcases DataW.trod_slice hs h with ⟨h4, _⟩ | ⟨a, len, cap, elems, rest, q, hq, h4, h4x, _, hl, hm, he, hx, _, _⟩
  · exact ⟨none, 0, 0, [], by rw [h4]; rfl, by simp, fun i r hr => by simp at hr⟩
  · unfold maxLen at hm
    have each : ∀ i, i < len → ∃ r : List Value, r.length = k ∧ (∃ B o, a = ⟨B, o, none⟩ ∧ ∀ (j : Nat) v, r[j]? = some v → W.cell? ⟨B, o + i * k + j, none⟩ = some v) ∧ ∃ y, DataW.trod enc Try.prog W base spare held q el r = some y := by
      intro i hi
      have key := hx i hi
      rw [List.getElem?_eq_getElem (by omega)] at key
      obtain ⟨cs', k1, k2⟩ := Option.bind_eq_some_iff.1 key
      rw [hc] at k1
      obtain ⟨hl1, hl2, hcell⟩ := World.cells?_some k1
      have hlen : cs'.length = k := by first | exact hl1 | exact hl2
      have hsp : a.spot = none := by
        have key0 := hx 0 (by omega)
        rw [List.getElem?_eq_getElem (by omega)] at key0
        obtain ⟨cs0, k10, _⟩ := Option.bind_eq_some_iff.1 key0
        rw [hc] at k10
        obtain ⟨g1, g2, hcell0⟩ := World.cells?_some k10
        have hl0 : cs0.length = k := by first | exact g1 | exact g2
        have q0 := hcell0 0 (by omega)
        rw [List.getElem?_eq_getElem (by omega)] at q0
        have := plain_addr q0
        simpa [Addr.add] using this
      obtain ⟨B, o, sp⟩ := a
      cases hsp
      refine ⟨cs', hlen, ⟨B, o, rfl, fun j v hj => ?_⟩, _, k2⟩
      have hjl := (List.getElem?_eq_some_iff.1 hj).1
      have := hcell j (by omega)
      rw [addp, addp] at this
      rw [this]
      simpa using hj
    have inh : Inhabited (List Value) := ⟨[]⟩
    obtain ⟨F, hF⟩ := choose_lt each
    refine ⟨some a, cap, q, (List.range len).map F, by rw [h4]; simp, by simp; omega, fun i r hr => ?_⟩
    have hi : i < len := by have := (List.getElem?_eq_some_iff.1 hr).1; simpa using this
    rw [List.getElem?_map, List.getElem?_range hi] at hr
    cases hr
    obtain ⟨h1, ⟨B, o, h2, h3⟩, h5⟩ := hF i hi
    exact ⟨h1, ⟨B, o, by rw [h2], h3⟩, h5⟩
set_option maxRecDepth 100000 in
theorem open_pq {H : Type} {enc : TypeId × Value → H} {W : World} {base : Nat} {spare : Nat → Bool} {held : Bool} (fuel : Nat) (cs : List Value) (x : DataW H × List MemPlace) (h : DataW.trod enc Try.prog W base spare held fuel 27 cs = some x) :
    ∃ (f : Int) (c : Nat) (m : Int), cs = [.int .i64 f, .int .u64 (c : Int), .int .i64 m] ∧ c < 18446744073709551616 := by
  obtain ⟨xs, k, hk, hxy, hlen, hxl, hf⟩ := DataW.trod_struct Try.underlying27 h
  rw [clQ27] at hlen
  obtain ⟨c0, c1, c2, rfl⟩ := lsq3 hlen
  obtain ⟨y0, y1, y2, rfl⟩ := lsq3 (l := xs) hxl
  have g0 := hf 0 _ rfl
  have g1 := hf 1 _ rfl
  have g2 := hf 2 _ rfl
  clear hf hxl hlen hxy h
  simp only [List.getElem?_cons_zero, List.getElem?_cons_succ] at g0 g1 g2
  obtain ⟨n0, e0, _, w0⟩ := DataW.trod_int Try.underlying3 g0
  obtain ⟨n1, e1, _, w1⟩ := DataW.trod_int Try.underlying22 g1
  obtain ⟨n2, e2, _, w2⟩ := DataW.trod_int Try.underlying3 g2
  cases e0; cases e1; cases e2
  have g1 := lou64 w1
  refine ⟨n0, n1.toNat, n2, ?_, by omega⟩
  rw [Int.toNat_of_nonneg g1.1]
set_option maxRecDepth 100000 in
theorem open_cq {H : Type} {enc : TypeId × Value → H} {W : World} {base : Nat} {spare : Nat → Bool} {held : Bool} (fuel : Nat) (cs : List Value) (x : DataW H × List MemPlace) (h : DataW.trod enc Try.prog W base spare held fuel 71 cs = some x) :
    ∃ (e : Int × ByteArray × Tv × Int) (n : Nat) (row : Array Value), cs = row.toList ∧ ElC (Is W n) row e := by
  obtain ⟨xs, q, hk, hxy, hlen, hxl, hf⟩ := DataW.trod_struct Try.underlying71 h
  rw [clQ71] at hlen
  obtain ⟨a0, a1, a2, a3, a4, a5, a6, a7, rfl⟩ := lsq8 hlen
  obtain ⟨y0, y1, y2, y3, rfl⟩ := lsq4 (l := xs) hxl
  have g0 := hf 0 _ rfl
  have g1 := hf 1 _ rfl
  have g2 := hf 2 _ rfl
  have g3 := hf 3 _ rfl
  clear hf hxl hlen hxy h
  simp only [List.getElem?_cons_zero, List.getElem?_cons_succ] at g0 g1 g2 g3
  obtain ⟨n0, p0, _, _⟩ := DataW.trod_int Try.underlying3 g0
  obtain ⟨n1, p1, _, _⟩ := DataW.trod_string Try.underlying9 g1
  obtain ⟨v0, v1, v2, v3, v4, t2, m2, p2, i2⟩ := open_val q _ _ g2
  obtain ⟨n3, p3, _, _⟩ := DataW.trod_int Try.underlying3 g3
  cases p0; cases p1; cases p2; cases p3
  obtain ⟨k', x', b', s', a', m', c', rfl, rfl, rfl, rfl, rfl⟩ := i2.shape
  exact ⟨(n0, n1, t2, n3), m2, #[.int .i64 n0, .string n1, .int .i64 k', .int .i64 x', .int .u64 b', .string s', .slice a' m' c', .int .i64 n3], rfl, k', x', b', s', a', m', c', rfl, i2⟩
theorem open_cqs {H : Type} {enc : TypeId × Value → H} {W : World} {base : Nat} {spare : Nat → Bool} {held : Bool} (fuel : Nat) (cs : List Value) (x : DataW H × List MemPlace) (h : DataW.trod enc Try.prog W base spare held fuel 28 cs = some x) :
    ∃ (a : Option Addr) (c : Nat) (l : List (Int × ByteArray × Tv × Int)) (n : Nat), cs = [.slice a l.length c] ∧ l.length ≤ 9223372036854775807 ∧ LsG 8 ElC W n a l := by
  obtain ⟨a, cap, q, rows, hcs, hmax, hr⟩ := open_rows Try.underlying28 clQ71 (by decide) fuel _ _ h
  have inh : Inhabited ((Int × ByteArray × Tv × Int) × Nat) := ⟨(0, ⟨#[]⟩, zT, 0), 0⟩
  have each : ∀ i, i < rows.length → ∃ u : (Int × ByteArray × Tv × Int) × Nat, ∃ (r : List Value) (row : Array Value), rows[i]? = some r ∧ r = row.toList ∧ ElC (Is W u.2) row u.1 := fun i hi => by
    obtain ⟨_, _, y, hy⟩ := hr i _ (List.getElem?_eq_getElem hi)
    obtain ⟨e, n, row, g1, g2⟩ := open_cq _ _ _ hy
    exact ⟨(e, n), _, row, List.getElem?_eq_getElem hi, g1, g2⟩
  obtain ⟨F, hF⟩ := choose_lt each
  obtain ⟨N, hN⟩ := fuel_lt (n := rows.length) (q := fun i N => (F i).2 ≤ N) (fun _ _ _ h h' => Nat.le_trans h' h) (fun i _ => ⟨_, Nat.le_refl _⟩)
  have hl : ((List.range rows.length).map fun i => (F i).1).length = rows.length := by simp
  refine ⟨a, cap, (List.range rows.length).map fun i => (F i).1, N, by rw [hl]; exact hcs, by rw [hl]; exact hmax, fun i e he => ?_⟩
  have hi : i < rows.length := by have := (List.getElem?_eq_some_iff.1 he).1; simpa using this
  rw [List.getElem?_map, List.getElem?_range hi] at he
  cases he
  obtain ⟨r, row, hr1, rfl, hv⟩ := hF i hi
  obtain ⟨_, ⟨B, o, h2, h3⟩, _⟩ := hr i _ hr1
  exact ⟨B, o, row, h2, fun k c hk => h3 k c (by simpa using hk), elC.map hv (fun _ _ h => h.up (hN i hi))⟩
set_option maxRecDepth 100000 in
theorem open_aq {H : Type} {enc : TypeId × Value → H} {W : World} {base : Nat} {spare : Nat → Bool} {held : Bool} (fuel : Nat) (cs : List Value) (x : DataW H × List MemPlace) (h : DataW.trod enc Try.prog W base spare held fuel 73 cs = some x) :
    ∃ (e : Int × Tv) (n : Nat) (row : Array Value), cs = row.toList ∧ ElA (Is W n) row e := by
  obtain ⟨xs, q, hk, hxy, hlen, hxl, hf⟩ := DataW.trod_struct Try.underlying73 h
  rw [clQ73] at hlen
  obtain ⟨a0, a1, a2, a3, a4, a5, rfl⟩ := lsq6 hlen
  obtain ⟨y0, y1, rfl⟩ := lsq2 (l := xs) hxl
  have g0 := hf 0 _ rfl
  have g1 := hf 1 _ rfl
  clear hf hxl hlen hxy h
  simp only [List.getElem?_cons_zero, List.getElem?_cons_succ] at g0 g1
  obtain ⟨n0, p0, _, _⟩ := DataW.trod_int Try.underlying3 g0
  obtain ⟨v0, v1, v2, v3, v4, t1, m1, p1, i1⟩ := open_val q _ _ g1
  cases p0; cases p1
  obtain ⟨k', x', b', s', a', m', c', rfl, rfl, rfl, rfl, rfl⟩ := i1.shape
  exact ⟨(n0, t1), m1, #[.int .i64 n0, .int .i64 k', .int .i64 x', .int .u64 b', .string s', .slice a' m' c'], rfl, k', x', b', s', a', m', c', rfl, i1⟩
theorem open_aqs {H : Type} {enc : TypeId × Value → H} {W : World} {base : Nat} {spare : Nat → Bool} {held : Bool} (fuel : Nat) (cs : List Value) (x : DataW H × List MemPlace) (h : DataW.trod enc Try.prog W base spare held fuel 29 cs = some x) :
    ∃ (a : Option Addr) (c : Nat) (l : List (Int × Tv)) (n : Nat), cs = [.slice a l.length c] ∧ l.length ≤ 9223372036854775807 ∧ LsG 6 ElA W n a l := by
  obtain ⟨a, cap, q, rows, hcs, hmax, hr⟩ := open_rows Try.underlying29 clQ73 (by decide) fuel _ _ h
  have inh : Inhabited ((Int × Tv) × Nat) := ⟨(0, zT), 0⟩
  have each : ∀ i, i < rows.length → ∃ u : (Int × Tv) × Nat, ∃ (r : List Value) (row : Array Value), rows[i]? = some r ∧ r = row.toList ∧ ElA (Is W u.2) row u.1 := fun i hi => by
    obtain ⟨_, _, y, hy⟩ := hr i _ (List.getElem?_eq_getElem hi)
    obtain ⟨e, n, row, g1, g2⟩ := open_aq _ _ _ hy
    exact ⟨(e, n), _, row, List.getElem?_eq_getElem hi, g1, g2⟩
  obtain ⟨F, hF⟩ := choose_lt each
  obtain ⟨N, hN⟩ := fuel_lt (n := rows.length) (q := fun i N => (F i).2 ≤ N) (fun _ _ _ h h' => Nat.le_trans h' h) (fun i _ => ⟨_, Nat.le_refl _⟩)
  have hl : ((List.range rows.length).map fun i => (F i).1).length = rows.length := by simp
  refine ⟨a, cap, (List.range rows.length).map fun i => (F i).1, N, by rw [hl]; exact hcs, by rw [hl]; exact hmax, fun i e he => ?_⟩
  have hi : i < rows.length := by have := (List.getElem?_eq_some_iff.1 he).1; simpa using this
  rw [List.getElem?_map, List.getElem?_range hi] at he
  cases he
  obtain ⟨r, row, hr1, rfl, hv⟩ := hF i hi
  obtain ⟨_, ⟨B, o, h2, h3⟩, _⟩ := hr i _ hr1
  exact ⟨B, o, row, h2, fun k c hk => h3 k c (by simpa using hk), elA.map hv (fun _ _ h => h.up (hN i hi))⟩
theorem fitG {α : Type} {Sz : Nat} {El : (Value → Tv → Prop) → Array Value → α → Prop} {W : World} {n : Nat} {a : Option Addr} {ds : List α} (f : α → Tv) (hE : ∀ {I : Value → Tv → Prop} {r d}, El I r d → ∃ v, I v (f d)) (h : LsG Sz El W n a ds) : ∀ d ∈ ds, FitT n (f d) := fun d hd => by
  obtain ⟨i, hi⟩ := List.mem_iff_getElem?.1 hd
  obtain ⟨B, o, row, _, _, he⟩ := h i d hi
  obtain ⟨v, hv⟩ := hE he
  exact hv.fitT
set_option maxRecDepth 100000 in
theorem open_rq {H : Type} {enc : TypeId × Value → H} {W : World} {base : Nat} {spare : Nat → Bool} {held : Bool} (fuel : Nat) (cs : List Value) (x : DataW H × List MemPlace) (h : DataW.trod enc Try.prog W base spare held fuel 31 cs = some x) :
    ∃ (rk : Int) (tf tq tn : ByteArray) (vk vx vb : Int) (vs : ByteArray) (va : Option Addr) (vm vc : Nat) (tv : Tv) (ru nu wa pf : Int) (pc : Nat) (pm : Int) (ca : Option Addr) (cc : Nat) (aa : Option Addr) (ac : Nat) (cds : List (Int × ByteArray × Tv × Int)) (ads : List (Int × Tv)) (n : Nat), cs = [.int .i64 rk, .string tf, .string tq, .string tn, .int .i64 vk, .int .i64 vx, .int .u64 vb, .string vs, .slice va vm vc, .int .i64 ru, .int .i64 nu, .int .i64 wa, .int .i64 pf, .int .u64 (pc : Int), .int .i64 pm, .slice ca cds.length cc, .slice aa ads.length ac] ∧ 5 ≤ n ∧
      Is W n (.agg #[.int .i64 vk, .int .i64 vx, .int .u64 vb, .string vs, .slice va vm vc]) tv ∧ LsG 8 ElC W n ca cds ∧ LsG 6 ElA W n aa ads ∧ FitQ n ⟨rk, tf, tq, tn, tv, ru, nu, wa, pf, pc, pm, cds, ads⟩ ∧ cds.length ≤ 9223372036854775807 ∧ ads.length ≤ 9223372036854775807 := by
  obtain ⟨xs, q, hk, hxy, hlen, hxl, hf⟩ := DataW.trod_struct Try.underlying31 h
  rw [clQ31] at hlen
  obtain ⟨a0, a1, a2, a3, a4, a5, a6, a7, a8, a9, a10, a11, a12, a13, a14, a15, a16, rfl⟩ := lsq17 hlen
  obtain ⟨y0, y1, y2, y3, y4, y5, y6, y7, y8, y9, y10, rfl⟩ := lsq11 (l := xs) hxl
  have g0 := hf 0 _ rfl
  have g1 := hf 1 _ rfl
  have g2 := hf 2 _ rfl
  have g3 := hf 3 _ rfl
  have g4 := hf 4 _ rfl
  have g5 := hf 5 _ rfl
  have g6 := hf 6 _ rfl
  have g7 := hf 7 _ rfl
  have g8 := hf 8 _ rfl
  have g9 := hf 9 _ rfl
  have g10 := hf 10 _ rfl
  clear hf hxl hlen hxy h
  simp only [List.getElem?_cons_zero, List.getElem?_cons_succ] at g0 g1 g2 g3 g4 g5 g6 g7 g8 g9 g10
  obtain ⟨n0, p0, _, _⟩ := DataW.trod_int Try.underlying3 g0
  obtain ⟨n1, p1, _, _⟩ := DataW.trod_string Try.underlying9 g1
  obtain ⟨n2, p2, _, _⟩ := DataW.trod_string Try.underlying9 g2
  obtain ⟨n3, p3, _, _⟩ := DataW.trod_string Try.underlying9 g3
  obtain ⟨v0, v1, v2, v3, v4, t4, m4, p4, i4⟩ := open_val q _ _ g4
  obtain ⟨n5, p5, _, _⟩ := DataW.trod_int Try.underlying3 g5
  obtain ⟨n6, p6, _, _⟩ := DataW.trod_int Try.underlying3 g6
  obtain ⟨n7, p7, _, _⟩ := DataW.trod_int Try.underlying3 g7
  obtain ⟨pf, pc, pm, p8, hpc⟩ := open_pq _ _ _ g8
  obtain ⟨ca, cc, l, N9, p9, l9, h9⟩ := open_cqs _ _ _ g9
  obtain ⟨aa, ac, al, N10, p10, l10, h10⟩ := open_aqs _ _ _ g10
  cases p0; cases p1; cases p2; cases p3; cases p4; cases p5; cases p6; cases p7; cases p8; cases p9; cases p10
  obtain ⟨k', x', b', s', a', m', c', rfl, rfl, rfl, rfl, rfl⟩ := i4.shape
  have H1 := i4.up (m := m4 + N9 + N10 + 5) (by omega)
  have H2 := h9.up elC (m := m4 + N9 + N10 + 5) (by omega)
  have H3 := h10.up elA (m := m4 + N9 + N10 + 5) (by omega)
  refine ⟨n0, n1, n2, n3, k', x', b', s', a', m', c', t4, n5, n6, n7, pf, pc, pm, ca, cc, aa, ac, l, al, m4 + N9 + N10 + 5, rfl, by omega, H1, H2, H3, ⟨H1.fitT, by dsimp only; omega, ?_, ?_⟩, l9, l10⟩
  · exact fitG (fun d => d.2.2.1) (fun ⟨k, x, b, s, la, lm, lc, _, hi⟩ => ⟨_, hi⟩) H2
  · exact fitG (fun d => d.2) (fun ⟨k, x, b, s, la, lm, lc, _, hi⟩ => ⟨_, hi⟩) H3
theorem aggQ {v : Value} {k : Nat} (h : v.cells.size = k + 2) : v = .agg v.cells := by
  cases v with
  | agg cs => rfl
  | _ => simp [Value.cells] at h
end Go.Proofs.Ytjmonkhkcmcfiaa
