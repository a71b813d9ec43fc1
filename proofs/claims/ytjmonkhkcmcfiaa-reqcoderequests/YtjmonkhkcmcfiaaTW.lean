/- The walk of ReqcodeRequests over opaque rows; the contracts put in. -/
import Derived.Test.YtjmonkhkcmcfiaaTP
import Derived.Test.YtjmonkhkcmcfiaaTU
import Derived.Deep.MidRow
import Derived.Deep.WholeRow
import Derived.Test.YtjmonkhkcmcfiaaTT
import Derived.Test.YtjmonkhkcmcfiaaTD
import Derived.Test.YtjmonkhkcmcfiaaTV
namespace Go.Proofs.Ytjmonkhkcmcfiaa
open Go.ChangeShapes Go.WideShapes Go.ChangeAt Go.RowKit
theorem range_row {w : World} {g t : Nat} {cs : Array Value} (h : w.heap[g]? = some (.cells cs t (0, 0))) : w.rangeAt g 0 cs.toList := fun j v hj => by
  rw [Nat.zero_add]
  exact (cell_of_row w g j cs t (0, 0) h).trans (by simpa using hj)
/-- A request, read, as a row. -/
def RowQ (W : World) (x : Rq) (row : Array Value) : Prop :=
  ∃ k vx b s la lm lc ca cc aa ac, row = #[.int .i64 x.rk, .string x.f, .string x.q, .string x.nm, .int .i64 k, .int .i64 vx, .int .u64 b, .string s, .slice la lm lc, .int .i64 x.ru, .int .i64 x.nu, .int .i64 x.wa, .int .i64 x.pf, .int .u64 (x.pc : Int), .int .i64 x.pm, .slice ca x.cds.length cc, .slice aa x.ads.length ac] ∧
    Is W 5 (.agg #[.int .i64 k, .int .i64 vx, .int .u64 b, .string s, .slice la lm lc]) x.t ∧ LsG 8 ElC W 5 ca x.cds ∧ LsG 6 ElA W 5 aa x.ads
theorem RowQ.below {W W' : World} {x : Rq} {row : Array Value} (h : RowQ W x row) (hb : Below W.heap.size W W') : RowQ W' x row := by
  obtain ⟨k, vx, b, s, la, lm, lc, ca, cc, aa, ac, rfl, h1, h2, h3⟩ := h
  exact ⟨k, vx, b, s, la, lm, lc, ca, cc, aa, ac, rfl, h1.below hb, h2.below elC hb, h3.below elA hb⟩
theorem RowQ.size {W : World} {x : Rq} {row : Array Value} (h : RowQ W x row) : row.size = 17 := by
  obtain ⟨k, vx, b, s, la, lm, lc, ca, cc, aa, ac, rfl, _⟩ := h
  rfl
theorem RowQ.one {W : World} {x : Rq} {row : Array Value} (h : RowQ W x row) : row.all (·.oneCell') = true := by
  obtain ⟨k, vx, b, s, la, lm, lc, ca, cc, aa, ac, rfl, _⟩ := h
  simp [Value.oneCell']
theorem OnP.row {w w' : World} {r : Rq × Int} {e : Ending} (h : OnP w r e w') : ∃ row, e = .returned (.tuple #[.agg row, .int .i64 r.2]) ∧ RowQ w' r.1 row ∧ Below w.heap.size w w' := by
  obtain ⟨k, vx, b, s, la, lm, lc, ca, cc, aa, ac, he, h1, h2, h3, hb⟩ := h
  exact ⟨_, he, ⟨k, vx, b, s, la, lm, lc, ca, cc, aa, ac, rfl, h1.is, h2.g elC, h3.g elA⟩, hb⟩
theorem wpList_load_rowH {P : Program} {ops : Array Oper} {rest : List Oper} {o : Oper} {a : Act} {w : World} {Q : Exit → Act → World → Prop} (hw : Region.wanted o (yielded ops a.tmps) = true) (ty : TypeId) (x : Operand) (ho : o.op = .load ty x)
    (g : Nat) (hx : a.eval x = .pointer (some ⟨g, 0, none⟩)) (t : TypeId) (cs : Array Value) (fr : Nat × Nat) (d : TypeDesc) (hg : w.heap[g]? = some (.cells cs t fr))
    (hu : P.underlying ty = some d) (hd : (match d with | .struct _ | .array _ _ => true | _ => false) = true) (hi : (P.info? ty).map (·.size) = some cs.size)
    (h : wpList P ops Q rest (a.put o.dst (.agg cs)) w) : wpList P ops Q (o :: rest) a w :=
  wpList_step fun _ hK => by rw [if_pos hw]; exact wp_load_row ty x ho g hx t cs fr d hg hu hd hi (hK _ _ h)
set_option maxHeartbeats 8000000 in
set_option maxRecDepth 100000 in
theorem requests_walk (L1 L2 : Array Value) (bp : Option Addr) (bn bc : Nat) (w : World) (h1 : L1.size = 17) (h2 : L2.size = 17) (P : Prop) (QR : Except Int (List UInt8)) (RB : Rq × Int)
    (FW1 : ∀ W, Calls Try.prog 5 #[.agg L1, .agg #[.int .i64 0, .int .i64 0, .int .i64 0, .int .i64 0, .int .i64 0, .int .u64 0, .string ⟨#[]⟩, .slice none 0 0, .int .i64 0, .int .i64 0, .int .i64 0, .int .i64 0, .int .i64 0, .int .i64 0, .int .i64 0, .string ⟨#[]⟩, .int .i64 0, .int .i64 0, .int .u64 0, .string ⟨#[]⟩, .slice none 0 0, .int .i64 0, .int .u64 0, .int .i64 0, .int .i64 0, .int .i64 0, .int .i64 0, .int .i64 0, .int .i64 0, .bool false, .bool false, .slice none 0 0, .slice none 0 0, .int .i64 0, .int .i64 0, .int .u64 0, .string ⟨#[]⟩, .slice none 0 0, .string ⟨#[]⟩, .slice none 0 0, .slice none 0 0, .slice none 0 0]] W fun e w' => (∃ r : Bool, e = .returned (.bool r)) ∧ Below W.heap.size W w')
    (FW2 : ∀ W, Calls Try.prog 5 #[.agg L2, .agg #[.int .i64 0, .int .i64 0, .int .i64 0, .int .i64 0, .int .i64 0, .int .u64 0, .string ⟨#[]⟩, .slice none 0 0, .int .i64 0, .int .i64 0, .int .i64 0, .int .i64 0, .int .i64 0, .int .i64 0, .int .i64 0, .string ⟨#[]⟩, .int .i64 0, .int .i64 0, .int .u64 0, .string ⟨#[]⟩, .slice none 0 0, .int .i64 0, .int .u64 0, .int .i64 0, .int .i64 0, .int .i64 0, .int .i64 0, .int .i64 0, .int .i64 0, .bool false, .bool false, .slice none 0 0, .slice none 0 0, .int .i64 0, .int .i64 0, .int .u64 0, .string ⟨#[]⟩, .slice none 0 0, .string ⟨#[]⟩, .slice none 0 0, .slice none 0 0, .slice none 0 0]] W fun e w' => (∃ r : Bool, e = .returned (.bool r)) ∧ Below W.heap.size W w')
    (RQ : ∀ W, Below w.heap.size w W → Calls Try.prog 7 #[.agg L1] W (CxP W QR))
    (RR : ∀ W, Below w.heap.size w W → Calls Try.prog 8 #[.agg L1] W (CyP W QR))
    (RD : ∀ W, Below w.heap.size w W → Calls Try.prog 9 #[.slice bp bn bc] W (OnP W RB))
    (RE : ∀ W, Below w.heap.size w W → Calls Try.prog 10 #[.slice bp bn bc] W (OnP W RB))
    (SR : ∀ W r3 r4, RowQ W RB.1 r3 → RowQ W RB.1 r4 → Calls Try.prog 12 #[.agg r3, .agg r4] W (SmP W True))
    (SA : ∀ W, Below w.heap.size w W → Calls Try.prog 13 #[.agg L1, .agg L2] W (SmP W P))
    (SB : ∀ W, Below w.heap.size w W → Calls Try.prog 12 #[.agg L1, .agg L2] W (SmP W P))
    (SC : ∀ W, Below w.heap.size w W → Calls Try.prog 13 #[.agg L1, .agg L1] W (SmP W True)) :
    Calls Try.prog 3 #[.agg L1, .agg L2, .slice bp bn bc] w fun e w' => e = .returned (.bool true) ∧ Below w.heap.size w w' := by
  have i31 : ∀ L : Array Value, L.size = 17 → (Try.prog.info? 31).map (·.size) = some L.size := fun L h => by rw [h]; exact infoR31
  have j31 : ∀ L : Array Value, L.size = 17 → (Try.prog.info? 31).map (·.size) = some L.toList.length := fun L h => by rw [Array.length_toList, h]; exact infoR31
  have HI1 := i31 L1 h1
  have HI2 := i31 L2 h2
  have HJ1 := j31 L1 h1
  have HJ2 := j31 L2 h2
  have HFW1 : Hid (∀ W, _) := FW1
  have HFW2 : Hid (∀ W, _) := FW2
  have HRQ : Hid (∀ W, _) := RQ
  have HRR : Hid (∀ W, _) := RR
  have HRD : Hid (∀ W, _) := RD
  have HRE : Hid (∀ W, _) := RE
  have HSR : Hid (∀ W r3 r4, _) := SR
  have HSA : Hid (∀ W, _) := SA
  have HSB : Hid (∀ W, _) := SB
  have HSC : Hid (∀ W, _) := SC
  have H31 : Hid (∀ L : Array Value, L.size = 17 → (Try.prog.info? 31).map (·.size) = some L.size) := i31
  have K31 : Hid (∀ L : Array Value, L.size = 17 → (Try.prog.info? 31).map (·.size) = some L.toList.length) := j31
  obtain ⟨W0, hW0⟩ : ∃ W0, W0 = (w.alloc (.cells L1 31)).alloc (.cells L2 31) := ⟨_, rfl⟩
  have HW0 : Hid (W0 = _) := hW0
  have TB : W0.heap[w.heap.size]? = some (.cells L1 31 (0, 0)) ∧ W0.heap[w.heap.size + 1]? = some (.cells L2 31 (0, 0)) ∧ Below w.heap.size w W0 := by rw [hW0]; exact two_boxes (Below.refl _ _)
  obtain ⟨r1, r2, b0⟩ := TB
  have R1 : Hid (W0.heap[w.heap.size]? = some (.cells L1 31 (0, 0))) := r1
  have R2 : Hid (W0.heap[w.heap.size + 1]? = some (.cells L2 31 (0, 0))) := r2
  have B0 : Hid (Below w.heap.size w W0) := b0
  have Z0 : Hid (w.heap.size + 1 < W0.heap.size) := (Array.getElem?_eq_some_iff.1 r2).1
  clear FW1 FW2 RQ RR RD RE SR SA SB SC i31 j31 h1 h2 hW0 b0 r1 r2
  go_enter Try.func3, Try.ntmps3
  go_upto_region 1 with fail
  rw [← HW0.out]
  have r1 := R1.out
  go_wp2_with (refine wpList_load_row rfl 31 _ rfl w.heap.size rfl 31 _ (0, 0) _ r1 Try.underlying31 rfl HI1 ?_)
  clear r1
  refine (HFW1.out _).mono ?_
  rintro e w1 ⟨⟨bb, rfl⟩, hb1⟩
  have Bw : Hid (Below W0.heap.size W0 w1) := hb1
  have B1 : Hid (Below w.heap.size w w1) := bel2 B0.out hb1
  clear hb1
  cases bb with
  | false =>
    go_wp2_with fail
    refine (awake_calls _).mono ?_
    rintro e w2 ⟨rfl, hb2⟩
    have B2 : Hid (Below w.heap.size w w2) := bel2 B1.out hb2
    clear hb2
    go_wp2_with fail
    go_ret
    exact ⟨rfl, B2.out⟩
  | true =>
    have r2 : w1.heap[w.heap.size + 1]? = some (.cells L2 31 (0, 0)) := (Bw.out.block _ Z0.out).trans R2.out
    go_wp2_with (refine wpList_load_rowH rfl 31 _ rfl (w.heap.size + 1) rfl 31 _ (0, 0) _ r2 Try.underlying31 rfl HI2 ?_)
    clear r2
    refine (HFW2.out _).mono ?_
    rintro e w2 ⟨⟨bb, rfl⟩, hb2⟩
    have Bx : Hid (Below W0.heap.size W0 w2) := bel2 Bw.out hb2
    have B2 : Hid (Below w.heap.size w w2) := bel2 B1.out hb2
    clear hb2
    cases bb with
    | false =>
      go_wp2_with fail
      refine (awake_calls _).mono ?_
      rintro e w3 ⟨rfl, hb3⟩
      have B3 : Hid (Below w.heap.size w w3) := bel2 B2.out hb3
      clear hb3
      go_wp2_with fail
      go_ret
      exact ⟨rfl, B3.out⟩
    | true =>
      have r1 : w2.heap[w.heap.size]? = some (.cells L1 31 (0, 0)) := (Bx.out.block _ (by have := Z0.out; omega)).trans R1.out
      go_wp2_with (refine wpList_load_row rfl 31 _ rfl w.heap.size rfl 31 _ (0, 0) _ r1 Try.underlying31 rfl HI1 ?_)
      clear r1
      refine (HRQ.out _ B2.out).mono ?_
      intro e w3 hcx
      have HCX : Hid (CxP w2 QR e w3) := hcx
      obtain ⟨v3, c3, he3, hb3, hm3⟩ : ∃ v3 c3, e = .returned (.tuple #[v3, .int .i64 c3]) ∧ Below w2.heap.size w2 w3 ∧ ((∃ m, QR = .ok m ∧ c3 = 0 ∧ Lib.HoldsBytes w3 v3 m) ∨ (QR = .error c3 ∧ v3 = .slice none 0 0)) := by
        cases QR with
        | error c => obtain ⟨hb, he⟩ := hcx; exact ⟨_, _, he, hb, .inr ⟨rfl, rfl⟩⟩
        | ok m => obtain ⟨hb, v, he, ho⟩ := hcx; exact ⟨_, _, he, hb, .inl ⟨m, rfl, rfl, own_holds ho⟩⟩
      subst he3
      have B3 : Hid (Below w.heap.size w w3) := bel2 B2.out hb3
      have By : Hid (Below W0.heap.size W0 w3) := bel2 Bx.out hb3
      have HM3 : Hid ((∃ m, QR = .ok m ∧ c3 = 0 ∧ Lib.HoldsBytes w3 v3 m) ∨ (QR = .error c3 ∧ v3 = .slice none 0 0)) := hm3
      clear hcx hb3 hm3 HCX
      have r1 : w3.heap[w.heap.size]? = some (.cells L1 31 (0, 0)) := (By.out.block _ (by have := Z0.out; omega)).trans R1.out
      go_wp2_with (refine wpList_load_row rfl 31 _ rfl w.heap.size rfl 31 _ (0, 0) _ r1 Try.underlying31 rfl HI1 ?_)
      clear r1
      refine (HRR.out _ B3.out).mono ?_
      intro e w4 hcy
      obtain ⟨v4, c4, he4, hb4, hm4⟩ : ∃ v4 c4, e = .returned (.tuple #[v4, .int .i64 c4]) ∧ Below w3.heap.size w3 w4 ∧ ((∃ m, QR = .ok m ∧ c4 = 0 ∧ Lib.HoldsBytes w4 v4 m) ∨ (QR = .error c4 ∧ v4 = .slice none 0 0)) := by
        cases QR with
        | error c => obtain ⟨hb, he⟩ := hcy; exact ⟨_, _, he, hb, .inr ⟨rfl, rfl⟩⟩
        | ok m => obtain ⟨hb, v, he, ho⟩ := hcy; exact ⟨_, _, he, hb, .inl ⟨m, rfl, rfl, ho⟩⟩
      subst he4
      have B4 : Hid (Below w.heap.size w w4) := bel2 B3.out hb4
      have Bz : Hid (Below W0.heap.size W0 w4) := bel2 By.out hb4
      obtain ⟨m, hv3, hv4, hc⟩ : ∃ m, Lib.HoldsBytes w4 v3 m ∧ Lib.HoldsBytes w4 v4 m ∧ c3 = c4 := by
        rcases HM3.out with ⟨m, hq, hz, hh⟩ | ⟨hq, hz⟩
        · rcases hm4 with ⟨m2, hq2, hz2, hh2⟩ | ⟨hq2, hz2⟩
          · rw [hq] at hq2; cases hq2; exact ⟨m, holds_below hh hb4, hh2, by rw [hz, hz2]⟩
          · rw [hq] at hq2; cases hq2
        · rcases hm4 with ⟨m2, hq2, hz2, hh2⟩ | ⟨hq2, hz2⟩
          · rw [hq] at hq2; cases hq2
          · rw [hq] at hq2; cases hq2; rw [hz, hz2]; exact ⟨[], holds_nil _, holds_nil _, rfl⟩
      subst hc
      have HV3 : Hid (Lib.HoldsBytes w4 v3 m) := hv3
      have HV4 : Hid (Lib.HoldsBytes w4 v4 m) := hv4
      clear hb4 hm4 hcy hv3 hv4 HM3
      go_wp2_with fail
      refine (HRD.out _ B4.out).mono ?_
      intro e w5 hon
      obtain ⟨L3, he5, hr5, hb5⟩ := hon.row
      subst he5
      obtain ⟨X5, hX5⟩ : ∃ X, X = w5.alloc (.cells L3 31) := ⟨_, rfl⟩
      obtain ⟨q5, hq5⟩ : ∃ q, q = w5.heap.size := ⟨_, rfl⟩
      have HX5 : Hid (X5 = _) := hX5
      have HQ5 : Hid (q5 = w5.heap.size) := hq5
      have bX5 : Below w5.heap.size w5 X5 := by rw [hX5]; exact bel1 _ _
      have R3 : Hid (X5.heap[q5]? = some (.cells L3 31 (0, 0))) := by rw [hX5, hq5]; exact heap_alloc_new w5 _
      have RQ3 : Hid (RowQ X5 RB.1 L3) := hr5.below bX5
      have B5 : Hid (Below w.heap.size w X5) := bel2 (bel2 B4.out hb5) bX5
      have B45 : Hid (Below w4.heap.size w4 X5) := bel2 hb5 bX5
      have HI3 := H31.out L3 hr5.size
      have HJ3 := K31.out L3 hr5.size
      have A3 : Hid (L3.all (·.oneCell') = true) := hr5.one
      have HS3 : Hid (L3.size = 17) := hr5.size
      clear hon hr5 hb5 hX5 hq5 bX5
      have hz : (w5.alloc (.cells #[.int .i64 0, .string ⟨#[]⟩, .string ⟨#[]⟩, .string ⟨#[]⟩, .int .i64 0, .int .i64 0, .int .u64 0, .string ⟨#[]⟩, .slice none 0 0, .int .i64 0, .int .i64 0, .int .i64 0, .int .i64 0, .int .u64 0, .int .i64 0, .slice none 0 0, .slice none 0 0] 31)).heap[w5.heap.size]? = some (.cells #[.int .i64 0, .string ⟨#[]⟩, .string ⟨#[]⟩, .string ⟨#[]⟩, .int .i64 0, .int .i64 0, .int .u64 0, .string ⟨#[]⟩, .slice none 0 0, .int .i64 0, .int .i64 0, .int .i64 0, .int .i64 0, .int .u64 0, .int .i64 0, .slice none 0 0, .slice none 0 0] 31 (0, 0)) := heap_alloc_new w5 _
      go_wp2_with (refine wpList_store_row rfl 31 _ _ rfl w5.heap.size _ rfl rfl 31 _ hz HI3 (by rw [HS3.out]; rfl) A3.out ?_)
      clear hz
      rw [World.setRow_alloc_new, ← HX5.out, ← HQ5.out]
      refine (HRE.out _ B5.out).mono ?_
      intro e w6 hon
      obtain ⟨L4, he6, hr6, hb6⟩ := hon.row
      subst he6
      obtain ⟨X6, hX6⟩ : ∃ X, X = w6.alloc (.cells L4 31) := ⟨_, rfl⟩
      obtain ⟨q6, hq6⟩ : ∃ q, q = w6.heap.size := ⟨_, rfl⟩
      have HX6 : Hid (X6 = _) := hX6
      have HQ6 : Hid (q6 = w6.heap.size) := hq6
      have bX6 : Below w6.heap.size w6 X6 := by rw [hX6]; exact bel1 _ _
      have R4 : Hid (X6.heap[q6]? = some (.cells L4 31 (0, 0))) := by rw [hX6, hq6]; exact heap_alloc_new w6 _
      have RQ4 : Hid (RowQ X6 RB.1 L4) := hr6.below bX6
      have b56 : Below X5.heap.size X5 X6 := bel2 hb6 bX6
      have B56 : Hid (Below X5.heap.size X5 X6) := b56
      have B6 : Hid (Below w.heap.size w X6) := bel2 B5.out b56
      have B46 : Hid (Below w4.heap.size w4 X6) := bel2 B45.out b56
      have HI4 := H31.out L4 hr6.size
      have HJ4 := K31.out L4 hr6.size
      have A4 : Hid (L4.all (·.oneCell') = true) := hr6.one
      have HS4 : Hid (L4.size = 17) := hr6.size
      have Bv : Hid (Below W0.heap.size W0 X6) := bel2 Bz.out B46.out
      have HST : Hid (∀ W, Below X6.heap.size X6 W → W.rangeAt w.heap.size 0 L1.toList ∧ W.rangeAt (w.heap.size + 1) 0 L2.toList ∧ W.rangeAt q5 0 L3.toList ∧ W.rangeAt q6 0 L4.toList) := fun W hW =>
        ⟨range_row (((bel2 Bv.out hW).block _ (by have := Z0.out; omega)).trans R1.out), range_row (((bel2 Bv.out hW).block _ Z0.out).trans R2.out),
         range_row (((bel2 b56 hW).block _ (Array.getElem?_eq_some_iff.1 R3.out).1).trans R3.out), range_row ((hW.block _ (Array.getElem?_eq_some_iff.1 R4.out).1).trans R4.out)⟩
      have KE : Hid (∀ W, Below X6.heap.size X6 W → Calls Try.prog 11 #[v3, v4] W fun e w' => e = .returned (.bool true) ∧ w' = W) := fun W hW => by
        refine (equal_calls _ _ m m _ (holds_below HV3.out (bel2 B46.out hW)) (holds_below HV4.out (bel2 B46.out hW))).mono ?_
        rintro e w' ⟨rfl, rfl⟩
        exact ⟨by simp, rfl⟩
      have KR : Hid (∀ W, Below X6.heap.size X6 W → Calls Try.prog 12 #[.agg L3, .agg L4] W (SmP W True)) := fun W hW => HSR.out W _ _ (RQ3.out.below (bel2 b56 hW)) (RQ4.out.below hW)
      have hz : (w6.alloc (.cells #[.int .i64 0, .string ⟨#[]⟩, .string ⟨#[]⟩, .string ⟨#[]⟩, .int .i64 0, .int .i64 0, .int .u64 0, .string ⟨#[]⟩, .slice none 0 0, .int .i64 0, .int .i64 0, .int .i64 0, .int .i64 0, .int .u64 0, .int .i64 0, .slice none 0 0, .slice none 0 0] 31)).heap[w6.heap.size]? = some (.cells #[.int .i64 0, .string ⟨#[]⟩, .string ⟨#[]⟩, .string ⟨#[]⟩, .int .i64 0, .int .i64 0, .int .u64 0, .string ⟨#[]⟩, .slice none 0 0, .int .i64 0, .int .i64 0, .int .i64 0, .int .i64 0, .int .u64 0, .int .i64 0, .slice none 0 0, .slice none 0 0] 31 (0, 0)) := heap_alloc_new w6 _
      go_wp2_with (refine wpList_store_row rfl 31 _ _ rfl w6.heap.size _ rfl rfl 31 _ hz HI4 (by rw [HS4.out]; rfl) A4.out ?_)
      clear hz
      rw [World.setRow_alloc_new, ← HX6.out, ← HQ6.out]
      clear hon hr6 hb6 hX6 hq6 bX6 b56 HSR HV3 HV4 RQ3 RQ4 HQ5 HX5 HQ6 HX6 A3 A4 HS3 HS4 R3 R4
      refine wp_region_held_drew (S := (fun w' => w'.rangeAt w.heap.size 0 L1.toList ∧ w'.rangeAt (w.heap.size + 1) 0 L2.toList ∧ w'.rangeAt q5 0 L3.toList ∧ w'.rangeAt q6 0 L4.toList)) (by kernel_rfl) (HST.out _ (Below.refl _ _).drew) (fun hHeld => ?_)
      change wpAnyH _ _ _ _ _ _ _ _ (World.drew _)
      refine wpAnyH_take (i := 0) (oi := { dst := some 46, op := Go.Op.move (Go.Operand.tmp 7), type := 32, pos := "law.go:32", after := #[], guard := none }) (v := ?_) rfl (by kernel_rfl) (by kernel_rfl) (by kernel_rfl) (fun _ _ _ h => h) (Or.inl ⟨by rfl, ?_⟩) hHeld ?_
      rotate_left 1
      · (intro w hSw; (try dsimp only at hSw); go_simp <;> with_reducible rfl)
      simp only [Act.put, List.setIfInBounds_toArray, List.set_cons_zero, List.set_cons_succ]
      refine wpAnyH_take (i := 1) (oi := { dst := some 47, op := Go.Op.move (Go.Operand.tmp 9), type := 32, pos := "law.go:32", after := #[], guard := none }) (v := ?_) rfl (by kernel_rfl) (by kernel_rfl) (by kernel_rfl) (fun _ _ _ h => h) (Or.inl ⟨by rfl, ?_⟩) hHeld ?_
      rotate_left 1
      · (intro w hSw; (try dsimp only at hSw); go_simp <;> with_reducible rfl)
      simp only [Act.put, List.setIfInBounds_toArray, List.set_cons_zero, List.set_cons_succ]
      refine wpAnyH_ready (rs := [2]) (by kernel_rfl) (by simp) ?_
      refine AllReadyH.cons (o := { dst := some 48, op := Go.Op.call { callee := Go.Callee.value (Go.Operand.func 11), args := #[Go.Operand.tmp 46, Go.Operand.tmp 47], argTypes := #[32, 32] }, type := 4, pos := "law.go:32", after := #[{ on := 0, ground := Go.Ground.data }, { on := 1, ground := Go.Ground.data }], guard := none }) rfl (fun K hK => ?_) AllReadyH.nil
      go_simp
      refine (KE.out _ (Below.refl _ _).drew).mono ?_
      rintro e w7 ⟨rfl, rfl⟩
      have ZB1 : Hid (Below X6.heap.size X6 _) := (Below.refl _ X6).drew
      clear hHeld
      refine hK.out _ _ (HST.out _ ZB1.out) (fun hHeld => ?_)
      clear hK K
      refine wpAnyH_take (i := 3) (oi := { dst := some 49, op := Go.Op.move (Go.Operand.tmp 48), type := 4, pos := "law.go:32", after := #[{ on := 2, ground := Go.Ground.data }, { on := 2, ground := Go.Ground.chain }], guard := none }) (v := ?_) rfl (by kernel_rfl) (by kernel_rfl) (by kernel_rfl) (fun _ _ _ h => h) (Or.inl ⟨by rfl, ?_⟩) hHeld ?_
      rotate_left 1
      · (intro w hSw; (try dsimp only at hSw); go_simp <;> with_reducible rfl)
      simp only [Act.put, List.setIfInBounds_toArray, List.set_cons_zero, List.set_cons_succ]
      refine wpAnyH_take (i := 4) (oi := { dst := some 50, op := Go.Op.move (Go.Operand.tmp 8), type := 34, pos := "law.go:32", after := #[{ on := 3, ground := Go.Ground.guard }], guard := some (3, true) }) (v := ?_) rfl (by kernel_rfl) (by kernel_rfl) (by kernel_rfl) (fun _ _ _ h => h) (Or.inl ⟨by rfl, ?_⟩) hHeld ?_
      rotate_left 1
      · (intro w hSw; (try dsimp only at hSw); go_simp <;> with_reducible rfl)
      simp only [Act.put, List.setIfInBounds_toArray, List.set_cons_zero, List.set_cons_succ]
      refine wpAnyH_take (i := 5) (oi := { dst := some 51, op := Go.Op.move (Go.Operand.tmp 10), type := 34, pos := "law.go:32", after := #[{ on := 3, ground := Go.Ground.guard }], guard := some (3, true) }) (v := ?_) rfl (by kernel_rfl) (by kernel_rfl) (by kernel_rfl) (fun _ _ _ h => h) (Or.inl ⟨by rfl, ?_⟩) hHeld ?_
      rotate_left 1
      · (intro w hSw; (try dsimp only at hSw); go_simp <;> with_reducible rfl)
      simp only [Act.put, List.setIfInBounds_toArray, List.set_cons_zero, List.set_cons_succ]
      refine wpAnyH_take (i := 6) (oi := { dst := some 52, op := Go.Op.binOp Go.BinOp.eql 34 (Go.Operand.tmp 50) (Go.Operand.tmp 51) 34, type := 4, pos := "law.go:32", after := #[{ on := 4, ground := Go.Ground.data }, { on := 5, ground := Go.Ground.data }, { on := 3, ground := Go.Ground.guard }], guard := some (3, true) }) (v := ?_) rfl (by kernel_rfl) (by kernel_rfl) (by kernel_rfl) (fun _ _ _ h => h) (Or.inl ⟨by rfl, ?_⟩) hHeld ?_
      rotate_left 1
      · (intro w hSw; (try dsimp only at hSw); go_simp <;> with_reducible rfl)
      simp only [Act.put, List.setIfInBounds_toArray, List.set_cons_zero, List.set_cons_succ]
      refine wpAnyH_take (i := 7) (oi := { dst := some 53, op := Go.Op.pick (Go.Operand.tmp 49) (Go.Operand.tmp 52) (Go.Operand.const (Go.Value.bool false)), type := 4, pos := "law.go:32", after := #[{ on := 3, ground := Go.Ground.data }, { on := 6, ground := Go.Ground.data }], guard := none }) (v := ?_) rfl (by kernel_rfl) (by kernel_rfl) (by kernel_rfl) (fun _ _ _ h => h) (Or.inl ⟨by rfl, ?_⟩) hHeld ?_
      rotate_left 1
      · (intro w hSw; (try dsimp only at hSw); go_simp <;> with_reducible rfl)
      simp only [Act.put, List.setIfInBounds_toArray, List.set_cons_zero, List.set_cons_succ]
      refine wpAnyH_take (i := 8) (oi := { dst := some 54, op := Go.Op.move (Go.Operand.tmp 53), type := 4, pos := "law.go:32", after := #[{ on := 7, ground := Go.Ground.data }, { on := 3, ground := Go.Ground.chain }], guard := none }) (v := ?_) rfl (by kernel_rfl) (by kernel_rfl) (by kernel_rfl) (fun _ _ _ h => h) (Or.inl ⟨by rfl, ?_⟩) hHeld ?_
      rotate_left 1
      · (intro w hSw; (try dsimp only at hSw); go_simp <;> with_reducible rfl)
      simp only [Act.put, List.setIfInBounds_toArray, List.set_cons_zero, List.set_cons_succ]
      refine wpAnyH_take (i := 9) (oi := { dst := some 55, op := Go.Op.load 31 (Go.Operand.tmp 11), type := 31, pos := "law.go:32", after := #[{ on := 8, ground := Go.Ground.guard }], guard := some (8, true) }) (v := _) rfl (by kernel_rfl) (by kernel_rfl) (by kernel_rfl) (fun _ _ _ h => h) (yieldsIf_load_mid (by rfl) 31 _ rfl (q5) 0 rfl L3.toList _ (fun w h => h.2.2.1) Try.underlying31 rfl HJ3) hHeld ?_
      simp only [Act.put, List.setIfInBounds_toArray, List.set_cons_zero, List.set_cons_succ]
      refine wpAnyH_take (i := 10) (oi := { dst := some 56, op := Go.Op.load 31 (Go.Operand.tmp 13), type := 31, pos := "law.go:32", after := #[{ on := 8, ground := Go.Ground.guard }], guard := some (8, true) }) (v := _) rfl (by kernel_rfl) (by kernel_rfl) (by kernel_rfl) (fun _ _ _ h => h) (yieldsIf_load_mid (by rfl) 31 _ rfl (q6) 0 rfl L4.toList _ (fun w h => h.2.2.2) Try.underlying31 rfl HJ4) hHeld ?_
      simp only [Act.put, List.setIfInBounds_toArray, List.set_cons_zero, List.set_cons_succ]
      refine wpAnyH_ready (rs := [11]) (by kernel_rfl) (by simp) ?_
      refine AllReadyH.cons (o := { dst := some 57, op := Go.Op.call { callee := Go.Callee.value (Go.Operand.func 12), args := #[Go.Operand.tmp 55, Go.Operand.tmp 56], argTypes := #[31, 31] }, type := 4, pos := "law.go:32", after := #[{ on := 9, ground := Go.Ground.data }, { on := 10, ground := Go.Ground.data }, { on := 8, ground := Go.Ground.chain }, { on := 8, ground := Go.Ground.guard }], guard := some (8, true) }) rfl (fun K hK => ?_) AllReadyH.nil
      go_simp
      refine (KR.out _ ZB1.out).mono ?_
      rintro e w8 ⟨⟨r1, rfl, hr1⟩, hb⟩
      have ZB2 : Hid (Below X6.heap.size X6 w8) := bel2 ZB1.out hb
      obtain rfl : r1 = true := hr1.2 trivial
      clear hb hr1
      clear hHeld
      refine hK.out _ _ (HST.out _ ZB2.out) (fun hHeld => ?_)
      clear hK K
      refine wpAnyH_take (i := 12) (oi := { dst := some 58, op := Go.Op.pick (Go.Operand.tmp 54) (Go.Operand.tmp 57) (Go.Operand.const (Go.Value.bool false)), type := 4, pos := "law.go:32", after := #[{ on := 8, ground := Go.Ground.data }, { on := 11, ground := Go.Ground.data }], guard := none }) (v := ?_) rfl (by kernel_rfl) (by kernel_rfl) (by kernel_rfl) (fun _ _ _ h => h) (Or.inl ⟨by rfl, ?_⟩) hHeld ?_
      rotate_left 1
      · (intro w hSw; (try dsimp only at hSw); go_simp <;> with_reducible rfl)
      simp only [Act.put, List.setIfInBounds_toArray, List.set_cons_zero, List.set_cons_succ]
      refine wpAnyH_take (i := 13) (oi := { dst := some 59, op := Go.Op.move (Go.Operand.tmp 58), type := 4, pos := "law.go:32", after := #[{ on := 12, ground := Go.Ground.data }, { on := 11, ground := Go.Ground.chain }], guard := none }) (v := ?_) rfl (by kernel_rfl) (by kernel_rfl) (by kernel_rfl) (fun _ _ _ h => h) (Or.inl ⟨by rfl, ?_⟩) hHeld ?_
      rotate_left 1
      · (intro w hSw; (try dsimp only at hSw); go_simp <;> with_reducible rfl)
      simp only [Act.put, List.setIfInBounds_toArray, List.set_cons_zero, List.set_cons_succ]
      refine wpAnyH_take (i := 14) (oi := { dst := some 60, op := Go.Op.move (Go.Operand.tmp 12), type := 34, pos := "law.go:32", after := #[{ on := 13, ground := Go.Ground.guard }], guard := some (13, true) }) (v := ?_) rfl (by kernel_rfl) (by kernel_rfl) (by kernel_rfl) (fun _ _ _ h => h) (Or.inl ⟨by rfl, ?_⟩) hHeld ?_
      rotate_left 1
      · (intro w hSw; (try dsimp only at hSw); go_simp <;> with_reducible rfl)
      simp only [Act.put, List.setIfInBounds_toArray, List.set_cons_zero, List.set_cons_succ]
      refine wpAnyH_take (i := 15) (oi := { dst := some 61, op := Go.Op.move (Go.Operand.tmp 14), type := 34, pos := "law.go:32", after := #[{ on := 13, ground := Go.Ground.guard }], guard := some (13, true) }) (v := ?_) rfl (by kernel_rfl) (by kernel_rfl) (by kernel_rfl) (fun _ _ _ h => h) (Or.inl ⟨by rfl, ?_⟩) hHeld ?_
      rotate_left 1
      · (intro w hSw; (try dsimp only at hSw); go_simp <;> with_reducible rfl)
      simp only [Act.put, List.setIfInBounds_toArray, List.set_cons_zero, List.set_cons_succ]
      refine wpAnyH_take (i := 16) (oi := { dst := some 62, op := Go.Op.binOp Go.BinOp.eql 34 (Go.Operand.tmp 60) (Go.Operand.tmp 61) 34, type := 4, pos := "law.go:32", after := #[{ on := 14, ground := Go.Ground.data }, { on := 15, ground := Go.Ground.data }, { on := 13, ground := Go.Ground.guard }], guard := some (13, true) }) (v := ?_) rfl (by kernel_rfl) (by kernel_rfl) (by kernel_rfl) (fun _ _ _ h => h) (Or.inl ⟨by rfl, ?_⟩) hHeld ?_
      rotate_left 1
      · (intro w hSw; (try dsimp only at hSw); go_simp <;> with_reducible rfl)
      simp only [Act.put, List.setIfInBounds_toArray, List.set_cons_zero, List.set_cons_succ]
      refine wpAnyH_take (i := 17) (oi := { dst := some 63, op := Go.Op.pick (Go.Operand.tmp 59) (Go.Operand.tmp 62) (Go.Operand.const (Go.Value.bool false)), type := 4, pos := "law.go:32", after := #[{ on := 13, ground := Go.Ground.data }, { on := 16, ground := Go.Ground.data }], guard := none }) (v := ?_) rfl (by kernel_rfl) (by kernel_rfl) (by kernel_rfl) (fun _ _ _ h => h) (Or.inl ⟨by rfl, ?_⟩) hHeld ?_
      rotate_left 1
      · (intro w hSw; (try dsimp only at hSw); go_simp <;> with_reducible rfl)
      simp only [Act.put, List.setIfInBounds_toArray, List.set_cons_zero, List.set_cons_succ]
      refine wpAnyH_take (i := 18) (oi := { dst := some 64, op := Go.Op.move (Go.Operand.tmp 63), type := 4, pos := "law.go:32", after := #[{ on := 17, ground := Go.Ground.data }, { on := 13, ground := Go.Ground.chain }], guard := none }) (v := ?_) rfl (by kernel_rfl) (by kernel_rfl) (by kernel_rfl) (fun _ _ _ h => h) (Or.inl ⟨by rfl, ?_⟩) hHeld ?_
      rotate_left 1
      · (intro w hSw; (try dsimp only at hSw); go_simp <;> with_reducible rfl)
      simp only [Act.put, List.setIfInBounds_toArray, List.set_cons_zero, List.set_cons_succ]
      refine wpAnyH_take (i := 19) (oi := { dst := some 65, op := Go.Op.load 31 (Go.Operand.tmp 3), type := 31, pos := "law.go:32", after := #[{ on := 18, ground := Go.Ground.guard }], guard := some (18, true) }) (v := _) rfl (by kernel_rfl) (by kernel_rfl) (by kernel_rfl) (fun _ _ _ h => h) (yieldsIf_load_mid (by rfl) 31 _ rfl (w.heap.size) 0 rfl L1.toList _ (fun w h => h.1) Try.underlying31 rfl HJ1) hHeld ?_
      simp only [Act.put, List.setIfInBounds_toArray, List.set_cons_zero, List.set_cons_succ]
      refine wpAnyH_take (i := 20) (oi := { dst := some 66, op := Go.Op.load 31 (Go.Operand.tmp 4), type := 31, pos := "law.go:32", after := #[{ on := 18, ground := Go.Ground.guard }], guard := some (18, true) }) (v := _) rfl (by kernel_rfl) (by kernel_rfl) (by kernel_rfl) (fun _ _ _ h => h) (yieldsIf_load_mid (by rfl) 31 _ rfl (w.heap.size + 1) 0 rfl L2.toList _ (fun w h => h.2.1) Try.underlying31 rfl HJ2) hHeld ?_
      simp only [Act.put, List.setIfInBounds_toArray, List.set_cons_zero, List.set_cons_succ]
      refine wpAnyH_take (i := 22) (oi := { dst := some 68, op := Go.Op.load 31 (Go.Operand.tmp 3), type := 31, pos := "law.go:32", after := #[{ on := 18, ground := Go.Ground.guard }], guard := some (18, true) }) (v := _) rfl (by kernel_rfl) (by kernel_rfl) (by kernel_rfl) (fun _ _ _ h => h) (yieldsIf_load_mid (by rfl) 31 _ rfl (w.heap.size) 0 rfl L1.toList _ (fun w h => h.1) Try.underlying31 rfl HJ1) hHeld ?_
      simp only [Act.put, List.setIfInBounds_toArray, List.set_cons_zero, List.set_cons_succ]
      refine wpAnyH_take (i := 23) (oi := { dst := some 69, op := Go.Op.load 31 (Go.Operand.tmp 4), type := 31, pos := "law.go:32", after := #[{ on := 18, ground := Go.Ground.guard }], guard := some (18, true) }) (v := _) rfl (by kernel_rfl) (by kernel_rfl) (by kernel_rfl) (fun _ _ _ h => h) (yieldsIf_load_mid (by rfl) 31 _ rfl (w.heap.size + 1) 0 rfl L2.toList _ (fun w h => h.2.1) Try.underlying31 rfl HJ2) hHeld ?_
      simp only [Act.put, List.setIfInBounds_toArray, List.set_cons_zero, List.set_cons_succ]
      refine wpAnyH_ready (rs := [21]) (by kernel_rfl) (by simp) ?_
      refine AllReadyH.cons (o := { dst := some 67, op := Go.Op.call { callee := Go.Callee.value (Go.Operand.func 13), args := #[Go.Operand.tmp 65, Go.Operand.tmp 66], argTypes := #[31, 31] }, type := 4, pos := "law.go:32", after := #[{ on := 19, ground := Go.Ground.data }, { on := 20, ground := Go.Ground.data }, { on := 18, ground := Go.Ground.chain }, { on := 18, ground := Go.Ground.guard }], guard := some (18, true) }) rfl (fun K hK => ?_) AllReadyH.nil
      go_simp
      refine (HSA.out _ (bel2 B6.out ZB2.out)).mono ?_
      rintro e w9 ⟨⟨r2, rfl, hr2⟩, hb⟩
      have ZB3 : Hid (Below X6.heap.size X6 w9) := bel2 ZB2.out hb
      have HR2 : Hid (r2 = true ↔ P) := hr2
      clear hb hr2
      clear hHeld
      refine hK.out _ _ (HST.out _ ZB3.out) (fun hHeld => ?_)
      clear hK K
      refine wpAnyH_ready (rs := [24]) (by kernel_rfl) (by simp) ?_
      refine AllReadyH.cons (o := { dst := some 70, op := Go.Op.call { callee := Go.Callee.value (Go.Operand.func 12), args := #[Go.Operand.tmp 68, Go.Operand.tmp 69], argTypes := #[31, 31] }, type := 4, pos := "law.go:32", after := #[{ on := 22, ground := Go.Ground.data }, { on := 23, ground := Go.Ground.data }, { on := 21, ground := Go.Ground.chain }, { on := 18, ground := Go.Ground.guard }], guard := some (18, true) }) rfl (fun K hK => ?_) AllReadyH.nil
      go_simp
      refine (HSB.out _ (bel2 B6.out ZB3.out)).mono ?_
      rintro e w10 ⟨⟨r3, rfl, hr3⟩, hb⟩
      have ZB4 : Hid (Below X6.heap.size X6 w10) := bel2 ZB3.out hb
      obtain rfl : r3 = r2 := Bool.eq_iff_iff.2 (hr3.trans HR2.out.symm)
      clear hb hr3
      clear hHeld
      refine hK.out _ _ (HST.out _ ZB4.out) (fun hHeld => ?_)
      clear hK K
      refine wpAnyH_take (i := 25) (oi := { dst := some 71, op := Go.Op.binOp Go.BinOp.eql 4 (Go.Operand.tmp 67) (Go.Operand.tmp 70) 4, type := 4, pos := "law.go:32", after := #[{ on := 21, ground := Go.Ground.data }, { on := 24, ground := Go.Ground.data }, { on := 18, ground := Go.Ground.guard }], guard := some (18, true) }) (v := ?_) rfl (by kernel_rfl) (by kernel_rfl) (by kernel_rfl) (fun _ _ _ h => h) (Or.inl ⟨by rfl, ?_⟩) hHeld ?_
      rotate_left 1
      · (intro w hSw; (try dsimp only at hSw); go_simp <;> with_reducible rfl)
      simp only [Act.put, List.setIfInBounds_toArray, List.set_cons_zero, List.set_cons_succ]
      refine wpAnyH_take (i := 26) (oi := { dst := some 72, op := Go.Op.pick (Go.Operand.tmp 64) (Go.Operand.tmp 71) (Go.Operand.const (Go.Value.bool false)), type := 4, pos := "law.go:32", after := #[{ on := 18, ground := Go.Ground.data }, { on := 25, ground := Go.Ground.data }], guard := none }) (v := ?_) rfl (by kernel_rfl) (by kernel_rfl) (by kernel_rfl) (fun _ _ _ h => h) (Or.inl ⟨by rfl, ?_⟩) hHeld ?_
      rotate_left 1
      · (intro w hSw; (try dsimp only at hSw); go_simp <;> with_reducible rfl)
      simp only [Act.put, List.setIfInBounds_toArray, List.set_cons_zero, List.set_cons_succ]
      refine wpAnyH_take (i := 27) (oi := { dst := some 73, op := Go.Op.move (Go.Operand.tmp 72), type := 4, pos := "law.go:32", after := #[{ on := 26, ground := Go.Ground.data }, { on := 24, ground := Go.Ground.chain }], guard := none }) (v := ?_) rfl (by kernel_rfl) (by kernel_rfl) (by kernel_rfl) (fun _ _ _ h => h) (Or.inl ⟨by rfl, ?_⟩) hHeld ?_
      rotate_left 1
      · (intro w hSw; (try dsimp only at hSw); go_simp <;> with_reducible rfl)
      simp only [Act.put, List.setIfInBounds_toArray, List.set_cons_zero, List.set_cons_succ]
      refine wpAnyH_take (i := 28) (oi := { dst := some 74, op := Go.Op.load 31 (Go.Operand.tmp 3), type := 31, pos := "law.go:32", after := #[{ on := 27, ground := Go.Ground.guard }], guard := some (27, true) }) (v := _) rfl (by kernel_rfl) (by kernel_rfl) (by kernel_rfl) (fun _ _ _ h => h) (yieldsIf_load_mid (by rfl) 31 _ rfl (w.heap.size) 0 rfl L1.toList _ (fun w h => h.1) Try.underlying31 rfl HJ1) hHeld ?_
      simp only [Act.put, List.setIfInBounds_toArray, List.set_cons_zero, List.set_cons_succ]
      refine wpAnyH_take (i := 29) (oi := { dst := some 75, op := Go.Op.load 31 (Go.Operand.tmp 3), type := 31, pos := "law.go:32", after := #[{ on := 27, ground := Go.Ground.guard }], guard := some (27, true) }) (v := _) rfl (by kernel_rfl) (by kernel_rfl) (by kernel_rfl) (fun _ _ _ h => h) (yieldsIf_load_mid (by rfl) 31 _ rfl (w.heap.size) 0 rfl L1.toList _ (fun w h => h.1) Try.underlying31 rfl HJ1) hHeld ?_
      simp only [Act.put, List.setIfInBounds_toArray, List.set_cons_zero, List.set_cons_succ]
      refine wpAnyH_ready (rs := [30]) (by kernel_rfl) (by simp) ?_
      refine AllReadyH.cons (o := { dst := some 76, op := Go.Op.call { callee := Go.Callee.value (Go.Operand.func 13), args := #[Go.Operand.tmp 74, Go.Operand.tmp 75], argTypes := #[31, 31] }, type := 4, pos := "law.go:32", after := #[{ on := 28, ground := Go.Ground.data }, { on := 29, ground := Go.Ground.data }, { on := 27, ground := Go.Ground.chain }, { on := 27, ground := Go.Ground.guard }], guard := some (27, true) }) rfl (fun K hK => ?_) AllReadyH.nil
      go_simp
      refine (HSC.out _ (bel2 B6.out ZB4.out)).mono ?_
      rintro e w11 ⟨⟨r4, rfl, hr4⟩, hb⟩
      have ZB5 : Hid (Below X6.heap.size X6 w11) := bel2 ZB4.out hb
      obtain rfl : r4 = true := hr4.2 trivial
      clear hb hr4
      clear hHeld
      refine hK.out _ _ (HST.out _ ZB5.out) (fun hHeld => ?_)
      clear hK K
      refine wpAnyH_take (i := 31) (oi := { dst := some 77, op := Go.Op.pick (Go.Operand.tmp 73) (Go.Operand.tmp 76) (Go.Operand.const (Go.Value.bool false)), type := 4, pos := "law.go:32", after := #[{ on := 27, ground := Go.Ground.data }, { on := 30, ground := Go.Ground.data }], guard := none }) (v := ?_) rfl (by kernel_rfl) (by kernel_rfl) (by kernel_rfl) (fun _ _ _ h => h) (Or.inl ⟨by rfl, ?_⟩) hHeld ?_
      rotate_left 1
      · (intro w hSw; (try dsimp only at hSw); go_simp <;> with_reducible rfl)
      simp only [Act.put, List.setIfInBounds_toArray, List.set_cons_zero, List.set_cons_succ]
      refine wpAnyH_take (i := 32) (oi := { dst := some 78, op := Go.Op.move (Go.Operand.tmp 77), type := 4, pos := "law.go:32", after := #[{ on := 31, ground := Go.Ground.data }, { on := 30, ground := Go.Ground.chain }], guard := none }) (v := ?_) rfl (by kernel_rfl) (by kernel_rfl) (by kernel_rfl) (fun _ _ _ h => h) (Or.inl ⟨by rfl, ?_⟩) hHeld ?_
      rotate_left 1
      · (intro w hSw; (try dsimp only at hSw); go_simp <;> with_reducible rfl)
      simp only [Act.put, List.setIfInBounds_toArray, List.set_cons_zero, List.set_cons_succ]
      refine wpAnyH_ready (rs := [33]) (by kernel_rfl) (by simp) ?_
      refine AllReadyH.cons (o := { dst := some 79, op := Go.Op.call { callee := Go.Callee.value (Go.Operand.func 6), args := #[], argTypes := #[] }, type := 4, pos := "law.go:32", after := #[{ on := 32, ground := Go.Ground.chain }, { on := 32, ground := Go.Ground.guard }], guard := some (32, true) }) rfl (fun K hK => ?_) AllReadyH.nil
      go_simp
      refine (awake_calls _).mono ?_
      rintro e w12 ⟨rfl, hb⟩
      have ZB6 : Hid (Below X6.heap.size X6 w12) := bel2 ZB5.out hb
      clear hb
      clear hHeld
      refine hK.out _ _ (HST.out _ ZB6.out) (fun hHeld => ?_)
      clear hK K
      refine wpAnyH_take (i := 34) (oi := { dst := some 80, op := Go.Op.pick (Go.Operand.tmp 78) (Go.Operand.tmp 79) (Go.Operand.const (Go.Value.bool false)), type := 4, pos := "law.go:32", after := #[{ on := 32, ground := Go.Ground.data }, { on := 33, ground := Go.Ground.data }], guard := none }) (v := ?_) rfl (by kernel_rfl) (by kernel_rfl) (by kernel_rfl) (fun _ _ _ h => h) (Or.inl ⟨by rfl, ?_⟩) hHeld ?_
      rotate_left 1
      · (intro w hSw; (try dsimp only at hSw); go_simp <;> with_reducible rfl)
      simp only [Act.put, List.setIfInBounds_toArray, List.set_cons_zero, List.set_cons_succ]
      refine wpAnyH_take (i := 35) (oi := { dst := some 6, op := Go.Op.assign (Go.Operand.tmp 80), type := 4, pos := "law.go:32", after := #[{ on := 34, ground := Go.Ground.data }, { on := 33, ground := Go.Ground.chain }, { on := 0, ground := Go.Ground.phase }, { on := 1, ground := Go.Ground.phase }, { on := 2, ground := Go.Ground.phase }, { on := 3, ground := Go.Ground.phase }, { on := 4, ground := Go.Ground.phase }, { on := 5, ground := Go.Ground.phase }, { on := 6, ground := Go.Ground.phase }, { on := 7, ground := Go.Ground.phase }, { on := 8, ground := Go.Ground.phase }, { on := 9, ground := Go.Ground.phase }, { on := 10, ground := Go.Ground.phase }, { on := 11, ground := Go.Ground.phase }, { on := 12, ground := Go.Ground.phase }, { on := 13, ground := Go.Ground.phase }, { on := 14, ground := Go.Ground.phase }, { on := 15, ground := Go.Ground.phase }, { on := 16, ground := Go.Ground.phase }, { on := 17, ground := Go.Ground.phase }, { on := 18, ground := Go.Ground.phase }, { on := 19, ground := Go.Ground.phase }, { on := 20, ground := Go.Ground.phase }, { on := 21, ground := Go.Ground.phase }, { on := 22, ground := Go.Ground.phase }, { on := 23, ground := Go.Ground.phase }, { on := 24, ground := Go.Ground.phase }, { on := 25, ground := Go.Ground.phase }, { on := 26, ground := Go.Ground.phase }, { on := 27, ground := Go.Ground.phase }, { on := 28, ground := Go.Ground.phase }, { on := 29, ground := Go.Ground.phase }, { on := 30, ground := Go.Ground.phase }, { on := 31, ground := Go.Ground.phase }, { on := 32, ground := Go.Ground.phase }, { on := 33, ground := Go.Ground.phase }, { on := 34, ground := Go.Ground.phase }], guard := none }) (v := ?_) rfl (by kernel_rfl) (by kernel_rfl) (by kernel_rfl) (fun _ _ _ h => h) (Or.inl ⟨by rfl, ?_⟩) hHeld ?_
      rotate_left 1
      · (intro w hSw; (try dsimp only at hSw); go_simp <;> with_reducible rfl)
      simp only [Act.put, List.setIfInBounds_toArray, List.set_cons_zero, List.set_cons_succ]
      refine wpAnyH_done (by kernel_rfl) ?_ _
      go_wp2_with fail
      go_ret
      exact ⟨rfl, bel2 B6.out ZB6.out⟩
end Go.Proofs.Ytjmonkhkcmcfiaa
namespace Go.Proofs.Ytjmonkhkcmcfiaa
open Go.ChangeShapes Go.WideShapes Go.ChangeAt Go.RowKit
theorem sNum_le (m : Int) (hm : 0 ≤ m) (l : List UInt8) (e : Int) : (sNum m l e).1 ≤ m := by
  by_cases h : (sNum m l e).2.2 = 0
  · by_cases he : e = 0
    · subst he
      exact (sNum_inv (l := l) (t := (sNum m l 0).2.1) (m := m) (k := (sNum m l 0).1) (Prod.ext rfl (Prod.ext rfl h))).2.1
    · rw [sNum_err he]; exact hm
  · rw [sNum_zero m l e h]; exact hm
theorem xs_le {α : Type} {f : List UInt8 → Int → α × List UInt8 × Int} : ∀ (n : Nat) (l : List UInt8) (e : Int), (rdXs f n l e).1.length ≤ n
  | 0, l, e => Nat.le_refl _
  | n + 1, l, e => by
    have h2 := xs_le (f := f) n (f l e).2.1 0
    unfold rdXs
    split
    · split
      · simpa using h2
      · simp
    · simp
theorem ls_le {α : Type} {f : List UInt8 → Int → α × List UInt8 × Int} (m : Int) (hm : 0 ≤ m) (l : List UInt8) (e : Int) : (rdLs f m l e).1.length ≤ m.toNat := by
  have h1 := xs_le (f := f) (sNum m l e).1.toNat (sNum m l e).2.1 (sNum m l e).2.2
  have h2 := sNum_le m hm l e
  unfold rdLs
  omega
theorem rq_le (l : List UInt8) (e : Int) : (rdRq l e).1.cds.length ≤ 12 ∧ (rdRq l e).1.ads.length ≤ 8 := ⟨ls_le 12 (by omega) _ _, ls_le 8 (by omega) _ _⟩
theorem rdQ_le (l : List UInt8) : (rdQ l).1.cds.length ≤ 12 ∧ (rdQ l).1.ads.length ≤ 8 := by
  unfold rdQ psQ
  split
  · split
    · exact rq_le l 0
    · exact ⟨Nat.zero_le _, Nat.zero_le _⟩
  · exact ⟨Nat.zero_le _, Nat.zero_le _⟩
theorem SmP.true_of {w w' : World} {p : Prop} {e : Ending} (h : SmP w p e w') (hp : p) : SmP w True e w' := by
  obtain ⟨⟨r, he, hr⟩, hb⟩ := h
  exact ⟨⟨r, he, fun _ => trivial, fun _ => hr.2 hp⟩, hb⟩
theorem rowq_same (x : Rq) (hc : x.cds.length ≤ 9223372036854775807) (ha : x.ads.length ≤ 9223372036854775807) (W : World) (r3 r4 : Array Value) (h3 : RowQ W x r3) (h4 : RowQ W x r4) : Calls Try.prog 12 #[.agg r3, .agg r4] W (SmP W True) := by
  obtain ⟨k1, x1, b1, s1, la1, lm1, lc1, ca1, cc1, aa1, ac1, rfl, v1, c1, a1⟩ := h3
  obtain ⟨k2, x2, b2, s2, la2, lm2, lc2, ca2, cc2, aa2, ac2, rfl, v2, c2, a2⟩ := h4
  exact (rsameR_calls 5 W x.rk x.f x.q x.nm k1 x1 b1 s1 la1 lm1 lc1 x.t x.ru x.nu x.wa x.pf x.pc x.pm ca1 cc1 aa1 ac1 x.cds x.ads x.rk x.f x.q x.nm k2 x2 b2 s2 la2 lm2 lc2 x.t x.ru x.nu x.wa x.pf x.pc x.pm ca2 cc2 aa2 ac2 x.cds x.ads v1 v2 c1 c2 a1 a2 hc ha).mono fun e w' h => h.true_of rfl
set_option maxRecDepth 100000 in
theorem requests_all (n : Nat) (w : World) (rk1 : Int) (f1 q1 nm1 : ByteArray) (k1 x1 b1 : Int) (s1 : ByteArray) (la1 : Option Addr) (lm1 lc1 : Nat) (t1 : Tv) (ru1 nu1 wa1 pf1 : Int) (pc1 : Nat) (pm1 : Int) (ca1 : Option Addr) (cc1 : Nat) (aa1 : Option Addr) (ac1 : Nat) (cds1 : List (Int × ByteArray × Tv × Int)) (ads1 : List (Int × Tv)) (rk2 : Int) (f2 q2 nm2 : ByteArray) (k2 x2 b2 : Int) (s2 : ByteArray) (la2 : Option Addr) (lm2 lc2 : Nat) (t2 : Tv) (ru2 nu2 wa2 pf2 : Int) (pc2 : Nat) (pm2 : Int) (ca2 : Option Addr) (cc2 : Nat) (aa2 : Option Addr) (ac2 : Nat) (cds2 : List (Int × ByteArray × Tv × Int)) (ads2 : List (Int × Tv)) (bp : Option Addr) (bc : Nat) (lb : List UInt8)
    (v1 : Is w n (.agg #[.int .i64 k1, .int .i64 x1, .int .u64 b1, .string s1, .slice la1 lm1 lc1]) t1) (c1 : LsG 8 ElC w n ca1 cds1) (a1 : LsG 6 ElA w n aa1 ads1) (p1 : pc1 < 18446744073709551616) (lcd1 : cds1.length ≤ 9223372036854775807) (lad1 : ads1.length ≤ 9223372036854775807)
    (v2 : Is w n (.agg #[.int .i64 k2, .int .i64 x2, .int .u64 b2, .string s2, .slice la2 lm2 lc2]) t2) (c2 : LsG 8 ElC w n ca2 cds2) (a2 : LsG 6 ElA w n aa2 ads2) (_p2 : pc2 < 18446744073709551616) (_lcd2 : cds2.length ≤ 9223372036854775807) (_lad2 : ads2.length ≤ 9223372036854775807)
    (hb : Lib.HoldsBytes w (.slice bp lb.length bc) lb) (hl : lb.length ≤ 140737488351232) :
    Calls Try.prog 3 #[.agg #[.int .i64 rk1, .string f1, .string q1, .string nm1, .int .i64 k1, .int .i64 x1, .int .u64 b1, .string s1, .slice la1 lm1 lc1, .int .i64 ru1, .int .i64 nu1, .int .i64 wa1, .int .i64 pf1, .int .u64 (pc1 : Int), .int .i64 pm1, .slice ca1 cds1.length cc1, .slice aa1 ads1.length ac1], .agg #[.int .i64 rk2, .string f2, .string q2, .string nm2, .int .i64 k2, .int .i64 x2, .int .u64 b2, .string s2, .slice la2 lm2 lc2, .int .i64 ru2, .int .i64 nu2, .int .i64 wa2, .int .i64 pf2, .int .u64 (pc2 : Int), .int .i64 pm2, .slice ca2 cds2.length cc2, .slice aa2 ads2.length ac2], .slice bp lb.length bc] w fun e w' => e = .returned (.bool true) ∧ Below w.heap.size w w' := by
  have hq := rdQ_le lb
  exact requests_walk #[.int .i64 rk1, .string f1, .string q1, .string nm1, .int .i64 k1, .int .i64 x1, .int .u64 b1, .string s1, .slice la1 lm1 lc1, .int .i64 ru1, .int .i64 nu1, .int .i64 wa1, .int .i64 pf1, .int .u64 (pc1 : Int), .int .i64 pm1, .slice ca1 cds1.length cc1, .slice aa1 ads1.length ac1] #[.int .i64 rk2, .string f2, .string q2, .string nm2, .int .i64 k2, .int .i64 x2, .int .u64 b2, .string s2, .slice la2 lm2 lc2, .int .i64 ru2, .int .i64 nu2, .int .i64 wa2, .int .i64 pf2, .int .u64 (pc2 : Int), .int .i64 pm2, .slice ca2 cds2.length cc2, .slice aa2 ads2.length ac2] bp lb.length bc w rfl rfl ((⟨rk1, f1, q1, nm1, t1, ru1, nu1, wa1, pf1, pc1, pm1, cds1, ads1⟩ : Rq) = (⟨rk2, f2, q2, nm2, t2, ru2, nu2, wa2, pf2, pc2, pm2, cds2, ads2⟩ : Rq)) (qR (rB n rk1 f1 q1 nm1 t1 ru1 nu1 wa1 pf1 pc1 pm1 cds1 ads1)) (rdQ lb)
    (fun W => few_calls rk1 f1 q1 nm1 k1 x1 b1 s1 la1 lm1 lc1 ru1 nu1 wa1 pf1 pc1 pm1 ca1 _ cc1 aa1 _ ac1 W) (fun W => few_calls rk2 f2 q2 nm2 k2 x2 b2 s2 la2 lm2 lc2 ru2 nu2 wa2 pf2 pc2 pm2 ca2 _ cc2 aa2 _ ac2 W)
    (fun W h => request_calls n rk1 f1 q1 nm1 k1 x1 b1 s1 la1 lm1 lc1 t1 ru1 nu1 wa1 pf1 pc1 pm1 ca1 _ cc1 aa1 _ ac1 cds1 ads1 W (v1.below h) rfl (c1.below elC h).lsC rfl (a1.below elA h).lsA)
    (fun W h => rreq_calls n rk1 f1 q1 nm1 k1 x1 b1 s1 la1 lm1 lc1 t1 ru1 nu1 wa1 pf1 pc1 pm1 ca1 cc1 aa1 ac1 cds1 ads1 W (v1.below h) (c1.below elC h) (a1.below elA h) p1)
    (fun W h => readrequest_calls W _ lb (holds_below hb h) (by omega)) (fun W h => rreadq_calls W _ lb (holds_below hb h) hl)
    (fun W r3 r4 h3 h4 => rowq_same _ (by omega) (by omega) W r3 r4 h3 h4)
    (fun W h => sameR_calls n W rk1 f1 q1 nm1 k1 x1 b1 s1 la1 lm1 lc1 t1 ru1 nu1 wa1 pf1 pc1 pm1 ca1 cc1 aa1 ac1 cds1 ads1 rk2 f2 q2 nm2 k2 x2 b2 s2 la2 lm2 lc2 t2 ru2 nu2 wa2 pf2 pc2 pm2 ca2 cc2 aa2 ac2 cds2 ads2 (v1.below h) (v2.below h) (c1.below elC h) (c2.below elC h) (a1.below elA h) (a2.below elA h) lcd1 lad1)
    (fun W h => rsameR_calls n W rk1 f1 q1 nm1 k1 x1 b1 s1 la1 lm1 lc1 t1 ru1 nu1 wa1 pf1 pc1 pm1 ca1 cc1 aa1 ac1 cds1 ads1 rk2 f2 q2 nm2 k2 x2 b2 s2 la2 lm2 lc2 t2 ru2 nu2 wa2 pf2 pc2 pm2 ca2 cc2 aa2 ac2 cds2 ads2 (v1.below h) (v2.below h) (c1.below elC h) (c2.below elC h) (a1.below elA h) (a2.below elA h) lcd1 lad1)
    (fun W h => (sameR_calls n W rk1 f1 q1 nm1 k1 x1 b1 s1 la1 lm1 lc1 t1 ru1 nu1 wa1 pf1 pc1 pm1 ca1 cc1 aa1 ac1 cds1 ads1 rk1 f1 q1 nm1 k1 x1 b1 s1 la1 lm1 lc1 t1 ru1 nu1 wa1 pf1 pc1 pm1 ca1 cc1 aa1 ac1 cds1 ads1 (v1.below h) (v1.below h) (c1.below elC h) (c1.below elC h) (a1.below elA h) (a1.below elA h) lcd1 lad1).mono fun e w' h => h.true_of rfl)
end Go.Proofs.Ytjmonkhkcmcfiaa
