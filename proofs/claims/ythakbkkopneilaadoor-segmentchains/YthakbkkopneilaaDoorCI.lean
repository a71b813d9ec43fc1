/- The contract of the reference's Chain. -/
import Derived.Test.YthakbkkopneilaaDoorCH
namespace Go.Proofs.YthakbkkopneilaaDoor
open Go.ChangeShapes Go.WideShapes Go.ChangeAt Go.RowKit
/-- How far the chain may still go from a place on. -/
def mR (l : List Sg) : Value → Nat
  | .int _ z => if z < 0 then 0 else cnt l (numA l z.toNat) + 1
  | _ => 0
theorem mR_at {l : List Sg} {i : Nat} {s : Sg} (h : l[i]? = some s) : mR l (.int .i64 (i : Int)) = cnt l s.n + 1 := by
  have h0 : ¬ ((i : Int) < 0) := by omega
  show (if (i : Int) < 0 then 0 else cnt l (numA l (i : Int).toNat) + 1) = _
  rw [if_neg h0, Int.toNat_natCast]
  unfold numA
  rw [h]
theorem mR_no (l : List Sg) : mR l (.int .i64 (-1)) = 0 := by
  show (if (-1 : Int) < 0 then 0 else cnt l (numA l (-1 : Int).toNat) + 1) = 0
  rw [if_pos (by decide)]
set_option maxHeartbeats 1000000 in
set_option maxRecDepth 100000 in
theorem rchain_calls (v : Value) (l : List Sg) (w : World) (hv : SrA w v l) (hl : l.length ≤ 1000) (hf : ∀ (i : Nat) s, l[i]? = some s → SgF s) :
    Calls Tryd.prog 20 #[v] w fun e w' => ∃ u, e = .returned u ∧ Ir w' u (chain l) ∧ Below w.heap.size w w' := by
  have BC : Hid (Calls Tryd.prog 40 #[v] w _) := rbase_calls v l w hv.sr (by omega)
  have HF : Hid (∀ (i : Nat) s, l[i]? = some s → SgF s) := hf
  have HA : Hid (SrA w v l) := hv
  obtain ⟨a, c, rfl, h⟩ := hv
  have HV : Hid (∀ (i : Nat) t, l[i]? = some t → ∃ B o, a = some ⟨B, o, none⟩ ∧ SgAll w B (o + i * 7) t) := h
  have HL : Hid (l.length ≤ 1000) := hl
  have hlb : (l.length : Int) ≤ 1000 := by omega
  have HO : Hid (∀ p, bs l l.length = some p → p < l.length) := fun p h => (bs_lt l _ p h).2
  have HC : Hid (chain l = match bs l l.length with | none => [] | some b => chL l b) := rfl
  clear h hl hf
  generalize bs l l.length = p0 at BC HO HC
  go_enter Tryd.func20, Tryd.ntmps20
  go_wp2_with fail
  refine BC.out.mono ?_
  rintro e w1 ⟨rfl, hb1⟩
  have B1 : Hid (Below w.heap.size w w1) := hb1
  clear hb1 BC
  go_wp2_with fail
  go_loopw [3, 4] (fun ch at' wr => ∃ (acc : List Int) (p : Option Nat), at' = .int .i64 (rb p) ∧ Hid (∀ i, p = some i → ∃ s, l[i]? = some s ∧ acc.length + 1 + cnt l s.n ≤ l.length) ∧ Hid (Zs w.heap.size wr ch acc) ∧ Hid (chain l = acc ++ match p with | none => [] | some b => chL l b) ∧ Hid (Below w.heap.size w wr)) (fun _ at' _ => mR l at')
  case atStart =>
    refine ⟨[], p0, rfl, ?_, Zs.nil _ _, HC, B1⟩
    intro i hi
    obtain ⟨s, hs⟩ : ∃ s, l[i]? = some s := ⟨_, List.getElem?_eq_getElem (HO.out i hi)⟩
    exact ⟨s, hs, by have := cnt_at l hs; simp; omega⟩
  case round =>
    obtain ⟨acc, p, rfl, HP, HZ, HE, HB⟩ := hrel
    obtain ⟨ca, cn, cc, rfl⟩ := HZ.out.shape3
    cases p with
    | none =>
      rw [rb_none]
      have HE2 : Hid (chain l = acc) := by show _ = _; rw [HE.out]; simp
      go_wp2_with fail
      go_ret
      refine ⟨_, rfl, ?_, HB.out⟩
      rw [HE2.out]
      exact HZ.out.ir
    | some i =>
      obtain ⟨s, hs, hn⟩ := HP.out i rfl
      rw [rb_some]
      have hil : (i : Int) < (l.length : Int) := by have := (List.getElem?_eq_some_iff.1 hs).1; omega
      obtain ⟨v3, w3, hr3, z3, k3, b3⟩ := iapp_run (src := wr.heap.size) (y := (i : Int)) (W := wr.alloc (Obj.cells #[Value.int IntKind.i64 (i : Int)] 3)) (HZ.out.below (below_alloc wr _)) (cell_of_row _ _ 0 _ 3 (0, 0) (heap_last wr _)) (Nat.le_trans HB.out.size (below_alloc wr _).size) (by have := HL.out; omega)
      have B3 : Hid (Below w.heap.size w w3) := (HB.out.alloc HB.out.size _).trans b3
      obtain ⟨B, o, rfl, ⟨⟨c0, c1, c2, ⟨ra, rc, c4⟩, c6⟩, ⟨xa, xn, xc, c3⟩, ⟨z, c5⟩⟩⟩ := HV.out i s hs
      have e0 := cell_below c0 B3.out
      have e1 := cell_below c1 B3.out
      have e2 := cell_below c2 B3.out
      have e3 := cell_below c3 B3.out
      have e4 := cell_below c4 B3.out
      have e5 := cell_below c5 B3.out
      have e6 := cell_below c6 B3.out
      have fs := HF.out i s hs
      have NC : Hid (Calls Tryd.prog 41 #[.slice (some ⟨B, o, none⟩) l.length c, .agg #[.int .i64 s.n, .int .i64 s.f, .bool s.hs, .slice xa xn xc, .slice ra s.rn rc, .int .i64 z, .bool s.tn]] w3 _) := rnxt_calls _ _ ra rc z s l w3 (HA.out.sr.below B3.out) (by have := HL.out; omega) fs.1.1 fs.1.2.1 fs.1.2.2 fs.2.1 fs.2.2 xa xn xc rfl
      have Z3 : Hid (Zs w.heap.size w3 v3 (acc ++ [(i : Int)])) := z3
      have HS : Hid (l[i]? = some s) := hs
      have HN : Hid (acc.length + 1 + cnt l s.n ≤ l.length) := hn
      clear c0 c1 c2 c3 c4 c5 c6 fs z3 k3 b3 hs hn
      go_wp2_with (at_builtin; refine Lib.wpList_append_run _ rfl _ _ 37 37 rfl _ _ rfl rfl _ _ (hr3 _) ?_)
      refine NC.out.mono ?_
      rintro e w4 ⟨rfl, hb4⟩
      have B4 : Hid (Below w.heap.size w w4) := B3.out.trans (hb4.mono B3.out.size)
      have Z4 : Hid (Zs w.heap.size w4 v3 (acc ++ [(i : Int)])) := Z3.out.below hb4
      clear hb4 e0 e1 e2 e3 e4 e5 e6
      have mm : ∀ p, nxF (go s) l 0 = p → (∀ b, p = some b → ∃ t, l[b]? = some t ∧ (acc ++ [(i : Int)]).length + 1 + cnt l t.n ≤ l.length) ∧ (chain l = (acc ++ [(i : Int)]) ++ match p with | none => [] | some b => chL l b) ∧ mR l (.int .i64 (rb p)) < mR l (.int .i64 (i : Int)) := by
        intro p hp
        rw [mR_at HS.out]
        cases p with
        | none =>
          refine ⟨(fun b h => by cases h), ?_, (by rw [rb_none, mR_no]; omega)⟩
          rw [HE.out, chL_none HS.out hp]
          simp
        | some b =>
          obtain ⟨t, ht, hg⟩ := nxF_here hp
          have hcl := cnt_lt l (z := s.n) ht (by rw [go_next hg]; omega)
          refine ⟨fun b' h => ?_, ?_, ?_⟩
          · cases h
            exact ⟨t, ht, by have := HN.out; simp; omega⟩
          · rw [HE.out, chL_some HS.out hp]
            simp
          · rw [rb_some, mR_at ht]
            omega
      have MM := mm _ rfl
      have M1 : Hid _ := MM.1
      have M2 : Hid _ := MM.2.1
      have M3 : Hid _ := MM.2.2
      clear mm MM
      generalize nxF (go s) l 0 = p at M1 M2 M3 ⊢
      go_wp2_with fail
      exact ⟨⟨acc ++ [(i : Int)], p, rfl, M1, Z4, M2, B4⟩, M3.out⟩
end Go.Proofs.YthakbkkopneilaaDoor
