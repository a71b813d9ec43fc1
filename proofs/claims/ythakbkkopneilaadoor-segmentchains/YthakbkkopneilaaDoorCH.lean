/- The contract of Chain. -/
import Derived.Test.YthakbkkopneilaaDoorCG
import Derived.Test.YthakbkkopneilaaDoorBJ
namespace Go.Proofs.YthakbkkopneilaaDoor
open Go.ChangeShapes Go.WideShapes Go.ChangeAt Go.RowKit
theorem Zs.shape3 {B : Nat} {w : World} {v : Value} {zs : List Int} (h : Zs B w v zs) : ∃ a n c, v = .slice a n c := by obtain ⟨a, c, h⟩ := h.shape; exact ⟨_, _, _, h⟩
theorem Zs.one (w : World) (B : Nat) (hB : B ≤ w.heap.size) (y : Int) : Zs B (w.alloc (.cells #[.int .i64 y] 3)) (.slice (some ⟨w.heap.size, 0, none⟩) 1 1) [y] :=
  ⟨by simp, .inr ⟨w.heap.size, 1, _, rfl, hB, heap_last w _, Nat.le_refl _, by unfold maxLen; omega, rfl, rfl⟩⟩
set_option maxHeartbeats 1000000 in
set_option maxRecDepth 100000 in
theorem chain_calls (v : Value) (l : List Sg) (w : World) (hv : Sr w v l) (hl : l.length ≤ 1000) (hf : ∀ (i : Nat) s, l[i]? = some s → SgF s) :
    Calls Tryd.prog 19 #[v] w fun e w' => ∃ u, e = .returned u ∧ Ir w' u (chain l) ∧ Below w.heap.size w w' := by
  have BC : Hid (Calls Tryd.prog 38 #[v] w _) := base_calls v l w hv (by omega)
  have HF : Hid (∀ (i : Nat) s, l[i]? = some s → SgF s) := hf
  obtain ⟨a, c, rfl, h⟩ := hv
  have HV : Hid (∀ (i : Nat) t, l[i]? = some t → ∃ B o, a = some ⟨B, o, none⟩ ∧ SgAt w B (o + i * 7) t) := h
  have HL : Hid (l.length ≤ 1000) := hl
  have hlb : (l.length : Int) ≤ 1000 := by omega
  clear h hl hf
  cases hbs : bs l l.length with
  | none =>
    rw [hbs] at BC
    have HC : Hid (chain l = []) := by show _ = _; unfold chain; rw [hbs]
    clear hbs
    go_enter Tryd.func19, Tryd.ntmps19
    go_wp2_with fail
    go_step3
    go_wp2_with fail
    refine BC.out.mono ?_
    rintro e w1 ⟨rfl, hb1⟩
    have B1 : Hid (Below w.heap.size w w1) := hb1
    clear hb1
    go_wp2_with fail
    rw [Exit.noGoto_ret]
    go_ret
    exact ⟨_, rfl, by rw [HC.out]; exact ⟨none, 0, rfl, fun i z h => by simp at h⟩, B1.out⟩
  | some b0 =>
    rw [hbs] at BC
    have hb0 := (bs_lt l _ b0 hbs).2
    obtain ⟨s0, hs0⟩ : ∃ s, l[b0]? = some s := ⟨_, List.getElem?_eq_getElem hb0⟩
    have HC : Hid (chain l = chL l b0) := by show _ = _; unfold chain; rw [hbs]
    have HS0 : Hid (l[b0]? = some s0) := hs0
    clear hbs hs0 hb0
    go_enter Tryd.func19, Tryd.ntmps19
    go_wp2_with fail
    go_step3
    go_wp2_with fail
    refine BC.out.mono ?_
    rintro e w1 ⟨rfl, hb1⟩
    have B1 : Hid (Below w.heap.size w w1) := hb1
    clear hb1 BC
    simp only [Option.getD_some, Option.isSome_some]
    go_wp2_with fail
    go_step3
    go_wp2_with fail
    go_loopw [3, 5] (fun la ch wr => ∃ (i : Nat) (acc : List Int) (s : Sg), la = .int .i64 (i : Int) ∧ Hid (l[i]? = some s) ∧ Hid (Zs w.heap.size wr ch (acc ++ [(i : Int)])) ∧ Hid (acc ++ chL l i = chL l b0) ∧ Hid (acc.length + 1 + cnt l s.n ≤ l.length) ∧ Hid (Below w.heap.size w wr)) (fun la _ _ => cnt l (numA l (intOf la).toNat))
    case atStart => exact ⟨b0, [], s0, rfl, HS0, Zs.one _ _ B1.out.size _, rfl, (by show _ ≤ _; have := cnt_at l HS0.out; simp; omega), B1.out.alloc B1.out.size _⟩
    case round =>
      obtain ⟨i, acc, s, rfl, HI, HZ, HE, HN, HB⟩ := hrel
      obtain ⟨ca, cn, cc, rfl⟩ := HZ.out.shape3
      have hil : i < l.length := (List.getElem?_eq_some_iff.1 HI.out).1
      go_wp2_with fail
      go_loopw [3, 5, 18] (fun la ch q wq => ∃ j : Nat, j ≤ l.length ∧ la = .int .i64 (i : Int) ∧ ch = .slice ca cn cc ∧ q = .int .i64 (j : Int) ∧ Hid (nxF (go s) l 0 = nxF (go s) (l.drop j) j) ∧ Hid (Below wr.heap.size wr wq)) (fun _ _ q _ => l.length - (intOf q).toNat)
      case atStart => exact ⟨0, Nat.zero_le _, rfl, rfl, rfl, rfl, Below.refl _ _⟩
      case round =>
        obtain ⟨j, hj, rfl, rfl, rfl, HX, HQ⟩ := hrel
        have BQ : Hid (Below w.heap.size w wr) := HB.out.trans (HQ.out.mono HB.out.size)
        by_cases hlt : j < l.length
        · have hjl : (j : Int) < (l.length : Int) := by omega
          have hilI : (i : Int) < (l.length : Int) := by omega
          obtain ⟨t, ht⟩ : ∃ t, l[j]? = some t := ⟨_, List.getElem?_eq_getElem hlt⟩
          obtain ⟨B, o, rfl, hat⟩ := HV.out j t ht
          obtain ⟨B', o', e', hat'⟩ := HV.out i s HI.out
          injection e' with e'
          injection e' with e1 e2 _
          subst e1 e2
          obtain ⟨d0, d1, d2, _, _⟩ := hat.below BQ.out
          obtain ⟨c0, c1, _, ⟨ra, rc, c4⟩, c6⟩ := hat'.below BQ.out
          have fs := HF.out i s HI.out
          have FC : Hid (Calls Tryd.prog 39 #[.pointer (some ⟨B, o + i * 7, none⟩), .pointer (some ⟨B, o + j * 7, none⟩)] wr.drew fun e w' => e = .returned (.bool (go s t)) ∧ Below wr.drew.heap.size wr.drew w') := follows_calls B (o + i * 7) B (o + j * 7) s.n s.f ra s.rn rc s.tn t.n t.f t.hs wr.drew c0 c1 c4 c6 d0 d1 d2 fs.1.1 fs.1.2.1 fs.1.2.2 fs.2.1 fs.2.2
          have HN1 := nxF_at (P := go s) ht
          have HT : Hid (l[j]? = some t) := ht
          clear c0 c1 c4 c6 d1 d2 fs hat hat' ht
          obtain ⟨r, hr⟩ : ∃ r, r = go s t := ⟨_, rfl⟩
          rw [← hr] at FC HN1
          have HR : Hid (r = go s t) := hr
          have HN2 : Hid (nxF (go s) (l.drop j) j = _) := HN1
          clear hr HN1
          go_wp2_with fail
          go_region_held3 (fun w' => w'.cell? ⟨B, o + j * 7, none⟩ = some (.int .i64 t.n)) (go_keep) ((go_at_call 39; refine FC.out.mono ?_; rintro e w2 ⟨rfl, hb2⟩; have B2 : Hid (Below wr.heap.size wr w2) := (Below.refl _ wr).drew.trans hb2; have d3 := cell_below d0 B2.out; clear hb2))
          cases r with
          | false =>
            have HX2 : Hid (nxF (go s) l 0 = nxF (go s) (l.drop (j + 1)) (j + 1)) := by show _ = _; rw [HX.out, HN2.out]; simp
            go_wp2_with fail
            refine ⟨⟨j + 1, hlt, rfl, rfl, by rw [Int.natCast_add]; rfl, HX2, below_step HQ.out B2.out⟩, ?_⟩
            simp only [intOf]
            omega
          | true =>
            have HX2 : Hid (nxF (go s) l 0 = some j) := by show _ = _; rw [HX.out, HN2.out]; simp
            have hcl := cnt_lt l (z := s.n) HT.out (by rw [go_next (s := s) HR.out.symm]; omega)
            have hlen : acc.length ≤ 1000 := by have := HN.out; have := HL.out; omega
            have B3 := below_step HQ.out B2.out
            have B4 : Below w.heap.size w w2 := HB.out.trans (B3.mono HB.out.size)
            obtain ⟨v3, w3, hr3, z3, k3, b3⟩ := iapp_run (src := w2.heap.size) (y := (j : Int)) (W := w2.alloc (Obj.cells #[Value.int IntKind.i64 (j : Int)] 3)) ((HZ.out.below B3).below (below_alloc w2 _)) (cell_of_row _ _ 0 _ 3 (0, 0) (heap_last w2 _)) (Nat.le_trans B4.size (below_alloc w2 _).size) (by simp; omega)
            have Z3 : Hid (Zs w.heap.size w3 v3 ((acc ++ [(i : Int)]) ++ [(j : Int)])) := z3
            have B5 : Hid (Below w.heap.size w w3) := (B4.alloc B4.size _).trans b3
            have HE2 : Hid ((acc ++ [(i : Int)]) ++ chL l j = chL l b0) := by show _ = _; rw [← HE.out, chL_some HI.out HX2.out]; simp
            have HN3 : Hid ((acc ++ [(i : Int)]).length + 1 + cnt l t.n ≤ l.length) := by show _ ≤ _; have := HN.out; simp; omega
            have HM : Hid (cnt l (numA l j) < cnt l (numA l i)) := by show _ < _; unfold numA; rw [HT.out, HI.out]; exact hcl
            clear hcl hlen B3 B4 z3 k3 b3
            go_wp2_with (at_builtin; refine Lib.wpList_append_run _ rfl _ _ 37 37 rfl _ _ rfl rfl _ _ (hr3 _) ?_)
            exact ⟨⟨j, acc ++ [(i : Int)], t, rfl, HT, Z3, HE2, HN3, B5⟩, by simpa [intOf] using HM.out⟩
        · obtain rfl : j = l.length := by omega
          have HX2 : Hid (nxF (go s) l 0 = none) := by show _ = _; rw [HX.out, List.drop_length]; rfl
          have HE2 : Hid (acc ++ [(i : Int)] = chL l b0) := by show _ = _; rw [← HE.out, chL_none HI.out HX2.out]
          go_wp2_with fail
          rw [Exit.noGoto_ret]
          go_ret
          refine ⟨_, rfl, ?_, BQ.out⟩
          rw [HC.out, ← HE2.out]
          exact (HZ.out.below HQ.out).ir
end Go.Proofs.YthakbkkopneilaaDoor
