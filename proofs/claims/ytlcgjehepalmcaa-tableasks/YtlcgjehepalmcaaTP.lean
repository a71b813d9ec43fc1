/- The contracts of the reference's Find and Clone. -/
import Derived.Test.YtlcgjehepalmcaaTN
import Derived.Test.YtlcgjehepalmcaaTL
namespace Go.Proofs.Ytlcgjehepalmcaa
open Go.ChangeShapes Go.WideShapes Go.ChangeAt Go.RowKit
/-- What the reference's Find answers. -/
def RfP (w : World) (o : Option Dn) (e : Ending) (w' : World) : Prop :=
  (∀ d, o = some d → ∃ p c, e = .returned (.tuple #[.agg #[.string d.s, .int .i64 d.k, .slice p d.y.length c, .int .i64 d.r], .bool true]) ∧ Lib.HoldsBytes w' (.slice p d.y.length c) d.y) ∧
  (o = none → e = .returned (.tuple #[.agg #[.string ⟨#[]⟩, .int .i64 0, .slice none 0 0, .int .i64 0], .bool false])) ∧ Below w.heap.size w w'
set_option maxHeartbeats 4000000 in
set_option maxRecDepth 100000 in
theorem rfind_calls (q0 : ByteArray) (ds : List Dn) (a : Option Addr) (n c : Nat) (hn : ds.length = n) (hs : n ≤ 1000) (hy : ∀ d ∈ ds, d.y.length ≤ 140737488355328) (w : World) (h : Tb w a ds) :
    Calls Try.prog 10 #[.slice a n c, .string q0] w (RfP w (fnd ds q0)) := by
  have HI : Hid (Tb w a ds) := h
  have HNn : Hid (ds.length = n) := hn
  have HS : Hid (n ≤ 1000) := hs
  have HY : Hid (∀ d ∈ ds, d.y.length ≤ 140737488355328) := hy
  have b0 : Hid (Below w.heap.size w (w.alloc (.cells #[.string ⟨#[]⟩, .int .i64 0, .slice none 0 0, .int .i64 0] 37))) := bel1 _ _
  have r1 : (w.alloc (.cells #[.string ⟨#[]⟩, .int .i64 0, .slice none 0 0, .int .i64 0] 37)).heap[w.heap.size]? = some (.cells #[.string ⟨#[]⟩, .int .i64 0, .slice none 0 0, .int .i64 0] 37 (0, 0)) := heap_alloc_last w _
  have HQ1 : Hid (∀ (j : Nat) (d : Dn) p c w', ds[j]? = some d → eqS d.s q0 = true → (∀ i d, i < j → ds[i]? = some d → eqS d.s q0 = false) → Lib.HoldsBytes w' (.slice p d.y.length c) d.y → Below w.heap.size w w' → RfP w (fnd ds q0) (.returned (.tuple #[.agg #[.string d.s, .int .i64 d.k, .slice p d.y.length c, .int .i64 d.r], .bool true])) w') := fun j d p c w' h1 h2 h3 h4 h5 => by
    rw [fnd_some h1 h2 h3]
    exact ⟨fun d' e => (by cases e; exact ⟨p, c, rfl, h4⟩), (fun e => by cases e), h5⟩
  have HQ2 : Hid (∀ w', (∀ d ∈ ds, eqS d.s q0 = false) → Below w.heap.size w w' → RfP w (fnd ds q0) (.returned (.tuple #[.agg #[.string ⟨#[]⟩, .int .i64 0, .slice none 0 0, .int .i64 0], .bool false])) w') := fun w' h1 h2 => by
    rw [fnd_none h1]
    exact ⟨(fun d e => by cases e), fun _ => rfl, h2⟩
  generalize RfP w (fnd ds q0) = Q at HQ1 HQ2 ⊢
  clear h hn hs hy
  go_enter Try.func10, Try.ntmps10
  go_upto_region 1 with fail
  change Code.wp _ _ _ _ (w.alloc (.cells #[.string ⟨#[]⟩, .int .i64 0, .slice none 0 0, .int .i64 0] 37))
  generalize w.alloc (.cells #[.string ⟨#[]⟩, .int .i64 0, .slice none 0 0, .int .i64 0] 37) = W0 at b0 r1 ⊢
  go_wp2_with fail
  go_loopw [6] (fun i wr => ∃ j : Nat, j ≤ n ∧ i = .int .i64 (j : Int) ∧ Hid (∀ i d, i < j → ds[i]? = some d → eqS d.s q0 = false) ∧ Hid (wr = W0)) (fun i _ => n - (intOf i).toNat)
  case atStart => exact ⟨0, Nat.zero_le _, rfl, fun q z hq => absurd hq (Nat.not_lt_zero _), rfl⟩
  case round =>
    obtain ⟨j, hj, rfl, HF, HE⟩ := hrel
    have HB : Hid (Below w.heap.size w wr) := by rw [HE.out]; exact b0
    have s1 : wr.heap[w.heap.size]? = some (.cells #[.string ⟨#[]⟩, .int .i64 0, .slice none 0 0, .int .i64 0] 37 (0, 0)) := by rw [HE.out]; exact r1
    by_cases hlt : j < n
    · obtain ⟨d, hd⟩ : ∃ d, ds[j]? = some d := ⟨_, List.getElem?_eq_getElem (by rw [HNn.out]; exact hlt)⟩
      obtain ⟨B, o, p, cc, rfl, ⟨e0, e1, e2, e3⟩, hh⟩ := (HI.out.below HB.out) j d hd
      have HW : Hid (wrap64 ((j : Int) + 1) = ((j + 1 : Nat) : Int)) := wr1 hlt (by have := HS.out; omega)
      have hjn : (j : Int) < (n : Int) := by omega
      have HZ : Hid (ds[j]? = some d) := hd
      cases hq : (d.s.toList == q0.toList) with
      | false =>
        have HF2 : Hid (∀ i d, i < j + 1 → ds[i]? = some d → eqS d.s q0 = false) := fun i z' hi hz' => by
          by_cases e : i = j
          · subst e; rw [HZ.out] at hz'; injection hz' with hz'; rw [← hz']; exact hq
          · exact HF.out i z' (by omega) hz'
        clear hd hh
        go_wp2_with fail
        exact ⟨⟨j + 1, hlt, by first | rw [HW.out] | exact congrArg _ (Int.natCast_succ j).symm, HF2, HE⟩, by first | exact meas hlt HW.out | exact meas hlt (Int.natCast_succ j).symm⟩
      | true =>
        have HEq : Hid (eqS d.s q0 = true) := hq
        have n1 : (wr.alloc (.cells #[.string ⟨#[]⟩, .int .i64 0, .slice none 0 0, .int .i64 0] 37)).heap[wr.heap.size]? = some (.cells #[.string ⟨#[]⟩, .int .i64 0, .slice none 0 0, .int .i64 0] 37 (0, 0)) := heap_alloc_last wr _
        have b1 := bel1 wr (.cells #[.string d.s, .int .i64 d.k, .slice p d.y.length cc, .int .i64 d.r] 37)
        have hh1 := holds_below hh b1
        obtain ⟨va, wa, hrun, hown, hba⟩ := bapp_nil (.slice p d.y.length cc) d.y (wr.alloc (.cells #[.string d.s, .int .i64 d.k, .slice p d.y.length cc, .int .i64 d.r] 37)) hh1 (HY.out d (List.mem_of_getElem? hd))
        obtain ⟨q, qc, ev⟩ := own_shape hown
        subst ev
        have m1 : (wr.alloc (.cells #[.string d.s, .int .i64 d.k, .slice p d.y.length cc, .int .i64 d.r] 37)).heap[wr.heap.size]? = some (.cells #[.string d.s, .int .i64 d.k, .slice p d.y.length cc, .int .i64 d.r] 37 (0, 0)) := heap_alloc_last wr _
        have x2 : (wr.alloc (.cells #[.string d.s, .int .i64 d.k, .slice p d.y.length cc, .int .i64 d.r] 37)).cell? ⟨wr.heap.size, 2, none⟩ = some (.slice p d.y.length cc) := row_cell m1 rfl
        have m2 := row_below hba m1
        have z2 : wa.cell? ⟨wr.heap.size, 2, none⟩ = some (.slice p d.y.length cc) := row_cell m2 rfl
        have f2 := row_frozen m2 2
        have k3 := KB.setCell wr.heap.size wa 2 (.slice q d.y.length qc)
        have m3 : (wa.setCell ⟨wr.heap.size, 2, none⟩ (.slice q d.y.length qc)).heap[wr.heap.size]? = some (.cells #[.string d.s, .int .i64 d.k, .slice q d.y.length qc, .int .i64 d.r] 37 (0, 0)) := heap_setCell_same wa wr.heap.size 2 _ 37 _ m2
        have HO3 : Hid (HN (wr.heap.size + 1) (wa.setCell ⟨wr.heap.size, 2, none⟩ (.slice q d.y.length qc)) (.slice q d.y.length qc) d.y) := by
          have e : (wr.alloc (.cells #[.string d.s, .int .i64 d.k, .slice p d.y.length cc, .int .i64 d.r] 37)).heap.size = wr.heap.size + 1 := by simp
          rw [e] at hown
          exact (own_kb hown k3 (Nat.lt_succ_self _)).hn
        have HB3 : Hid (Below wr.heap.size wr (wa.setCell ⟨wr.heap.size, 2, none⟩ (.slice q d.y.length qc))) := (bel2 b1 hba).trans (k3.below (Nat.le_refl _) (bel2 b1 hba).size)
        have HRun : Hid (∀ ty, _) := hrun
        have HN1 : Hid (Below wr.heap.size wr (wr.alloc (.cells #[.string d.s, .int .i64 d.k, .slice p d.y.length cc, .int .i64 d.r] 37))) := b1
        clear b1 hh1 hown hba k3 hrun
        clear hd hh
        go_upto_region 6 with (refine wpList_store_row rfl 37 _ _ rfl wr.heap.size _ rfl rfl 37 _ n1 info37s rfl (one4 _ _ _ _ _ _) ?_)
        rw [World.setRow_alloc_new]
        generalize wr.alloc (.cells #[.string d.s, .int .i64 d.k, .slice p d.y.length cc, .int .i64 d.r] 37) = W1 at x2 HRun m1 HN1 ⊢
        go_upto_region 7 with (at_builtin; refine Lib.wpList_append_run _ rfl _ _ 35 35 rfl _ _ rfl rfl _ _ (HRun.out _) ?_)
        generalize wa.setCell ⟨wr.heap.size, 2, none⟩ (.slice q d.y.length qc) = W3 at m3 HO3 HB3 ⊢
        clear x2 m1 m2 z2 f2 HRun n1 e0 e1 e2 e3 HN1
        have s3 := row_below HB3.out s1
        have HLw : Hid (w.heap.size < wr.heap.size) := lt_of_row s1
        go_wp2_with (first | refine wpList_load_row rfl 37 _ rfl wr.heap.size rfl 37 _ (0, 0) _ m3 Try.underlying37 rfl info37s ?_ | refine wpList_store_row rfl 37 _ _ rfl w.heap.size _ rfl rfl 37 _ s3 info37s rfl (one4 _ _ _ _ _ _) ?_)
        have k9 := setRow_heap W3 w.heap.size _ #[.string d.s, .int .i64 d.k, .slice q d.y.length qc, .int .i64 d.r] 37 (0, 0) s3
        have hl : (loadVar 37 ⟨w.heap.size, 0, none⟩).run Try.prog (W3.setRow w.heap.size #[.string d.s, .int .i64 d.k, .slice q d.y.length qc, .int .i64 d.r]) = .ok _ _ := run_loadVar_row _ w.heap.size 37 37 _ (0, 0) _ k9 Try.underlying37 rfl info37s
        refine bodyPost_ret (v := .tuple #[.agg #[.string d.s, .int .i64 d.k, .slice q d.y.length qc, .int .i64 d.r], .bool true]) (ret_cell_tmp Try.results10 _ rfl rfl hl) rfl ?_
        exact HQ1.out j d q qc _ HZ.out HEq.out HF.out (holds_kb HO3.out.1 (fun a m c e _ => by have := HO3.out.2 a m c e; have := HLw.out; omega) (KB.setRow _ _ _)) (below_setRow (g := w.heap.size) (bel2 HB.out HB3.out) (Nat.le_refl _) _)
    · obtain rfl : j = n := by omega
      have hjn : decide ((j : Int) < (j : Int)) = false := decide_eq_false (by omega)
      go_wp2_with (refine wpList_store_row rfl 37 _ _ rfl w.heap.size _ rfl rfl 37 _ s1 info37s rfl (one4 _ _ _ _ _ _) ?_)
      have k9 := setRow_heap wr w.heap.size _ #[.string ⟨#[]⟩, .int .i64 0, .slice none 0 0, .int .i64 0] 37 (0, 0) s1
      have hl : (loadVar 37 ⟨w.heap.size, 0, none⟩).run Try.prog (wr.setRow w.heap.size #[.string ⟨#[]⟩, .int .i64 0, .slice none 0 0, .int .i64 0]) = .ok _ _ := run_loadVar_row _ w.heap.size 37 37 _ (0, 0) _ k9 Try.underlying37 rfl info37s
      refine bodyPost_ret (v := .tuple #[.agg #[.string ⟨#[]⟩, .int .i64 0, .slice none 0 0, .int .i64 0], .bool false]) (ret_cell_tmp Try.results10 _ rfl rfl hl) rfl ?_
      refine HQ2.out _ (fun z hz => ?_) (below_setRow (g := w.heap.size) HB.out (Nat.le_refl _) _)
      obtain ⟨i, hi⟩ := List.getElem?_of_mem hz
      exact HF.out i z (by have := (List.getElem?_eq_some_iff.1 hi).1; have := HNn.out; omega) hi
set_option maxHeartbeats 4000000 in
set_option maxRecDepth 100000 in
theorem rclone_calls (ds : List Dn) (a : Option Addr) (n c : Nat) (hn : ds.length = n) (hs : n ≤ 500) (hy : ∀ d ∈ ds, d.y.length ≤ 140737488355328) (w : World) (h : Tb w a ds) :
    Calls Try.prog 29 #[.slice a n c] w fun e w' => ∃ v, e = .returned v ∧ Gr4 w.heap.size w' v ds ∧ Below w.heap.size w w' := by
  have HH : Hid (Tb w a ds) := h
  have HNn : Hid (ds.length = n) := hn
  have HL : Hid (n ≤ 500) := hs
  have HY : Hid (∀ d ∈ ds, d.y.length ≤ 140737488355328) := hy
  clear h hn hs hy
  go_enter Try.func29, Try.ntmps29
  go_wp2_with fail
  go_loopw [3, 4] (fun v i wr => ∃ j : Nat, j ≤ n ∧ i = .int .i64 (j : Int) ∧ Hid (Gr4 w.heap.size wr v (ds.take j)) ∧ Hid (Below w.heap.size w wr)) (fun _ i _ => n - (intOf i).toNat)
  case atStart => exact ⟨0, Nat.zero_le _, rfl, Gr4.nil _ _, Below.refl _ _⟩
  case round =>
    obtain ⟨j, hj, rfl, HG, HB⟩ := hrel
    by_cases hlt : j < n
    · obtain ⟨d, hd⟩ : ∃ d, ds[j]? = some d := ⟨_, List.getElem?_eq_getElem (by rw [HNn.out]; exact hlt)⟩
      obtain ⟨B, o, p, cc, rfl, ⟨e0, e1, e2, e3⟩, hh⟩ := (HH.out.below HB.out) j d hd
      obtain ⟨va', vc, hv⟩ := HG.out.shape
      have htl : (ds.take j).length = j := by rw [List.length_take, HNn.out]; omega
      rw [htl] at hv
      subst hv
      have HSn : Hid (ds.take j ++ [d] = ds.take (j + 1)) := by show _ = _; rw [List.take_add_one, hd]; rfl
      have HW : Hid (wrap64 ((j : Int) + 1) = ((j + 1 : Nat) : Int)) := wr1 hlt (by have := HL.out; omega)
      have HTl : Hid ((ds.take j).length = j) := htl
      have hjn : (j : Int) < (n : Int) := by omega
      have n1 : (wr.alloc (.cells #[.string ⟨#[]⟩, .int .i64 0, .slice none 0 0, .int .i64 0] 37)).heap[wr.heap.size]? = some (.cells #[.string ⟨#[]⟩, .int .i64 0, .slice none 0 0, .int .i64 0] 37 (0, 0)) := heap_alloc_last wr _
      have b1 := bel1 wr (.cells #[.string d.s, .int .i64 d.k, .slice p d.y.length cc, .int .i64 d.r] 37)
      have hh1 := holds_below hh b1
      obtain ⟨va, wa, hrun, hown, hba⟩ := bapp_nil (.slice p d.y.length cc) d.y (wr.alloc (.cells #[.string d.s, .int .i64 d.k, .slice p d.y.length cc, .int .i64 d.r] 37)) hh1 (HY.out d (List.mem_of_getElem? hd))
      obtain ⟨q, qc, ev⟩ := own_shape hown
      subst ev
      have m1 : (wr.alloc (.cells #[.string d.s, .int .i64 d.k, .slice p d.y.length cc, .int .i64 d.r] 37)).heap[wr.heap.size]? = some (.cells #[.string d.s, .int .i64 d.k, .slice p d.y.length cc, .int .i64 d.r] 37 (0, 0)) := heap_alloc_last wr _
      have x2 : (wr.alloc (.cells #[.string d.s, .int .i64 d.k, .slice p d.y.length cc, .int .i64 d.r] 37)).cell? ⟨wr.heap.size, 2, none⟩ = some (.slice p d.y.length cc) := row_cell m1 rfl
      have m2 := row_below hba m1
      have z2 : wa.cell? ⟨wr.heap.size, 2, none⟩ = some (.slice p d.y.length cc) := row_cell m2 rfl
      have f2 := row_frozen m2 2
      have k3 := KB.setCell wr.heap.size wa 2 (.slice q d.y.length qc)
      have m3 : (wa.setCell ⟨wr.heap.size, 2, none⟩ (.slice q d.y.length qc)).heap[wr.heap.size]? = some (.cells #[.string d.s, .int .i64 d.k, .slice q d.y.length qc, .int .i64 d.r] 37 (0, 0)) := heap_setCell_same wa wr.heap.size 2 _ 37 _ m2
      have HO3 : Hid (HN (wr.heap.size + 1) (wa.setCell ⟨wr.heap.size, 2, none⟩ (.slice q d.y.length qc)) (.slice q d.y.length qc) d.y) := by
        have e : (wr.alloc (.cells #[.string d.s, .int .i64 d.k, .slice p d.y.length cc, .int .i64 d.r] 37)).heap.size = wr.heap.size + 1 := by simp
        rw [e] at hown
        exact (own_kb hown k3 (Nat.lt_succ_self _)).hn
      have HB3 : Hid (Below wr.heap.size wr (wa.setCell ⟨wr.heap.size, 2, none⟩ (.slice q d.y.length qc))) := (bel2 b1 hba).trans (k3.below (Nat.le_refl _) (bel2 b1 hba).size)
      have HRun : Hid (∀ ty, _) := hrun
      have HN1 : Hid (Below wr.heap.size wr (wr.alloc (.cells #[.string d.s, .int .i64 d.k, .slice p d.y.length cc, .int .i64 d.r] 37))) := b1
      clear b1 hh1 hown hba k3 hrun
      clear hd hh htl
      go_upto_region 6 with (refine wpList_store_row rfl 37 _ _ rfl wr.heap.size _ rfl rfl 37 _ n1 info37s rfl (one4 _ _ _ _ _ _) ?_)
      rw [World.setRow_alloc_new]
      generalize wr.alloc (.cells #[.string d.s, .int .i64 d.k, .slice p d.y.length cc, .int .i64 d.r] 37) = W1 at x2 HRun m1 HN1 ⊢
      go_upto_region 7 with (at_builtin; refine Lib.wpList_append_run _ rfl _ _ 35 35 rfl _ _ rfl rfl _ _ (HRun.out _) ?_)
      generalize wa.setCell ⟨wr.heap.size, 2, none⟩ (.slice q d.y.length qc) = W3 at m3 HO3 HB3 ⊢
      clear x2 m1 m2 z2 f2 HRun n1 e0 e1 e2 e3 HN1
      have hown : ∀ B, (Value.slice va' j vc).ownBlock = some B → B < wr.heap.size := fun B hB => by
        obtain ⟨cells, ho, _⟩ := HG.out
        exact (World.ownsRow.lt ho B hB).2
      have hG1 := (HG.out.below HB3.out).below (bel1 W3 (.cells #[.string d.s, .int .i64 d.k, .slice q d.y.length qc, .int .i64 d.r] 37))
      have hQ : QD (fun B => w.heap.size ≤ B ∧ (Value.slice va' j vc).ownBlock ≠ some B) (W3.alloc (.cells #[.string d.s, .int .i64 d.k, .slice q d.y.length qc, .int .i64 d.r] 37)) [.string d.s, .int .i64 d.k, .slice q d.y.length qc, .int .i64 d.r] d :=
        ⟨q, qc, rfl, ((HO3.out).below (bel1 _ _)).hp (fun B h1 h2 => ⟨by have := HB.out.size; omega, fun e => by have := hown B e; omega⟩)⟩
      obtain ⟨ra, rc, w2, hrun, hg2, hb2, _⟩ := hG1.app (src := W3.heap.size) (d4_new W3 _ _ _ _) (d4_one _ _ _ _ _ _) rfl hQ (by have := HB.out.size; have := HB3.out.size; simp; omega) (by rw [HTl.out]; have := HL.out; omega)
      rw [HTl.out] at hrun hg2
      have HRn : Hid (∀ ty, _) := hrun
      have HG2 : Hid (Gr4 w.heap.size w2 (.slice ra (j + 1) rc) (ds.take (j + 1))) := by rw [← HSn.out]; exact hg2
      have HB2 : Hid (Below w.heap.size w w2) := (HB.out.trans ((bel2 HB3.out (bel1 _ _)).mono HB.out.size)).trans hb2
      clear hown hG1 hQ hrun hg2 hb2
      go_wp2_with (first | refine wpList_load_row rfl 37 _ rfl wr.heap.size rfl 37 _ (0, 0) _ m3 Try.underlying37 rfl info37s ?_ | (at_builtin; refine Lib.wpList_append_run _ rfl _ _ 22 22 rfl _ _ rfl rfl _ _ (HRn.out _) ?_))
      exact ⟨⟨j + 1, hlt, by first | rw [HW.out] | exact congrArg _ (Int.natCast_succ j).symm, HG2, HB2⟩, by first | exact meas hlt HW.out | exact meas hlt (Int.natCast_succ j).symm⟩
    · obtain rfl : j = n := by omega
      have hta : ds.take j = ds := by rw [List.take_of_length_le (by rw [HNn.out]; exact Nat.le_refl _)]
      rw [hta] at HG
      have hjn : decide ((j : Int) < (j : Int)) = false := decide_eq_false (by omega)
      go_wp2_with fail
      go_ret
      exact ⟨_, rfl, HG.out, HB.out⟩
end Go.Proofs.Ytlcgjehepalmcaa
