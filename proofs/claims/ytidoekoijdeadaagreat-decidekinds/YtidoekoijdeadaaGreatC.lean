/- The contracts of Do of a query, of awake; the walk of DecideKinds. -/
import Derived.Test.YtidoekoijdeadaaGreatB
namespace Go.Proofs.YtidoekoijdeadaaGreat
open Go.ChangeShapes Go.WideShapes Go.ChangeAt Go.RowKit
set_option maxHeartbeats 2000000 in
set_option maxRecDepth 100000 in
theorem do_calls (w : World) : Calls Tryz.prog 9 #[.agg flow, .bool true, .slice none 0 0, .agg query, .int .i64 0, .slice none 0 0] w (RetP (.tuple #[.agg zP, .agg xR2]) w) := by
  have hi38 : (Tryz.prog.info? 38).map (·.size) = some flow.size := by kernel_rfl
  have hi41 : (Tryz.prog.info? 41).map (·.size) = some zP.size := by kernel_rfl
  have hi46 : (Tryz.prog.info? 46).map (·.size) = some xR2.size := by kernel_rfl
  have z2 : zR.size = xR2.size := rfl
  have a1 : zP.all (·.oneCell') = true := by kernel_rfl
  have a2 : xR2.all (·.oneCell') = true := by kernel_rfl
  have HQ : Hid (∀ w', Below w.heap.size w w' → RetP (.tuple #[.agg zP, .agg xR2]) w (.returned (.tuple #[.agg zP, .agg xR2])) w') := fun w' h => ⟨rfl, h⟩
  generalize RetP (.tuple #[.agg zP, .agg xR2]) w = Q at HQ ⊢
  go_enter Tryz.func9, Tryz.ntmps9
  have b0 : Hid (Below w.heap.size w ((((w.alloc (.cells flow 38)).alloc (.cells query 52)).alloc (.cells zP 41)).alloc (.cells zR 46))) := bel2 (bel2 (bel2 (bel1 _ _) (bel1 _ _)) (bel1 _ _)) (bel1 _ _)
  have p0 : ((w.alloc (.cells flow 38)).alloc (.cells query 52)).heap[w.heap.size]? = some (.cells flow 38 (0, 0)) := heap_alloc2_old _ _ _
  have p1 : ((w.alloc (.cells flow 38)).alloc (.cells query 52)).heap[w.heap.size + 1]? = some (.cells query 52 (0, 0)) := heap_alloc2_new _ _ _
  have r0 := row_below (bel1 _ (.cells zR 46)) (row_below (bel1 _ (.cells zP 41)) p0)
  have r1 := row_below (bel1 _ (.cells zR 46)) (row_below (bel1 _ (.cells zP 41)) p1)
  have r2 : ((((w.alloc (.cells flow 38)).alloc (.cells query 52)).alloc (.cells zP 41)).alloc (.cells zR 46)).heap[w.heap.size + 1 + 1]? = some (.cells zP 41 (0, 0)) := by
    have := heap_alloc2_old ((w.alloc (.cells flow 38)).alloc (.cells query 52)) (.cells zP 41) (.cells zR 46)
    simpa using this
  have r3 : ((((w.alloc (.cells flow 38)).alloc (.cells query 52)).alloc (.cells zP 41)).alloc (.cells zR 46)).heap[w.heap.size + 1 + 1 + 1]? = some (.cells zR 46 (0, 0)) := by
    have := heap_alloc2_new ((w.alloc (.cells flow 38)).alloc (.cells query 52)) (.cells zP 41) (.cells zR 46)
    simpa using this
  clear p0 p1
  go_upto_region 1 with fail
  change Code.wp _ _ _ _ ((((w.alloc (.cells flow 38)).alloc (.cells query 52)).alloc (.cells zP 41)).alloc (.cells zR 46))
  generalize (((w.alloc (.cells flow 38)).alloc (.cells query 52)).alloc (.cells zP 41)).alloc (.cells zR 46) = W0 at b0 r0 r1 r2 r3 ⊢
  have c1 : W0.cell? ⟨w.heap.size + 1, 0, none⟩ = some (.int .i64 4) := by rw [cell_of_row W0 _ 0 query 52 (0, 0) r1]; rfl
  go_upto_region 24 with fail
  go_wp2_with (refine wpList_load_row rfl 38 _ rfl w.heap.size rfl 38 flow (0, 0) _ r0 Tryz.underlying38 rfl hi38 ?_)
  refine (waiting_calls _).mono ?_
  rintro e w1 ⟨rfl, hb⟩
  have s2 := row_below hb r2
  have s3 := row_below hb r3
  have b1 : Hid (Below w.heap.size w w1) := bel2 b0.out hb
  have t2 := setRow_heap w1 (w.heap.size + 1 + 1) zP zP 41 (0, 0) s2
  have t3 : (w1.setRow (w.heap.size + 1 + 1) zP).heap[w.heap.size + 1 + 1 + 1]? = some (.cells zR 46 (0, 0)) := (setRow_other _ _ _ _ (by omega)).trans s3
  clear hb r0 r1 r2 r3 c1 s3
  go_wp2_with (first | refine wpList_store_row rfl 41 _ _ rfl (w.heap.size + 1 + 1) zP rfl rfl 41 zP s2 hi41 rfl a1 ?_ | refine wpList_store_row rfl 46 _ _ rfl (w.heap.size + 1 + 1 + 1) xR2 rfl rfl 46 zR t3 hi46 z2 a2 ?_)
  have HB : Hid (Below w.heap.size w ((w1.setRow (w.heap.size + 1 + 1) zP).setRow (w.heap.size + 1 + 1 + 1) xR2)) := setRow_bel (setRow_bel b1.out _ _ (by omega)) _ _ (by omega)
  have k3 := setRow_heap _ (w.heap.size + 1 + 1 + 1) zR xR2 46 (0, 0) t3
  have k2 : ((w1.setRow (w.heap.size + 1 + 1) zP).setRow (w.heap.size + 1 + 1 + 1) xR2).heap[w.heap.size + 1 + 1]? = some (.cells zP 41 (0, 0)) := (setRow_other _ _ _ _ (by omega)).trans t2
  generalize (w1.setRow (w.heap.size + 1 + 1) zP).setRow (w.heap.size + 1 + 1 + 1) xR2 = W3 at HB k2 k3 ⊢
  have l2 : (loadVar 41 ⟨w.heap.size + 1 + 1, 0, none⟩).run Tryz.prog W3 = .ok (.agg zP) W3 := run_loadVar_row _ _ 41 41 zP (0, 0) _ k2 Tryz.underlying41 rfl hi41
  have l3 : (loadVar 46 ⟨w.heap.size + 1 + 1 + 1, 0, none⟩).run Tryz.prog W3 = .ok (.agg xR2) W3 := run_loadVar_row _ _ 46 46 xR2 (0, 0) _ k3 Tryz.underlying46 rfl hi46
  exact bodyPost_ret (v := .tuple #[.agg zP, .agg xR2]) (ret_cell2 Tryz.results9 _ rfl rfl l2 l3) rfl (HQ.out _ HB.out)
set_option maxHeartbeats 2000000 in
set_option maxRecDepth 100000 in
theorem awake_calls (w : World) : Calls Tryz.prog 8 #[] w fun e w' => e = .returned (.bool true) ∧ Below w.heap.size w w' := by
  have hi35 : (Tryz.prog.info? 35).map (·.size) = some stat.size := by kernel_rfl
  have hi41 : (Tryz.prog.info? 41).map (·.size) = some zP.size := by kernel_rfl
  have hi46 : (Tryz.prog.info? 46).map (·.size) = some xR2.size := by kernel_rfl
  have z0 : zSt.size = stat.size := rfl
  have z2 : zR.size = xR2.size := rfl
  have a0 : stat.all (·.oneCell') = true := by kernel_rfl
  have a1 : zP.all (·.oneCell') = true := by kernel_rfl
  have a2 : xR2.all (·.oneCell') = true := by kernel_rfl
  have n1 : (w.alloc (.cells zSt 35)).heap[w.heap.size]? = some (.cells zSt 35 (0, 0)) := heap_alloc_new w _
  go_enter Tryz.func8, Tryz.ntmps8
  go_upto_region 2 with (refine wpList_store_row rfl 35 _ _ rfl w.heap.size stat rfl rfl 35 zSt n1 hi35 z0 a0 ?_)
  rw [World.setRow_alloc_new]
  have r0 : (w.alloc (.cells stat 35)).heap[w.heap.size]? = some (.cells stat 35 (0, 0)) := heap_alloc_new w _
  have b0 : Hid (Below w.heap.size w (w.alloc (.cells stat 35))) := bel1 w _
  clear n1
  generalize w.alloc (.cells stat 35) = W0 at r0 b0 ⊢
  go_wp2_with (refine wpList_load_row rfl 35 _ rfl w.heap.size rfl 35 stat (0, 0) _ r0 Tryz.underlying35 rfl hi35 ?_)
  refine (do_calls _).mono ?_
  rintro e w1 ⟨rfl, hb⟩
  have b1 : Hid (Below w.heap.size w w1) := bel2 b0.out hb
  have n1 : ((w1.alloc (.cells zP 41)).alloc (.cells zR 46)).heap[w1.heap.size]? = some (.cells zP 41 (0, 0)) := heap_alloc2_old _ _ _
  have n2 : ((w1.alloc (.cells zP 41)).alloc (.cells zR 46)).heap[w1.heap.size + 1]? = some (.cells zR 46 (0, 0)) := heap_alloc2_new _ _ _
  have m2 : (((w1.alloc (.cells zP 41)).alloc (.cells zR 46)).setRow w1.heap.size zP).heap[w1.heap.size + 1]? = some (.cells zR 46 (0, 0)) := (setRow_other _ _ _ _ (by omega)).trans n2
  have q2 := setRow_heap _ (w1.heap.size + 1) zR xR2 46 (0, 0) m2
  have b2 : Hid (Below w.heap.size w ((((w1.alloc (.cells zP 41)).alloc (.cells zR 46)).setRow w1.heap.size zP).setRow (w1.heap.size + 1) xR2)) := bel2 b1.out (setRow_bel (setRow_bel (bel2 (bel1 _ _) (bel1 _ _)) _ _ (by omega)) _ _ (by omega))
  clear hb r0 n2
  go_upto_region 3 with (first | refine wpList_store_row rfl 41 _ _ rfl w1.heap.size zP rfl rfl 41 zP n1 hi41 rfl a1 ?_ | refine wpList_store_row rfl 46 _ _ rfl (w1.heap.size + 1) xR2 rfl rfl 46 zR m2 hi46 z2 a2 ?_)
  clear n1 m2
  change Code.wp _ _ _ _ ((((w1.alloc (.cells zP 41)).alloc (.cells zR 46)).setRow w1.heap.size zP).setRow (w1.heap.size + 1) xR2)
  generalize (((w1.alloc (.cells zP 41)).alloc (.cells zR 46)).setRow w1.heap.size zP).setRow (w1.heap.size + 1) xR2 = W2 at b2 q2 ⊢
  have c0 : W2.cell? ⟨w1.heap.size + 1, 0, none⟩ = some (.int .i64 25) := by rw [cell_of_row W2 _ 0 xR2 46 (0, 0) q2]; rfl
  have c2 : W2.cell? ⟨w1.heap.size + 1, 2, none⟩ = some (.int .i64 2) := by rw [cell_of_row W2 _ 2 xR2 46 (0, 0) q2]; rfl
  go_wp2_with fail
  refine (waits_calls _ _).mono ?_
  rintro e w3 ⟨rfl, rfl⟩
  go_wp2_with fail
  refine (reads_calls _ _).mono ?_
  rintro e w4 ⟨rfl, rfl⟩
  go_wp2_with fail
  go_ret
  exact ⟨rfl, b2.out⟩
set_option maxHeartbeats 2000000 in
set_option maxRecDepth 100000 in
theorem kinds_walk (k : Int) (w : World) : Calls Tryz.prog 3 #[.int .i64 k] w fun e w' => e = .returned (.bool true) ∧ Below w.heap.size w w' := by
  go_enter Tryz.func3, Tryz.ntmps3
  go_wp2_with fail
  go_loopw [4] (fun i wr => ∃ j : Nat, j ≤ 20 ∧ i = .int .i64 (j : Int) ∧ wr = w) (fun i _ => 20 - (intOf i).toNat)
  case atStart => exact ⟨0, Nat.zero_le _, rfl, rfl⟩
  case round =>
    obtain ⟨j, hj, rfl, rfl⟩ := hrel
    by_cases hlt : j < 20
    · have hjl : (j : Int) < 20 := by omega
      have HW : Hid (wrap64 ((j : Int) + 1) = ((j + 1 : Nat) : Int)) := by show _ = _; unfold wrap64; omega
      have HJ : Hid (j < 20) := hlt
      go_wp2_with fail
      refine (reads_calls _ _).mono ?_
      rintro e w1 ⟨rfl, rfl⟩
      go_wp2_with fail
      refine (rreads_calls _ _).mono ?_
      rintro e w2 ⟨rfl, rfl⟩
      generalize rdB (j : Int) = b1
      go_wp2_with fail
      refine (waits_calls _ _).mono ?_
      rintro e w3 ⟨rfl, rfl⟩
      go_wp2_with fail
      refine (rwaits_calls _ _).mono ?_
      rintro e w4 ⟨rfl, rfl⟩
      generalize wtB (j : Int) = b2
      go_wp2_with fail
      exact ⟨⟨j + 1, HJ.out, by first | rw [HW.out] | exact congrArg _ (Int.natCast_succ j).symm, trivial⟩, by simp [intOf]; have := HJ.out; omega⟩
    · obtain rfl : j = 20 := by omega
      go_wp2_with fail
      refine (reads_calls _ _).mono ?_
      rintro e w1 ⟨rfl, rfl⟩
      go_wp2_with fail
      refine (rreads_calls _ _).mono ?_
      rintro e w2 ⟨rfl, rfl⟩
      generalize rdB k = b1
      go_wp2_with fail
      refine (waits_calls _ _).mono ?_
      rintro e w3 ⟨rfl, rfl⟩
      go_wp2_with fail
      refine (rwaits_calls _ _).mono ?_
      rintro e w4 ⟨rfl, rfl⟩
      generalize wtB k = b2
      go_wp2_with fail
      refine (awake_calls _).mono ?_
      rintro e w5 ⟨rfl, hb⟩
      go_wp2_with fail
      go_ret
      exact ⟨rfl, hb⟩
end Go.Proofs.YtidoekoijdeadaaGreat
