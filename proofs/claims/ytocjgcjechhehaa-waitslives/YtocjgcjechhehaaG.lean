/- The contracts of Drop and Add. -/
import Derived.Test.YtocjgcjechhehaaF
namespace Go.Proofs.Ytocjgcjechhehaa
open Go.ChangeAt Go.ChangeShapes Go.Deep Go.RowKit Go.WideShapes
/-- A list without an operation. -/
def dropL (op : Int) (ws : List Wt) : List Wt := ws.filter fun x => !decide (x.op = op)
theorem dropL_take_eq {op : Int} {ws : List Wt} {j : Nat} {x : Wt} (h : ws[j]? = some x) (he : x.op = op) : dropL op (ws.take (j + 1)) = dropL op (ws.take j) := by
  unfold dropL
  rw [List.take_add_one, h, List.filter_append]
  simp [he]
theorem dropL_take_ne {op : Int} {ws : List Wt} {j : Nat} {x : Wt} (h : ws[j]? = some x) (he : ¬ x.op = op) : dropL op (ws.take (j + 1)) = dropL op (ws.take j) ++ [x] := by
  unfold dropL
  rw [List.take_add_one, h, List.filter_append]
  simp [he]
theorem dropL_len (op : Int) (ws : List Wt) : (dropL op ws).length ≤ ws.length := List.length_filter_le _ _
theorem dropL_mem {op : Int} {ws : List Wt} {x : Wt} (h : x ∈ dropL op ws) : x ∈ ws := (List.mem_filter.1 h).1
set_option maxHeartbeats 4000000 in
set_option maxRecDepth 100000 in
theorem drop_calls (n : Nat) (a : Option Addr) (c N : Nat) (ws : List Wt) (hN : ws.length = N) (hl : N ≤ 1000) (op : Int) (w : World) (hR : LsW w n a ws) (hs : ∀ x ∈ ws, SmX n x) :
    Calls Try.prog 21 #[.slice a N c, .int .i64 op] w fun e W' => ∃ v, e = .returned v ∧ GrW w.heap.size n W' v (dropL op ws) ∧ Below w.heap.size w W' := by
  have HR : Hid (LsW w n a ws) := hR
  have HS : Hid (∀ x ∈ ws, SmX n x) := hs
  have HN : Hid (ws.length = N) := hN
  have HL : Hid (N ≤ 1000) := hl
  clear hR hs hN hl
  go_enter Try.func21, Try.ntmps21
  go_wp2_with fail
  go_loopw [5, 10] (fun v i wr => ∃ j : Nat, j ≤ N ∧ i = .int .i64 (j : Int) ∧ Hid (GrW w.heap.size n wr v (dropL op (ws.take j))) ∧ Hid (Below w.heap.size w wr)) (fun _ i _ => N - (intOf i).toNat)
  case atStart => exact ⟨0, Nat.zero_le _, rfl, GrW.nil _ _ _, Below.refl _ _⟩
  case round =>
    obtain ⟨j, hj, rfl, HG, HB⟩ := hrel
    obtain ⟨va, vc, hva, _, _⟩ := HG.out.shape
    generalize hvl : (dropL op (ws.take j)).length = vl at hva
    have HVL : Hid (_ = vl) := hvl
    subst hva
    clear hvl
    by_cases hlt : j < N
    · obtain ⟨x, hx⟩ : ∃ x, ws[j]? = some x := ⟨_, List.getElem?_eq_getElem (by rw [HN.out]; exact hlt)⟩
      obtain ⟨B, o, cs, rfl, hli, hi⟩ := HR.out j x hx
      have HX : Hid (ws[j]? = some x) := hx
      have HI : Hid (IsW (Is w n) cs x) := hi
      have hrng := lies_range (hli.below HB.out)
      have hi29 : (Try.prog.info? 29).map (·.size) = some cs.toList.length := by rw [Array.length_toList]; exact info29s cs hi.size
      have hi29' := info29s cs hi.size
      have ho : zW.size = cs.size := hi.size.symm
      have h1 := all_one hi.one
      have hz : (wr.alloc (.cells zW 29)).heap[wr.heap.size]? = some (.cells zW 29 (0, 0)) := heap_alloc_new wr _
      have hjl : (j : Int) < (N : Int) := by omega
      have HW : Hid (wrap64 ((j : Int) + 1) = ((j + 1 : Nat) : Int)) := wr1 hlt (by have := HL.out; omega)
      clear hx hi hli
      go_upto_region 5 with (first
        | refine wpList_load_mid rfl 29 _ rfl B (o + j * 19) rfl cs.toList _ hrng Try.underlying29 rfl hi29 ?_
        | refine wpList_store_row rfl 29 _ _ rfl wr.heap.size cs rfl rfl 29 zW hz hi29' ho h1 ?_)
      rw [World.setRow_alloc_new]
      have HBa : Hid (Below wr.heap.size wr (wr.alloc (.cells cs 29))) := bel1 wr _
      have hrow : (wr.alloc (.cells cs 29)).heap[wr.heap.size]? = some (.cells cs 29 (0, 0)) := heap_alloc_new wr _
      have e0 : (wr.alloc (.cells cs 29)).cell? ⟨wr.heap.size, 0, none⟩ = some (.int .i64 x.op) := row_cell hrow HI.out.c0
      have HSa : Hid (wr.heap.size < (wr.alloc (.cells cs 29)).heap.size) := by show _ < _; simp
      generalize wr.alloc (.cells cs 29) = Wa at HBa hrow e0 HSa ⊢
      clear hz ho hrng
      by_cases he : x.op = op
      · have HG1 : Hid (GrW w.heap.size n Wa (.slice va vl vc) (dropL op (ws.take (j + 1)))) := by rw [dropL_take_eq HX.out he]; exact HG.out.below HBa.out
        have HB1 : Hid (Below w.heap.size w Wa) := bel2 HB.out HBa.out
        clear hrow hi29 hi29' h1 HG HB HBa
        rw [he] at e0
        go_wp2_with fail
        exact ⟨⟨j + 1, hlt, by first | rw [HW.out] | exact congrArg _ (Int.natCast_succ j).symm, HG1, HB1⟩, by first | exact meas hlt HW.out | exact meas hlt (Int.natCast_succ j).symm⟩
      · have hne : (x.op != op) = true := by simpa using he
        have KC : Hid (Calls Try.prog 33 #[.agg cs] Wa (ClW n Wa x)) := clone_calls n cs x Wa (HI.out.map fun _ _ h => h.below (bel2 HB.out HBa.out)) (HS.out x (List.mem_of_getElem? HX.out))
        go_wp2_with (refine wpList_load_row rfl 29 _ rfl wr.heap.size rfl 29 cs (0, 0) _ hrow Try.underlying29 rfl hi29' ?_)
        refine KC.out.mono ?_
        rintro e w1 ⟨⟨us', rfl, hi1⟩, hb1⟩
        have hlen : (dropL op (ws.take j)).length ≤ 1000 := by
          have := dropL_len op (ws.take j)
          have := HN.out
          have := HL.out
          simp only [List.length_take] at *
          omega
        obtain ⟨a2, c2, w2, hrun, hg2, hb2, _⟩ := HG.out.push HB.out.size (bel2 HBa.out hb1) (b := Wa.heap.size) HBa.out.size (by have := HSa.out; omega) hi1 hlen
        rw [← dropL_take_ne HX.out he] at hg2
        rw [HVL.out] at hrun hg2
        have HRun : Hid (∀ ty, _) := hrun
        have HG2 : Hid (GrW w.heap.size n w2 _ (dropL op (ws.take (j + 1)))) := hg2
        have HB2 : Hid (Below w.heap.size w w2) := HB.out.trans hb2
        have hsl := slice1 us' hi1.size w1
        clear hrun hg2 hb2 hlen HG hi1 hb1 hrow hi29 hi29' h1 KC hne
        go_wp2_with (first | refine wpList_slice_run rfl 22 _ rfl (.agg us') rfl _ _ hsl ?_ | (at_builtin; refine Lib.wpList_append_run _ rfl _ _ 22 22 rfl _ _ rfl rfl _ _ (HRun.out _) ?_))
        exact ⟨⟨j + 1, hlt, by first | rw [HW.out] | exact congrArg _ (Int.natCast_succ j).symm, HG2, HB2⟩, by first | exact meas hlt HW.out | exact meas hlt (Int.natCast_succ j).symm⟩
    · obtain rfl : j = N := by omega
      have ht : ws.take j = ws := List.take_of_length_le (by rw [HN.out]; exact Nat.le_refl _)
      have HG1 : Hid (GrW w.heap.size n wr (.slice va vl vc) (dropL op ws)) := by have h := HG.out; rw [ht] at h; exact h
      clear ht HG
      go_wp2_with fail
      go_ret
      exact ⟨_, rfl, HG1.out, HB.out⟩
end Go.Proofs.Ytocjgcjechhehaa
