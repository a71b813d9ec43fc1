/- The walk of WaitsHanded. -/
import Derived.Test.YtocjgcjechhehaaR
import Derived.Test.YtocjgcjechhehaaSX
namespace Go.Proofs.Ytocjgcjechhehaa
open Go.ChangeAt Go.ChangeShapes Go.Deep Go.RowKit Go.WideShapes
theorem ans_over {s : Int} {az : List An} {x : Wt} (h : (ans s az x).over = true) (hx : x.over = false) : (0 ≤ s ∧ s ≤ 2147483648) ∧ x.query = true ∧ x.handed = wrap64 (s + 1) := by
  unfold ans at h
  split at h
  · rename_i hc
    simp only [Bool.and_eq_true, decide_eq_true_eq, isS] at hc
    exact ⟨hc.1, hc.2.1, hc.2.2.2⟩
  · rw [hx] at h; cases h
theorem hd_back {s h : Int} (h0 : 0 ≤ s) (h1 : s ≤ 2147483648) (he : h = wrap64 (s + 1)) : wrap64 (h - 1) = s := by
  subst he
  unfold wrap64
  omega
set_option maxHeartbeats 4000000 in
set_option maxRecDepth 100000 in
theorem handed_walk (n : Nat) (a : Option Addr) (c N : Nat) (ws : List Wt) (hN : ws.length = N) (hc : N ≤ c) (hm : N ≤ 9223372036854775807) (s : Int) (la : Option Addr) (lc M : Nat) (az : List An) (hM : az.length = M) (w : World) (hR : LsW w (n + 1) a ws) (hs : ∀ y ∈ ws, SmX (n + 1) y) (hA : LsAn w (n + 1) la az) (hz : ∀ d ∈ az, SmallW (n + 1) d.v) :
    Calls Try.prog 5 #[.slice a N c, .int .i64 s, .slice la M lc] w fun e w' => e = .returned (.bool true) ∧ Below w.heap.size w w' := by
  obtain ⟨m, hm1⟩ : ∃ m : Nat, m = min N 40 := ⟨_, rfl⟩
  have HE : Hid ((if (40 : Int) < (N : Int) then (40 : Int) else (N : Int)) = (m : Int)) := by show _ = _; split <;> omega
  have HM : Hid ((ws.take 40).length = m ∧ m ≤ 40) := ⟨by rw [List.length_take]; omega, by omega⟩
  have hs2 : ∀ y ∈ ws.take 40, SmX (n + 1) y := fun y hy => hs y (List.mem_of_mem_take hy)
  have hR2 := hR.take 40
  generalize ws.take 40 = us at HM hs2 hR2
  have HU : Hid (LsW w (n + 1) a us) := hR2
  have KW : Hid (∀ W, Calls Try.prog 18 #[] W fun e w' => e = .returned (.bool true) ∧ Below W.heap.size W w') := awake_calls
  have KA : Hid (M ≤ 60 → Calls Try.prog 19 #[.slice a m c, .int .i64 s, .slice la M lc] w (RetW (n + 1) w (us.map (ans s az)))) := fun h6 => answer_calls (n + 1) a c m us HM.out.1 (by have := HM.out.2; omega) s la lc M az hM (by omega) w hR2 hs2 hA hz
  clear hR hs hN hm1 hs2 hR2 hA hz hM
  go_enter Try.func5, Try.ntmps5
  go_upto_region 2 with fail
  rw [HE.out]
  simp only [Int.toNat_natCast]
  clear hc hm HE
  by_cases h6 : M ≤ 60
  · have KA2 : Hid (Calls Try.prog 19 _ w _) := KA.out h6
    have h7 : ¬ ((60 : Int) < (M : Int)) := by omega
    clear KA h6
    go_wp2_with fail
    refine KA2.out.mono ?_
    rintro e u1 ⟨a1, c1, rfl, hl1, _, _, hb1⟩
    have hlen : (us.map (ans s az)).length = m := by rw [List.length_map]; exact HM.out.1
    have HL1 : Hid (LsW u1 (n + 1) a1 (us.map (ans s az))) := hl1
    have HB1 : Hid (Below w.heap.size w u1) := hb1
    rw [hlen]
    have hnn : ((m : Int) != (m : Int)) = false := by simp
    clear hl1 hb1 hlen KA2 h7
    go_wp2_with fail
    go_loopw [30] (fun i wr => ∃ j : Nat, j ≤ m ∧ i = .int .i64 (j : Int) ∧ Hid (Below u1.heap.size u1 wr)) (fun i _ => m - (intOf i).toNat)
    case atStart => exact ⟨0, Nat.zero_le _, rfl, Below.refl _ _⟩
    case round =>
      obtain ⟨j, hj, rfl, HB⟩ := hrel
      by_cases hlt : j < m
      · obtain ⟨x, hx⟩ : ∃ x, us[j]? = some x := ⟨_, List.getElem?_eq_getElem (by rw [HM.out.1]; exact hlt)⟩
        have hHB := bel2 HB1.out HB.out
        obtain ⟨B, o, cs, rfl, hli, hi⟩ := (HU.out.below hHB) j x hx
        obtain ⟨B2, o2, r2, rfl, hl2, hi2⟩ := (HL1.out.below HB.out) j (ans s az x) (by rw [List.getElem?_map, hx]; rfl)
        have hOV := @ans_over s az x
        generalize ans s az x = y at hi2 hOV
        have HOV : Hid (y.over = true → x.over = false → _) := hOV
        have HBB : Hid (Below w.heap.size w wr) := hHB
        have hrng := lies_range hli
        have hi29 : (Try.prog.info? 29).map (·.size) = some cs.toList.length := by rw [Array.length_toList]; exact info29s cs hi.size
        have hi29' := info29s cs hi.size
        have ho : zW.size = cs.size := hi.size.symm
        have h1 := all_one hi.one
        have hz : (wr.alloc (.cells zW 29)).heap[wr.heap.size]? = some (.cells zW 29 (0, 0)) := heap_alloc_new wr _
        have hjl : (j : Int) < (m : Int) := by omega
        have HW : Hid (wrap64 ((j : Int) + 1) = ((j + 1 : Nat) : Int)) := wr1 hlt (by have := HM.out.2; omega)
        have HI : Hid (IsW (Is wr (n + 1)) cs x) := hi
        have HY : Hid (wr.cell? ⟨B2, o2 + j * 19 + 17, none⟩ = some (.bool y.over)) := hl2 17 _ hi2.c17
        clear hx hi hli hl2 hi2 hOV hHB
        go_upto_region 10 with (first
          | refine wpList_load_mid rfl 29 _ rfl B (o + j * 19) rfl cs.toList _ hrng Try.underlying29 rfl hi29 ?_
          | refine wpList_store_row rfl 29 _ _ rfl wr.heap.size cs rfl rfl 29 zW hz hi29' ho h1 ?_)
        rw [World.setRow_alloc_new]
        have hrow : (wr.alloc (.cells cs 29)).heap[wr.heap.size]? = some (.cells cs 29 (0, 0)) := heap_alloc_new wr _
        have e17 : (wr.alloc (.cells cs 29)).cell? ⟨wr.heap.size, 17, none⟩ = some (.bool x.over) := row_cell hrow HI.out.c17
        have e18 : (wr.alloc (.cells cs 29)).cell? ⟨wr.heap.size, 18, none⟩ = some (.int .i64 x.handed) := row_cell hrow HI.out.c18
        have e16 : (wr.alloc (.cells cs 29)).cell? ⟨wr.heap.size, 16, none⟩ = some (.bool x.query) := row_cell hrow HI.out.c16
        have f17 : (wr.alloc (.cells cs 29)).cell? ⟨B2, o2 + j * 19 + 17, none⟩ = some (.bool y.over) := cellW HY.out (bel1 wr _)
        have HB2 : Hid (Below u1.heap.size u1 (wr.alloc (.cells cs 29))) := bel2 HB.out (bel1 wr _)
        generalize wr.alloc (.cells cs 29) = Wa at HB2 e17 e18 e16 f17 ⊢
        clear hrow hz ho h1 hi29 hi29' hrng HY HI
        by_cases hy : y.over = true
        · rw [hy] at f17
          by_cases hxo : x.over = true
          · rw [hxo] at e17
            go_wp2_with fail
            exact ⟨⟨j + 1, hlt, by first | rw [HW.out] | exact congrArg _ (Int.natCast_succ j).symm, HB2⟩, by first | exact meas hlt HW.out | exact meas hlt (Int.natCast_succ j).symm⟩
          · have hxo' : x.over = false := by simpa using hxo
            obtain ⟨⟨s0, s1⟩, hq, hh⟩ := HOV.out hy hxo'
            rw [hxo'] at e17
            rw [hq] at e16
            have hne : (wrap64 (x.handed - 1) != s) = false := by rw [hd_back s0 s1 hh]; simp
            clear s0 s1 hh hq hxo hxo' hy
            generalize x.handed = hd at e18 hne
            go_wp2_with fail
            exact ⟨⟨j + 1, hlt, by first | rw [HW.out] | exact congrArg _ (Int.natCast_succ j).symm, HB2⟩, by first | exact meas hlt HW.out | exact meas hlt (Int.natCast_succ j).symm⟩
        · have hy' : y.over = false := by simpa using hy
          rw [hy'] at f17
          go_wp2_with fail
          exact ⟨⟨j + 1, hlt, by first | rw [HW.out] | exact congrArg _ (Int.natCast_succ j).symm, HB2⟩, by first | exact meas hlt HW.out | exact meas hlt (Int.natCast_succ j).symm⟩
      · obtain rfl : j = m := by omega
        have KZ : Hid (Calls Try.prog 18 #[] wr _) := KW.out wr
        go_wp2_with fail
        refine KZ.out.mono ?_
        rintro e u2 ⟨rfl, hb2⟩
        have HB2 : Hid (Below w.heap.size w u2) := bel2 (bel2 HB1.out HB.out) hb2
        clear hb2
        go_wp2_with fail
        go_ret
        exact ⟨rfl, HB2.out⟩
  · have h7 : (60 : Int) < (M : Int) := by omega
    have KZ : Hid (Calls Try.prog 18 #[] w _) := KW.out w
    clear KA h6
    go_wp2_with fail
    refine KZ.out.mono ?_
    rintro e u2 ⟨rfl, hb2⟩
    have HB2 : Hid (Below w.heap.size w u2) := hb2
    clear hb2
    go_wp2_with fail
    go_ret
    exact ⟨rfl, HB2.out⟩
theorem handed_all {W : World} {a la : Option Addr} {c lc n m : Nat} {l : List Wt} {az : List An} (hc : l.length ≤ c ∧ l.length ≤ 9223372036854775807) (hl : LsW W (n + 1) a l) (hs : ∀ y ∈ l, SmX (n + 1) y) (hA : LsAn W (m + 1) la az) (hz : ∀ d ∈ az, SmallW (m + 1) d.v) (s : Int) :
    Calls Try.prog 5 #[.slice a l.length c, .int .i64 s, .slice la az.length lc] W fun e w' => e = .returned (.bool true) ∧ Below W.heap.size W w' :=
  handed_walk (n + m) a c l.length l rfl hc.1 hc.2 s la lc az.length az rfl W (hl.up (by omega)) (fun y hy => (hs y hy).up (by omega)) (hA.up (by omega)) (fun d hd => (hz d hd).up (by omega))
end Go.Proofs.Ytocjgcjechhehaa
