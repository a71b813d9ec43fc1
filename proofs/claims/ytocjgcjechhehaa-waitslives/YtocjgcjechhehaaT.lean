/- The walk of WaitsFound. -/
import Derived.Test.YtocjgcjechhehaaR
import Derived.Test.YtocjgcjechhehaaSX
namespace Go.Proofs.Ytocjgcjechhehaa
open Go.ChangeAt Go.ChangeShapes Go.Deep Go.RowKit Go.WideShapes
theorem wpList_load_rowG {P : Program} {ops : Array Oper} {rest : List Oper} {o : Oper} {a : Act} {w : World} {Q : Exit → Act → World → Prop} (hw : Region.wanted o (yielded ops a.tmps) = true) (ty : TypeId) (x : Operand) (ho : o.op = .load ty x)
    (g : Nat) (hx : a.eval x = .pointer (some ⟨g, 0, none⟩)) (t : TypeId) (cs : Array Value) (fr : Nat × Nat) (d : TypeDesc) (hg : w.heap[g]? = some (.cells cs t fr))
    (hu : P.underlying ty = some d) (hd : (match d with | .struct _ | .array _ _ => true | _ => false) = true) (hi : (P.info? ty).map (·.size) = some cs.size)
    (h : wpList P ops Q rest (a.put o.dst (.agg cs)) w) : wpList P ops Q (o :: rest) a w :=
  wpList_step fun _ hK => by rw [if_pos hw]; exact wp_load_row ty x ho g hx t cs fr d hg hu hd hi (hK _ _ h)
theorem wpList_slice_runG {P : Program} {ops : Array Oper} {rest : List Oper} {o : Oper} {a : Act} {w : World} {Q : Exit → Act → World → Prop} (hw : Region.wanted o (yielded ops a.tmps) = true) (t : TypeId) (x : Operand) (ho : o.op = .buildSlice t 1 #[(0, x)]) (vx : Value) (hx : a.eval x = vx) (v : Value) (w' : World) (hr : (Instr.buildSlice t 1 #[(0, vx)]).run P w = .ok v w')
    (h : wpList P ops Q rest (a.put o.dst v) w') : wpList P ops Q (o :: rest) a w :=
  wpList_step fun _ hK => by
    rw [if_pos hw]
    unfold Oper.wp execOp
    simp only [ho]
    simp [hx, hr, Result.andThen]
    exact hK _ _ h
theorem find_add (x : Wt) (ws : List Wt) : (addL x ws).find? (fun y => decide (y.op = x.op)) = some x := by
  unfold addL dropL
  rw [List.find?_append, List.find?_eq_none.2 (fun y hy => by have := (List.mem_filter.1 hy).2; simpa using this)]
  simp
theorem find_drop (op : Int) (ws : List Wt) : (dropL op ws).find? (fun y => decide (y.op = op)) = none := by
  unfold dropL
  exact List.find?_eq_none.2 fun y hy => by have := (List.mem_filter.1 hy).2; simpa using this
theorem add_sm {n : Nat} {x : Wt} {ws : List Wt} (hx : SmX n x) (h : ∀ y ∈ ws, SmX n y) : ∀ y ∈ addL x ws, SmX n y := fun y hy => by
  unfold addL at hy
  rcases List.mem_append.1 hy with h1 | h1
  · exact h y (dropL_mem h1)
  · rw [List.mem_singleton.1 h1]; exact hx
theorem add_len (x : Wt) (ws : List Wt) : (addL x ws).length ≤ ws.length + 1 := by
  unfold addL
  have := dropL_len x.op ws
  simp
  omega
theorem ls_one {W : World} {n : Nat} {cs : Array Value} {x : Wt} (h : IsW (Is W n) cs x) : LsW (W.alloc (.cells cs 29)) n (some ⟨W.heap.size, 0, none⟩) [x] := fun i y hy => by
  match i, hy with
  | 0, hy =>
    cases hy
    exact ⟨W.heap.size, 0, cs, rfl, Lies.row (heap_alloc_new W _), h.map fun _ _ h => h.below (bel1 W _)⟩
  | i + 1, hy => simp at hy
set_option maxHeartbeats 4000000 in
set_option maxRecDepth 100000 in
theorem found_walk (n : Nat) (a : Option Addr) (c N : Nat) (ws : List Wt) (hN : ws.length = N) (hc : N ≤ c) (hm : N ≤ 9223372036854775807) (cs : Array Value) (x : Wt) (op : Int) (w : World) (hR : LsW w (n + 1) a ws) (hs : ∀ y ∈ ws, SmX (n + 1) y) (hi : IsW (Is w (n + 1)) cs x) (hx : SmX (n + 1) x) :
    Calls Try.prog 6 #[.slice a N c, .agg cs, .int .i64 op] w fun e w' => e = .returned (.bool true) ∧ Below w.heap.size w w' := by
  obtain ⟨m, hm1⟩ : ∃ m : Nat, m = min N 40 := ⟨_, rfl⟩
  have HE : Hid ((if (40 : Int) < (N : Int) then (40 : Int) else (N : Int)) = (m : Int)) := by show _ = _; split <;> omega
  have HM : Hid ((ws.take 40).length = m ∧ m ≤ 40) := ⟨by rw [List.length_take]; omega, by omega⟩
  have hs2 : ∀ y ∈ ws.take 40, SmX (n + 1) y := fun y hy => hs y (List.mem_of_mem_take hy)
  have hR2 := hR.take 40
  generalize ws.take 40 = us at HM hs2 hR2
  have HU : Hid (LsW w (n + 1) a us ∧ ∀ y ∈ us, SmX (n + 1) y) := ⟨hR2, hs2⟩
  have HI : Hid (IsW (Is w (n + 1)) cs x) := hi
  have HX : Hid (SmX (n + 1) x) := hx
  have HB0 : Hid (Below w.heap.size w (w.alloc (.cells cs 29))) := bel1 w _
  have hrow : (w.alloc (.cells cs 29)).heap[w.heap.size]? = some (.cells cs 29 (0, 0)) := heap_alloc_new w _
  have hics := info29s cs hi.size
  clear hR hs hi hx hN hm1 hs2 hR2
  go_enter Try.func6, Try.ntmps6
  go_upto_region 2 with fail
  rw [HE.out]
  simp only [Int.toNat_natCast]
  clear hc hm HE
  generalize w.alloc (.cells cs 29) = W0 at HB0 hrow ⊢
  have KA : Hid (Calls Try.prog 20 #[.slice a m c, .agg cs] W0 (RetW (n + 1) W0 (addL x us))) := add_calls (n + 1) a c m us HM.out.1 (by have := HM.out.2; omega) cs x W0 (HU.out.1.below HB0.out) HU.out.2 (HI.out.map fun _ _ h => h.below HB0.out) HX.out
  go_wp2_with (refine wpList_load_row rfl 29 _ rfl w.heap.size rfl 29 cs (0, 0) _ hrow Try.underlying29 rfl hics ?_)
  refine KA.out.mono ?_
  rintro e u1 ⟨a1, c1, rfl, hl1, hc1, hd1, hb1⟩
  have hk1 : (addL x us).length ≤ 41 := by have := add_len x us; have := HM.out; omega
  have HB1 : Hid (Below w.heap.size w u1) := bel2 HB0.out hb1
  have hrow1 : u1.heap[w.heap.size]? = some (.cells cs 29 (0, 0)) := row_below hb1 hrow
  have e0 : u1.cell? ⟨w.heap.size, 0, none⟩ = some (.int .i64 x.op) := row_cell hrow1 HI.out.c0
  have HL1 : Hid (LsW u1 (n + 1) a1 (addL x us)) := hl1
  have HS1 : Hid (∀ y ∈ addL x us, SmX (n + 1) y) := add_sm HX.out HU.out.2
  have HF1 : Hid ((addL x us).find? (fun y => decide (y.op = x.op)) = some x) := find_add x us
  generalize addL x us = ys at hk1 HL1 HS1 HF1 ⊢
  generalize hkl : ys.length = k at hk1 hc1 ⊢
  have HK : Hid (ys.length = k ∧ k ≤ 41) := ⟨hkl, hk1⟩
  have KF : Hid (Calls Try.prog 11 #[.slice a1 k c1, .int .i64 x.op] u1 (FdP n u1 (some x))) := by
    have h := find_calls n a1 c1 k ys HK.out.1 (by have := HK.out.2; omega) x.op u1 HL1.out HS1.out
    rw [HF1.out] at h
    exact h
  clear hkl hk1 hc1 hd1 hl1 hb1 hrow KA HU HM
  go_wp2_with fail
  refine KF.out.mono ?_
  rintro e u2 ⟨⟨v2, rfl, hv2⟩, hb2⟩
  have hu2 := info29s v2 hv2.size
  have ho2 : zW.size = v2.size := hv2.size.symm
  have ha2 := all_one hv2.one
  have hz2 : (u2.alloc (.cells zW 29)).heap[u2.heap.size]? = some (.cells zW 29 (0, 0)) := heap_alloc_new u2 _
  have HV2 : Hid (IsW (Is u2 (n + 1)) v2 x) := hv2
  have HB2 : Hid (Below w.heap.size w u2) := bel2 HB1.out hb2
  have HL2 : Hid (LsW u2 (n + 1) a1 ys) := HL1.out.below hb2
  have hrow2 : u2.heap[w.heap.size]? = some (.cells cs 29 (0, 0)) := row_below hb2 hrow1
  clear hv2 hb2 KF HL1 hrow1 e0
  go_upto_region 4 with (refine wpList_store_row rfl 29 _ _ rfl u2.heap.size v2 rfl rfl 29 zW hz2 hu2 ho2 ha2 ?_)
  rw [World.setRow_alloc_new]
  have hrow3 : (u2.alloc (.cells v2 29)).heap[w.heap.size]? = some (.cells cs 29 (0, 0)) := row_below (bel1 u2 _) hrow2
  have hrv : (u2.alloc (.cells v2 29)).heap[u2.heap.size]? = some (.cells v2 29 (0, 0)) := heap_alloc_new u2 _
  have HBa : Hid (Below u2.heap.size u2 (u2.alloc (.cells v2 29))) := bel1 u2 _
  generalize u2.alloc (.cells v2 29) = Wa at hrow3 hrv HBa ⊢
  have hsl1 := slice1 v2 HV2.out.size Wa
  have hrow4 : (Wa.alloc (.cells v2 29)).heap[w.heap.size]? = some (.cells cs 29 (0, 0)) := row_below (bel1 Wa _) hrow3
  have hsl2 := slice1 cs HI.out.size (Wa.alloc (.cells v2 29))
  have KS : Hid (Calls Try.prog 10 #[.slice (some ⟨Wa.heap.size, 0, none⟩) 1 1, .slice (some ⟨Wa.heap.size + 1, 0, none⟩) 1 1] ((Wa.alloc (.cells v2 29)).alloc (.cells cs 29)) fun e w' => e = .returned (.bool true) ∧ Below ((Wa.alloc (.cells v2 29)).alloc (.cells cs 29)).heap.size ((Wa.alloc (.cells v2 29)).alloc (.cells cs 29)) w') := by
    have hsz : (Wa.alloc (.cells v2 29)).heap.size = Wa.heap.size + 1 := by simp
    rw [← hsz]
    refine wsame_calls (n + 1) [x] _ _ 1 1 1 rfl (by omega) _ ?_ ?_
    · exact (ls_one (HV2.out.map fun _ _ h => h.below HBa.out)).below (bel1 _ _)
    · exact ls_one (HI.out.map fun _ _ h => h.below (bel2 HB2.out (bel2 HBa.out (bel1 _ _))))
  have HB3 : Hid (Below w.heap.size w ((Wa.alloc (.cells v2 29)).alloc (.cells cs 29))) := bel2 HB2.out (bel2 HBa.out (bel2 (bel1 _ _) (bel1 _ _)))
  have HL3 : Hid (LsW ((Wa.alloc (.cells v2 29)).alloc (.cells cs 29)) (n + 1) a1 ys) := HL2.out.below (bel2 HBa.out (bel2 (bel1 _ _) (bel1 _ _)))
  clear hz2 ho2 ha2 hrow2 HL2
  go_wp2_with (first
    | refine wpList_load_rowG (by rfl) 29 _ rfl u2.heap.size rfl 29 v2 (0, 0) _ hrv Try.underlying29 rfl hu2 ?_
    | refine wpList_slice_runG (by rfl) 22 _ rfl (.agg v2) rfl _ _ hsl1 ?_
    | refine wpList_load_rowG (by rfl) 29 _ rfl w.heap.size rfl 29 cs (0, 0) _ hrow4 Try.underlying29 rfl hics ?_
    | refine wpList_slice_runG (by rfl) 22 _ rfl (.agg cs) rfl _ _ hsl2 ?_)
  refine KS.out.mono ?_
  rintro e u3 ⟨rfl, hb3⟩
  have HB4 : Hid (Below w.heap.size w u3) := bel2 HB3.out hb3
  have KD : Hid (Calls Try.prog 21 #[.slice a1 k c1, .int .i64 op] u3 _) := drop_calls (n + 1) a1 c1 k ys HK.out.1 (by have := HK.out.2; omega) op u3 (HL3.out.below hb3) HS1.out
  clear hb3 KS hsl1 hsl2 hrow3 hrow4 hrv HBa HV2 hu2 hics HB3 HL3
  go_wp2_with fail
  refine KD.out.mono ?_
  rintro e u4 ⟨v4, rfl, hg4, hb4⟩
  obtain ⟨a4, c4, rfl, _, _⟩ := hg4.shape
  have hk4 : (dropL op ys).length ≤ 1000 := by have := dropL_len op ys; have := HK.out; omega
  have KG : Hid (Calls Try.prog 11 #[.slice a4 (dropL op ys).length c4, .int .i64 op] u4 (FdP n u4 none)) := by
    have h := find_calls n a4 c4 _ (dropL op ys) rfl hk4 op u4 hg4.ls (fun y hy => HS1.out y (dropL_mem hy))
    rw [find_drop] at h
    exact h
  have HB5 : Hid (Below w.heap.size w u4) := bel2 HB4.out hb4
  generalize (dropL op ys).length = k4 at KG ⊢
  clear hg4 hb4 KD hk4
  go_wp2_with fail
  refine KG.out.mono ?_
  rintro e u5 ⟨⟨v5, rfl, hv5⟩, hb5⟩
  have hu5 := info29s v5 hv5.size
  have ho5 : zW.size = v5.size := hv5.size.symm
  have ha5 := all_one hv5.one
  have hz5 : (u5.alloc (.cells zW 29)).heap[u5.heap.size]? = some (.cells zW 29 (0, 0)) := heap_alloc_new u5 _
  have HB6 : Hid (Below w.heap.size w u5) := bel2 HB5.out hb5
  clear hv5 hb5 KG
  go_upto_region 7 with (refine wpList_store_row rfl 29 _ _ rfl u5.heap.size v5 rfl rfl 29 zW hz5 hu5 ho5 ha5 ?_)
  rw [World.setRow_alloc_new]
  have HB7 : Hid (Below w.heap.size w (u5.alloc (.cells v5 29))) := bel2 HB6.out (bel1 u5 _)
  generalize u5.alloc (.cells v5 29) = Wz at HB7 ⊢
  have KW : Hid (Calls Try.prog 18 #[] Wz _) := awake_calls Wz
  clear hz5 hu5 ho5 ha5
  go_wp2_with fail
  refine KW.out.mono ?_
  rintro e u6 ⟨rfl, hb6⟩
  have HB8 : Hid (Below w.heap.size w u6) := bel2 HB7.out hb6
  clear hb6
  go_wp2_with fail
  go_ret
  exact ⟨rfl, HB8.out⟩
theorem found_all {W : World} {a : Option Addr} {c n m : Nat} {l : List Wt} {cs : Array Value} {x : Wt} (hc : l.length ≤ c ∧ l.length ≤ 9223372036854775807) (hl : LsW W (n + 1) a l) (hs : ∀ y ∈ l, SmX (n + 1) y) (hi : IsW (Is W m) cs x) (hx : SmX m x) (op : Int) :
    Calls Try.prog 6 #[.slice a l.length c, .agg cs, .int .i64 op] W fun e w' => e = .returned (.bool true) ∧ Below W.heap.size W w' :=
  found_walk (n + m) a c l.length l rfl hc.1 hc.2 cs x op W (hl.up (by omega)) (fun y hy => (hs y hy).up (by omega)) (hi.up (by omega)) (hx.up (by omega))
end Go.Proofs.Ytocjgcjechhehaa
