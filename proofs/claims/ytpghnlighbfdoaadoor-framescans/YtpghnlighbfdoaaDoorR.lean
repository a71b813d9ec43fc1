/- The contract of the program's Scan. -/
import Derived.Test.YtpghnlighbfdoaaDoorQ
namespace Go.Proofs.YtpghnlighbfdoaaDoor
open Go.ChangeShapes Go.WideShapes Go.ChangeAt Go.RowKit
theorem Fs.shape {B : Nat} {w : World} {v : Value} {fs : List (UInt8 × List UInt8)} (h : Fs B w v fs) : ∃ a n c, v = .slice a n c := by
  obtain ⟨_, _, ⟨_, ⟨rfl, _⟩ | ⟨g, cap, cur, rfl, _⟩⟩, _⟩ := h
  · exact ⟨_, _, _, rfl⟩
  · exact ⟨_, _, _, rfl⟩
/-- The two variables that Scan's closure turns: the frames so far, and how many bytes these have. -/
structure Vs (B g h : Nat) (w : World) (fs : List (UInt8 × List UInt8)) : Prop where
  out : ∃ v, w.heap[g]? = some (.cells #[v] 33 (0, 0)) ∧ Fs B w v fs
  sum : w.heap[h]? = some (.cells #[.int .i64 ((wide fs : Nat) : Int)] 3 (0, 0))
set_option maxHeartbeats 4000000 in
set_option maxRecDepth 100000 in
theorem tell_calls (B g h : Nat) (w : World) (fs : List (UInt8 × List UInt8)) (k : UInt8) (p : List UInt8) (x : Value) (hV : Vs B g h w fs) (hx : Own B w x p) (hB : B ≤ w.heap.size) (hg : B ≤ g) (hh : B ≤ h) (hgh : g ≠ h) (hn : wide fs ≤ 1000000000) (hp : p.length ≤ 1048576) :
    Calls Tryd.prog 25 #[.agg #[.int .i64 (k.toNat : Int), x], .int .i64 ((9 + p.length : Nat) : Int), .pointer (some ⟨g, 0, none⟩), .pointer (some ⟨h, 0, none⟩)] w fun e w' => e = .returned (.tuple #[]) ∧ Vs B g h w' (fs ++ [(k, p)]) ∧ Below B w w' := by
  obtain ⟨⟨v, hgo, hF⟩, hso⟩ := hV
  have BA := below_alloc w (.cells #[.int .i64 (k.toNat : Int), x] 29)
  obtain ⟨v2, w2, hr2, hF2, hb2, hk2⟩ := fapp_run (k := k) (hF.below BA) (hx.below BA) (Nat.le_trans hB BA.size) (by have := wide_ge fs; omega)
  obtain ⟨a2, n2, d2, rfl⟩ := hF2.shape
  have hsz : (w.alloc (.cells #[.int .i64 (k.toNat : Int), x] 29)).heap.size = w.heap.size + 1 := by simp
  rw [hsz] at hr2
  have K2 : KT (fun t => t ≠ 29) w w2 := (KT.below BA).trans hk2
  have hB2 : Below B w w2 := (BA.mono hB).trans hb2
  have G2 := K2 g _ _ _ hgo (by decide)
  have H2 := K2 h _ _ _ hso (by decide)
  obtain ⟨xa, xc, rfl, _, _⟩ := hx.hb
  have c1 : (w.alloc (.cells #[.int .i64 (k.toNat : Int), .slice xa p.length xc] 29)).cell? ⟨g, 0, none⟩ = some v := by
    rw [cell_of_row _ g 0 #[v] 33 (0, 0) (KT.below (S := fun _ => True) BA g _ _ _ hgo trivial)]; rfl
  have c2 : w2.cell? ⟨g, 0, none⟩ = some v := by rw [cell_of_row _ g 0 #[v] 33 (0, 0) G2]; rfl
  have f2 : w2.frozen? ⟨g, 0, none⟩ = false := frozen_of_row w2 g 0 _ 33 G2
  have c3 : (w2.setCell ⟨g, 0, none⟩ (.slice a2 n2 d2)).cell? ⟨h, 0, none⟩ = some (.int .i64 ((wide fs : Nat) : Int)) := by
    rw [World.cell?_setCell_other _ _ _ _ (fun e => hgh (by injection e)), cell_of_row _ h 0 _ 3 (0, 0) H2]; rfl
  have f3 : (w2.setCell ⟨g, 0, none⟩ (.slice a2 n2 d2)).frozen? ⟨h, 0, none⟩ = false := by rw [World.frozen?_setCell]; exact frozen_of_row w2 h 0 _ 3 H2
  obtain ⟨m, hm⟩ : ∃ m, m = 9 + p.length := ⟨_, rfl⟩
  obtain ⟨W, hW⟩ : ∃ W, W = wide fs := ⟨_, rfl⟩
  have HW2 : Hid (wide (fs ++ [(k, p)]) = W + m) := by show _ = _; rw [wide_append, hW, hm]; simp [wide]
  rw [← hW] at c3 H2
  rw [← hm]
  have hWb : (W : Int) ≤ 1000000000 := by omega
  have hmb : (m : Int) ≤ 1048585 := by omega
  have HH2 : Hid (w2.heap[h]? = _) := H2
  have HG2 : Hid (w2.heap[g]? = _) := G2
  have HF2 : Hid (Fs B w2 (.slice a2 n2 d2) (fs ++ [(k, p)])) := hF2
  have HB2 : Hid (Below B w w2) := hB2
  have HGH : Hid (g ≠ h ∧ B ≤ g ∧ B ≤ h) := ⟨hgh, hg, hh⟩
  clear hk2 hb2 K2 G2 H2 hF2 hB2 hF hgo hso BA hx hsz hm hW hn hp hB hg hh
  go_enter Tryd.func25, Tryd.ntmps25
  go_wp2_with (at_builtin; refine Lib.wpList_append_run _ rfl _ _ 33 33 rfl _ _ rfl rfl _ _ (hr2 _) ?_)
  go_end0
  have G3 := heap_setCell_same w2 g 0 #[v] 33 (.slice a2 n2 d2) HG2.out
  have H3 : (w2.setCell ⟨g, 0, none⟩ (.slice a2 n2 d2)).heap[h]? = some (.cells #[.int .i64 (W : Int)] 3 (0, 0)) := by rw [Below.heap_setCell _ _ _ _ (fun e => HGH.out.1 e.symm)]; exact HH2.out
  refine ⟨rfl, ⟨⟨.slice a2 n2 d2, ?_, ?_⟩, ?_⟩, ?_⟩
  · rw [Below.heap_setCell _ _ _ _ HGH.out.1]
    exact G3
  · have k1 : KT (fun t => t ≠ 33 ∧ t ≠ 3) w2 (w2.setCell ⟨g, 0, none⟩ (.slice a2 n2 d2)) := (KT.set HG2.out 0 _).mono (fun t ht => ht.1)
    have k2 : KT (fun t => t ≠ 33 ∧ t ≠ 3) (w2.setCell ⟨g, 0, none⟩ (.slice a2 n2 d2)) ((w2.setCell ⟨g, 0, none⟩ (.slice a2 n2 d2)).setCell ⟨h, 0, none⟩ (.int .i64 ((W : Int) + (m : Int)))) := (KT.set H3 0 _).mono (fun t ht => ht.2)
    exact HF2.out.kt (k1.trans k2) (by decide) (by decide)
  · have := heap_setCell_same (w2.setCell ⟨g, 0, none⟩ (.slice a2 n2 d2)) h 0 #[.int .i64 (W : Int)] 3 (.int .i64 ((W : Int) + (m : Int))) H3
    rw [HW2.out, Int.natCast_add]
    exact this
  · exact (HB2.out.setCell (p := ⟨g, 0, none⟩) HGH.out.2.1 _).setCell (p := ⟨h, 0, none⟩) HGH.out.2.2 _
theorem Vs.below {B g h : Nat} {w w' : World} {fs : List (UInt8 × List UInt8)} (hV : Vs B g h w fs) (hb : Below w.heap.size w w') : Vs B g h w' fs := by
  obtain ⟨⟨v, hgo, hF⟩, hso⟩ := hV
  exact ⟨⟨v, KT.below (S := fun _ => True) hb g _ _ _ hgo trivial, hF.below hb⟩, KT.below (S := fun _ => True) hb h _ _ _ hso trivial⟩
def slen : Value → Nat
  | .slice _ n _ => n
  | _ => 0
set_option maxHeartbeats 4000000 in
set_option maxRecDepth 100000 in
theorem each_calls (g h : Nat) (w0 w : World) (v : Value) (l : List UInt8) (hv : Hb w0 v l) (hl : l.length ≤ 1000000000) (ht : Tb w0) (hb : Below w0.heap.size w0 w) (hV : Vs w0.heap.size g h w []) (hg : w0.heap.size ≤ g) (hh : w0.heap.size ≤ h) (hgh : g ≠ h) :
    Calls Tryd.prog 24 #[v, .func (.func 25) #[] #[.pointer (some ⟨g, 0, none⟩), .pointer (some ⟨h, 0, none⟩)]] w fun e w' => e = .returned (.tuple #[]) ∧ Vs w0.heap.size g h w' (scanL l) ∧ Below w0.heap.size w0 w' := by
  have HV0 : Hid (Vs w0.heap.size g h w []) := hV
  have HB0 : Hid (Below w0.heap.size w0 w) := hb
  have HT : Hid (Tb w0) := ht
  have HL : Hid (l.length ≤ 1000000000) := hl
  have HG : Hid (w0.heap.size ≤ g ∧ w0.heap.size ≤ h ∧ g ≠ h) := ⟨hg, hh, hgh⟩
  have HV : Hid (Hb w0 v l) := hv
  clear hV hb ht hl hg hh hgh hv
  go_enter Tryd.func24, Tryd.ntmps24
  go_wp2_with fail
  go_loopw [0] (fun b wr => ∃ (acc : List (UInt8 × List UInt8)) (j : Nat), Hid (j ≤ l.length) ∧ Hid (Hb w0 b (l.drop j)) ∧ Hid (Vs w0.heap.size g h wr acc) ∧ Hid (scanL l = acc ++ scanL (l.drop j)) ∧ Hid (wide acc = j) ∧ Hid (Below w0.heap.size w0 wr)) (fun b _ => slen b)
  case atStart => exact ⟨[], 0, Nat.zero_le _, HV, HV0, rfl, rfl, HB0⟩
  case round =>
    obtain ⟨acc, j, HJ, HB, HVs, HS, HW, HBl⟩ := hrel
    have NC : Hid (Calls Tryd.prog 12 #[u0] wr (NX wr (nextL (l.drop j)))) := next_calls u0 (l.drop j) wr (HB.out.below HBl.out) (HT.out.below HBl.out) (by have := HL.out; simp; omega)
    go_wp2_with fail
    refine NC.out.mono ?_
    intro e w1 hN
    cases hn : nextL (l.drop j) with
    | bad cd =>
      rw [hn] at hN
      obtain ⟨rfl, hb1⟩ := hN
      have HE : Hid (scanL l = acc) := by show _ = _; rw [HS.out, scanL_bad hn, List.append_nil]
      have hcd : (cd != 0) = true := nextL_bad hn
      have HB1 : Hid (Below w0.heap.size w0 w1) := HBl.out.trans (hb1.mono HBl.out.size)
      have HV1 : Hid (Vs w0.heap.size g h w1 acc) := HVs.out.below hb1
      clear hb1 hn
      go_wp2_with fail
      refine bodyPost_ret (results_none rfl _ _ _) rfl ?_
      rw [HE.out]
      exact ⟨rfl, HV1.out.below (below_alloc w1 _), HB1.out.alloc HB1.out.size _⟩
    | ok k q =>
      rw [hn] at hN
      obtain ⟨x, rfl, hx, hb1⟩ := hN
      obtain ⟨hk1, hk2⟩ := nextL_ok hn
      have hlen : (l.drop j).length = l.length - j := by simp
      have HE : Hid (scanL l = (acc ++ [(k, q)]) ++ scanL (l.drop (j + (9 + q.length)))) := by
        show _ = _
        rw [HS.out, scanL_ok hn, List.drop_drop, List.append_assoc]
        rfl
      have HW2 : Hid (wide (acc ++ [(k, q)]) = j + (9 + q.length)) := by show _ = _; rw [wide_append, HW.out]; simp [wide]
      have HJ2 : Hid (j + (9 + q.length) ≤ l.length) := by show _ ≤ _; have := HJ.out; omega
      have HB1 : Hid (Below w0.heap.size w0 w1) := HBl.out.trans (hb1.mono HBl.out.size)
      have HV1 : Hid (Vs w0.heap.size g h w1 acc) := HVs.out.below hb1
      have HX1 : Hid (Own w0.heap.size w1 x q) := hx.lower HBl.out.size
      obtain ⟨xa, xc, rfl, _, _⟩ := hx.hb
      have BA := below_alloc w1 (.cells #[.int .i64 (k.toNat : Int), .slice xa q.length xc] 29)
      have HB2 : Hid (Below w0.heap.size w0 (w1.alloc (.cells #[.int .i64 (k.toNat : Int), .slice xa q.length xc] 29))) := HB1.out.alloc HB1.out.size _
      have TC : Hid (Calls Tryd.prog 25 #[.agg #[.int .i64 (k.toNat : Int), .slice xa q.length xc], .int .i64 ((9 + q.length : Nat) : Int), .pointer (some ⟨g, 0, none⟩), .pointer (some ⟨h, 0, none⟩)] (w1.alloc (.cells #[.int .i64 (k.toNat : Int), .slice xa q.length xc] 29)) _) :=
        tell_calls w0.heap.size g h _ acc k q _ (HV1.out.below BA) (HX1.out.below BA) HB2.out.size HG.out.1 HG.out.2.1 HG.out.2.2 (by have := HW.out; have := HJ.out; have := HL.out; omega) hk2
      obtain ⟨y, ey, qy⟩ := cut_l (9 + q.length) HB.out hk1
      have HY : Hid (Hb w0 y (l.drop (j + (9 + q.length)))) := by
        have := qy w0 HB.out
        rwa [List.drop_drop] at this
      have HM : Hid (slen y < slen u0) := by
        show _ < _
        obtain ⟨a1, c1, e1, _, _⟩ := HY.out
        obtain ⟨a2, c2, e2, _, _⟩ := HB.out
        rw [e1, e2]
        simp only [slen, List.length_drop]
        omega
      have ey2 : ∀ W, (Instr.slice 22 u0 (some (.int .i64 (9 + (q.length : Int)))) none none).run Tryd.prog W = .ok y W := fun W => by
        have h := ey W
        rwa [show ((9 + q.length : Nat) : Int) = 9 + (q.length : Int) by omega] at h
      clear hb1 hn hx hk1 hk2 hlen BA qy
      go_wp2_with fail
      refine TC.out.mono ?_
      rintro e w2 ⟨rfl, hV2, hb2⟩
      have HV2 : Hid (Vs w0.heap.size g h w2 (acc ++ [(k, q)])) := hV2
      have HB3 : Hid (Below w0.heap.size w0 w2) := HB2.out.trans hb2
      clear hV2 hb2
      go_wp2_with fail
      exact ⟨⟨acc ++ [(k, q)], j + (9 + q.length), HJ2, HY, HV2, HE, HW2, HB3⟩, HM.out⟩
set_option maxHeartbeats 4000000 in
set_option maxRecDepth 100000 in
theorem scan_calls (v : Value) (l : List UInt8) (w : World) (hv : Hb w v l) (hl : l.length ≤ 1000000000) (ht : Tb w) : Calls Tryd.prog 14 #[v] w (SX w (scanL l)) := by
  have B2 : Below w.heap.size w ((w.alloc (Obj.cells #[.slice none 0 0] 33)).alloc (Obj.cells #[.int .i64 0] 3)) := below_step (below_alloc _ _) (below_alloc _ _)
  have V2 : Vs w.heap.size w.heap.size (w.heap.size + 1) ((w.alloc (Obj.cells #[.slice none 0 0] 33)).alloc (Obj.cells #[.int .i64 0] 3)) [] := by
    refine ⟨⟨.slice none 0 0, ?_, Fs.nil _ _⟩, ?_⟩
    · rw [Below.heap_alloc _ _ _ (by simp)]
      exact heap_last w _
    · have := heap_last (w.alloc (Obj.cells #[.slice none 0 0] 33)) (Obj.cells #[.int .i64 0] 3)
      have e : (w.alloc (Obj.cells #[.slice none 0 0] 33)).heap.size = w.heap.size + 1 := by simp
      rw [e] at this
      exact this
  have EC : Hid (Calls Tryd.prog 24 _ _ _) := each_calls w.heap.size (w.heap.size + 1) w _ v l hv hl ht B2 V2 (Nat.le_refl _) (by omega) (by omega)
  clear B2 V2
  go_enter Tryd.func14, Tryd.ntmps14
  go_wp2_with fail
  refine EC.out.mono ?_
  rintro e w1 ⟨rfl, ⟨⟨u, hgo, hF⟩, hso⟩, hb⟩
  have c0 : w1.cell? ⟨w.heap.size, 0, none⟩ = some u := by rw [cell_of_row _ _ 0 #[u] 33 (0, 0) hgo]; rfl
  have c1 : w1.cell? ⟨w.heap.size + 1, 0, none⟩ = some (.int .i64 ((wide (scanL l) : Nat) : Int)) := by rw [cell_of_row _ _ 0 _ 3 (0, 0) hso]; rfl
  obtain ⟨ua, un, uc, rfl⟩ := hF.shape
  have HF : Hid (Fs w.heap.size w1 (.slice ua un uc) (scanL l)) := hF
  have HB : Hid (Below w.heap.size w w1) := hb
  clear hF hb hgo hso
  go_wp2_with fail
  go_quiet (fail)
  go_wp2_with fail
  go_ret2
  exact ⟨_, rfl, HF.out, below_step HB.out (belN _ _)⟩
end Go.Proofs.YtpghnlighbfdoaaDoor
