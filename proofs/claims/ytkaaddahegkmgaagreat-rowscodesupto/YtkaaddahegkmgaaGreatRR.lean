/- The contract of Apply. -/
import Derived.Test.YtkaaddahegkmgaaGreatRQ
namespace Go.Proofs.YtkaaddahegkmgaaGreat
open Go.ChangeShapes Go.WideShapes Go.ChangeAt Go.RowKit
theorem old3 (w : World) (a b c : Obj) : (((w.alloc a).alloc b).alloc c).heap[w.heap.size]? = some a := row_below (bel1 _ _) (old2 w a b)
theorem mid3 (w : World) (a b c : Obj) : (((w.alloc a).alloc b).alloc c).heap[w.heap.size + 1]? = some b := row_below (bel1 _ _) (new2 w a b)
theorem new3 (w : World) (a b c : Obj) : (((w.alloc a).alloc b).alloc c).heap[w.heap.size + 2]? = some c := by
  have := heap_alloc_last ((w.alloc a).alloc b) c
  simpa using this
theorem retDb_tmp {fn : Func} {p q : Tmp} (h : fn.results = #[.cell p 25, .tmp q]) (tmps : Array Value) {w : World} {g : Nat} {a b : Value} (hp : tmps.getD p undef = .pointer (some ⟨g, 0, none⟩)) (hg : w.heap[g]? = some (.cells #[a, b] 25 (0, 0))) :
    (results fn tmps).run Tryz.prog w = .ok (.tuple #[.agg #[a, b], tmps.getD q undef]) w := by
  have hp' : tmps[p]?.getD undef = .pointer (some ⟨g, 0, none⟩) := by simpa using hp
  simp [results, h, hp', asAddr, run_loadVar_row w g 25 25 #[a, b] (0, 0) _ hg Tryz.underlying25 rfl size25]
/-- What Apply answers. -/
def ApP (r : Db) (b : Bt) (w : World) (e : Ending) (w' : World) : Prop :=
  ((∃ c : Int, c ≠ 0 ∧ (mayB b = true → ¬ VerIs r.rows b.key b.ex → c = 11) ∧ (mayB b = true → VerIs r.rows b.key b.ex → b.ws ≠ []) ∧ ∃ u' b', e = .returned (.tuple #[.agg #[u', b'], .int .i64 c]) ∧ OwnD w.heap.size w' u' b' r) ∨
    (mayB b = true ∧ VerIs r.rows b.key b.ex ∧ ∃ u' b' r', e = .returned (.tuple #[.agg #[u', b'], .int .i64 0]) ∧ OwnD w.heap.size w' u' b' r' ∧ Pt (fun x : Rw => x.key) ⟨b.key, b.ex + 1, b.row⟩ r.rows r'.rows ∧ Puts r.brs b.ws r'.brs ∧ SmD r')) ∧ Below w.heap.size w w'
set_option maxHeartbeats 8000000 in
set_option maxRecDepth 100000 in
theorem apply_calls (v bv : Value) (r : Db) (b : Bt) (w : World) (hv : IsR (fun _ => True) w v r) (hs : SmD r) (hb : BtS (fun _ => True) w bv b) (hrow : b.row.length ≤ 70368744177664) (hr : r.rows.length ≤ 450) (hbr : r.brs.length ≤ 450) : Calls Tryz.prog 13 #[v, bv] w (ApP r b w) := by
  obtain ⟨pu, cu, pb, cb, rfl, _, _⟩ := hv.shape
  have hb0 := hb
  obtain ⟨vr, vw, rfl, hbr0, hbw⟩ := hb
  obtain ⟨rp, rc, rfl, _⟩ := hbr0.shape
  obtain ⟨wa, wk, rfl, _⟩ := hbw.shape
  have HV : Hid (IsR (fun B => B < w.heap.size) w (.agg #[.slice pu r.rows.length cu, .slice pb r.brs.length cb]) r) := hv.keep fun B _ hl => ⟨rfl, hl⟩
  have HBT : Hid (BtS (fun B => B < w.heap.size) w (.agg #[.string b.key, .int .i64 b.ex, .slice rp b.row.length rc, .slice wa b.ws.length wk]) b) := hb0.keep fun B _ hl => ⟨rfl, hl⟩
  have HS : Hid (SmD r) := hs
  have HN : Hid (b.row.length ≤ 70368744177664 ∧ r.rows.length ≤ 450 ∧ r.brs.length ≤ 450) := ⟨hrow, hr, hbr⟩
  clear hv hs hb0 hbr0 hbw hrow hr hbr
  go_enter Tryz.func13, Tryz.ntmps13
  go_wp2_with fail
  have HA : Hid (Below w.heap.size w (((w.alloc (.cells #[.slice pu r.rows.length cu, .slice pb r.brs.length cb] 25)).alloc (.cells #[.string b.key, .int .i64 b.ex, .slice rp b.row.length rc, .slice wa b.ws.length wk] 42)).alloc (.cells #[.slice none 0 0, .slice none 0 0] 25))) := bel2 (bel2 (bel1 _ _) (bel1 _ _)) (bel1 _ _)
  have O1 := old3 w (.cells #[.slice pu r.rows.length cu, .slice pb r.brs.length cb] 25) (.cells #[.string b.key, .int .i64 b.ex, .slice rp b.row.length rc, .slice wa b.ws.length wk] 42) (.cells #[.slice none 0 0, .slice none 0 0] 25)
  have O2 := mid3 w (.cells #[.slice pu r.rows.length cu, .slice pb r.brs.length cb] 25) (.cells #[.string b.key, .int .i64 b.ex, .slice rp b.row.length rc, .slice wa b.ws.length wk] 42) (.cells #[.slice none 0 0, .slice none 0 0] 25)
  have O3 := new3 w (.cells #[.slice pu r.rows.length cu, .slice pb r.brs.length cb] 25) (.cells #[.string b.key, .int .i64 b.ex, .slice rp b.row.length rc, .slice wa b.ws.length wk] 42) (.cells #[.slice none 0 0, .slice none 0 0] 25)
  generalize ((w.alloc (.cells #[.slice pu r.rows.length cu, .slice pb r.brs.length cb] 25)).alloc (.cells #[.string b.key, .int .i64 b.ex, .slice rp b.row.length rc, .slice wa b.ws.length wk] 42)).alloc (.cells #[.slice none 0 0, .slice none 0 0] 25) = w1 at HA O1 O2 O3 ⊢
  have HL1 : Hid (w.heap.size + 2 < w1.heap.size) := lt_of_row O3
  refine (cloneRows_calls _ r w1 ((HV.out.below HA.out).keep (fun B hB hl => ⟨rfl, trivial⟩)) HS.out).mono ?_
  rintro e w2 ⟨u2, b2, rfl, hd2, hb2⟩
  obtain ⟨pu2, cu2, rfl, _⟩ := hd2.rows.shape
  obtain ⟨pb2, cb2, rfl, _⟩ := hd2.brs.shape
  have hb3 : Below w1.heap.size w1 (w2.alloc (.cells #[.slice pu2 r.rows.length cu2, .slice pb2 r.brs.length cb2] 25)) := bel2 hb2 (bel1 _ _)
  have CH : Hid (Calls Tryz.prog 37 #[.pointer (some ⟨w2.heap.size, 0, none⟩), .agg #[.string b.key, .int .i64 b.ex, .slice rp b.row.length rc, .slice wa b.ws.length wk]] (w2.alloc (.cells #[.slice pu2 r.rows.length cu2, .slice pb2 r.brs.length cb2] 25)) _) :=
    change_calls w1.heap.size w1.heap.size w2.heap.size _ _ _ r b _ (heap_alloc_last w2 _) ⟨Nat.le_refl _, hb2.size⟩ ((hd2.toP (Nat.le_refl _)).below (bel1 _ _)) hb3.size (((HBT.out.keep (P' := fun B => B < w1.heap.size) (fun B hB _ => ⟨rfl, by have := HL1.out; omega⟩)).below (bel2 HA.out hb3))) HS.out HN.out.1 HN.out.2.1 HN.out.2.2
  have r1 := row_below hb2 O1
  have r2 := row_below hb2 O2
  have a0 := row_cell r1 (j := 0) rfl
  have a1 := row_cell r1 (j := 1) rfl
  have c0 := row_cell (row_below hb3 O2) (j := 0) rfl
  have c1 := row_cell (row_below hb3 O2) (j := 1) rfl
  have c2 := row_cell (row_below hb3 O2) (j := 2) rfl
  have c3 := row_cell (row_below hb3 O2) (j := 3) rfl
  have HR1 : Hid (w1.heap[w.heap.size]? = _ ∧ w1.heap[w.heap.size + 2]? = _) := ⟨O1, O3⟩
  have HB3 : Hid (Below w1.heap.size w1 _) := hb3
  clear O1 O2 O3 r1 r2 hd2 hb2 hb3
  go_wp2_with fail
  refine CH.out.mono ?_
  rintro e w4 ⟨hres, hb4⟩
  have HB4 : Hid (Below w1.heap.size w1 w4) := HB3.out.trans hb4
  have s1 := row_below HB4.out HR1.out.1
  have s3 := row_below HB4.out HR1.out.2
  have HS3 : Hid (w4.heap[w.heap.size + 2]? = _) := s3
  have d0 := row_cell s1 (j := 0) rfl
  have d1 := row_cell s1 (j := 1) rfl
  have y0 := row_cell s3 (j := 0) rfl
  have y1 := row_cell s3 (j := 1) rfl
  have yf := row_frozen s3
  have key : (∃ c : Int, c ≠ 0 ∧ (mayB b = true → ¬ VerIs r.rows b.key b.ex → c = 11) ∧ (mayB b = true → VerIs r.rows b.key b.ex → b.ws ≠ []) ∧ e = .returned (.int .i64 c)) ∨ (mayB b = true ∧ VerIs r.rows b.key b.ex ∧ e = .returned (.int .i64 0) ∧ ∃ u' b' r', w4.heap[w2.heap.size]? = some (.cells #[u', b'] 25 (0, 0)) ∧ OwnP w1.heap.size w2.heap.size w4 u' b' r' ∧ Pt (fun x : Rw => x.key) ⟨b.key, b.ex + 1, b.row⟩ r.rows r'.rows ∧ Puts r.brs b.ws r'.brs ∧ SmD r') := by
    rcases hres with ⟨hm, rfl⟩ | ⟨hm, hve, rfl⟩ | ⟨hm, hve, hws, c, hc, rfl⟩ | h
    · exact .inl ⟨1, by decide, (fun h => by rw [hm] at h; cases h), (fun h => by rw [hm] at h; cases h), rfl⟩
    · exact .inl ⟨11, by decide, (fun _ _ => rfl), (fun _ h => absurd h hve), rfl⟩
    · exact .inl ⟨c, hc, (fun _ h => absurd hve h), (fun _ _ => hws), rfl⟩
    · exact .inr h
  clear hres hb4 s1 s3 c0 c1 c2 c3 a0 a1
  rcases key with ⟨c, hc, hc11, hcw, rfl⟩ | ⟨hm, hve, rfl, u5, b5, r5, hp5, hd5, hpt, hps, hsm⟩
  · have hc0 : (c == 0) = false := by simpa using hc
    have CC : Hid (Calls Tryz.prog 36 _ w4 _) := cloneRows_calls _ r w4 ((HV.out.keep (w' := w4) (P' := fun _ => True) (fun B hB _ => ⟨(HA.out.trans (HB4.out.mono (by have := HL1.out; omega))).block B hB, trivial⟩))) HS.out
    go_wp2_with fail
    refine CC.out.mono ?_
    rintro e w6 ⟨u6, b6, rfl, hd6, hb6⟩
    obtain ⟨pu6, cu6, rfl, _⟩ := hd6.rows.shape
    obtain ⟨pb6, cb6, rfl, _⟩ := hd6.brs.shape
    have s6 := row_below hb6 HS3.out
    have HS6 : Hid (w6.heap[w.heap.size + 2]? = _) := s6
    have z0 := row_cell s6 (j := 0) rfl
    have z1 := row_cell s6 (j := 1) rfl
    have zf := row_frozen s6
    have HD6 : Hid (OwnD w4.heap.size w6 _ _ r) := hd6
    have HB6 : Hid (Below w.heap.size w w6) := bel2 (HA.out.trans (HB4.out.mono (by have := HL1.out; omega))) hb6
    have HZ : Hid (w.heap.size + 2 < w4.heap.size) := lt_of_row HS3.out
    clear hd6 hb6 s6 y0 y1 yf d0 d1
    go_wp2_with fail
    refine bodyPost_ret (retDb_tmp Tryz.results13 _ rfl (set2 HS6.out _ _)) rfl ?_
    have hz := HZ.out
    exact ⟨.inl ⟨c, hc, hc11, hcw, _, _, rfl, ((HD6.out.keep (fun B hB _ => set_other2 w6 _ _ (fun e => by omega))).lo (by omega))⟩, below_set (below_set HB6.out (by omega)) (by omega)⟩
  · obtain ⟨pu5, cu5, rfl, _⟩ := hd5.rows.shape
    obtain ⟨pb5, cb5, rfl, _⟩ := hd5.brs.shape
    have q0 := row_cell hp5 (j := 0) rfl
    have q1 := row_cell hp5 (j := 1) rfl
    have HD5 : Hid (OwnP w1.heap.size w2.heap.size w4 _ _ r5) := hd5
    have HX : Hid (Pt (fun x : Rw => x.key) ⟨b.key, b.ex + 1, b.row⟩ r.rows r5.rows ∧ Puts r.brs b.ws r5.brs ∧ SmD r5) := ⟨hpt, hps, hsm⟩
    have HB5 : Hid (Below w.heap.size w w4) := HA.out.trans (HB4.out.mono (by have := HL1.out; omega))
    clear hp5 hd5 hpt hps hsm d0 d1
    go_wp2_with fail
    refine bodyPost_ret (retDb_tmp Tryz.results13 _ rfl (set2 HS3.out _ _)) rfl ?_
    have hz := HL1.out
    exact ⟨.inr ⟨hm, hve, _, _, r5, rfl, ((HD5.out.isD.keep (fun B hB _ => set_other2 w4 _ _ (fun e => by omega))).lo (by omega)), HX.out.1, HX.out.2.1, HX.out.2.2⟩, below_set (below_set HB5.out (by omega)) (by omega)⟩
end Go.Proofs.YtkaaddahegkmgaaGreat
