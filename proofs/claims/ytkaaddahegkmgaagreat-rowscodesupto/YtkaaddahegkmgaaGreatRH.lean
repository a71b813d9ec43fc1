/- The contracts of Get and Events. -/
import Derived.Test.YtkaaddahegkmgaaGreatRG
namespace Go.Proofs.YtkaaddahegkmgaaGreat
open Go.ChangeShapes Go.WideShapes Go.ChangeAt Go.RowKit
theorem IsR.shape {P : Nat → Prop} {w : World} {v : Value} {r : Db} (h : IsR P w v r) : ∃ pu cu pb cb, v = .agg #[.slice pu r.rows.length cu, .slice pb r.brs.length cb] ∧ Sl rowE P w (.slice pu r.rows.length cu) r.rows ∧ Sl brE P w (.slice pb r.brs.length cb) r.brs := by
  obtain ⟨u, b, rfl, hu, hb⟩ := h
  obtain ⟨pu, cu, rfl, _⟩ := hu.shape
  obtain ⟨pb, cb, rfl, _⟩ := hb.shape
  exact ⟨_, _, _, _, rfl, hu, hb⟩
theorem cell_old (w : World) (a b : Obj) {j : Nat} {cs : Array Value} {t : TypeId} {v : Value} (ha : a = .cells cs t (0, 0)) (hj : cs[j]? = some v) : ((w.alloc a).alloc b).cell? ⟨w.heap.size, j, none⟩ = some v := by
  subst ha
  exact row_cell (old2 w _ b) hj
set_option maxHeartbeats 4000000 in
set_option maxRecDepth 100000 in
theorem Get_calls (v : Value) (r : Db) (k : ByteArray) (w : World) (hv : IsR (fun _ => True) w v r) (hs : SmD r) : Calls Tryz.prog 14 #[v, .string k] w (Gtrow r.rows k w) := by
  obtain ⟨pu, cu, pb, cb, rfl, hu, hb⟩ := hv.shape
  have HU : Hid (Sl rowE (fun _ => True) w (.slice pu r.rows.length cu) r.rows) := hu
  have HS : Hid (SmD r) := hs
  clear hu hb hs hv
  go_enter Tryz.func14, Tryz.ntmps14
  go_wp2_with fail
  have HA : Hid (Below w.heap.size w ((w.alloc (.cells #[.slice pu r.rows.length cu, .slice pb r.brs.length cb] 25)).alloc (.cells #[.string ⟨#[]⟩, .int .i64 0, .slice none 0 0] 47))) := bel2 (bel1 _ _) (bel1 _ _)
  have HO2 := new2 w (.cells #[.slice pu r.rows.length cu, .slice pb r.brs.length cb] 25) (.cells #[.string ⟨#[]⟩, .int .i64 0, .slice none 0 0] 47)
  generalize (w.alloc (.cells #[.slice pu r.rows.length cu, .slice pb r.brs.length cb] 25)).alloc (.cells #[.string ⟨#[]⟩, .int .i64 0, .slice none 0 0] 47) = w1 at HA HO2 ⊢
  refine (getrow_calls _ r.rows k w1 (HU.out.below HA.out) HS.out.r1).mono ?_
  have HL1 : Hid (w.heap.size + 1 < w1.heap.size) := lt_of_row HO2
  rintro e w2 ⟨⟨i, x, v2, hx, rfl, hv2⟩ | ⟨hno, rfl⟩, hb2⟩
  · obtain ⟨p2, c2, rfl, _⟩ := hv2.shape
    have r1 := row_below hb2 HO2
    have HR : Hid (w2.heap[w.heap.size + 1]? = _) := r1
    have z0 := row_cell r1 (j := 0) rfl
    have z1 := row_cell r1 (j := 1) rfl
    have z2 := row_cell r1 (j := 2) rfl
    have f1 := row_frozen r1
    have HB3 : Hid (Below w.heap.size w w2) := bel2 HA.out hb2
    have HV2 : Hid (HB (fun B => w1.heap.size ≤ B) w2 _ x.row) := hv2
    have HX : Hid (Fst (fun x : Rw => x.key) r.rows k i x) := hx
    clear hv2 hb2 r1 HO2 hx
    go_wp2_with fail
    refine bodyPost_ret (retRow_tmp Tryz.results14 _ rfl (set3 HR.out _ _ _)) rfl ?_
    have hz := HL1.out
    refine ⟨.inl ⟨i, x, _, HX.out, rfl, ?_⟩, ?_⟩
    · exact HV2.out.keep fun B hB _ => ⟨set_orow _ _ _ _ _ _ (fun e => by have hB' : w1.heap.size ≤ B := hB; omega), by have hB' : w1.heap.size ≤ B := hB; show w.heap.size ≤ B; omega⟩
    · repeat refine below_set ?_ (Nat.le_succ _)
      exact HB3.out
  · have r1 := row_below hb2 HO2
    have HR : Hid (w2.heap[w.heap.size + 1]? = _) := r1
    have z0 := row_cell r1 (j := 0) rfl
    have z1 := row_cell r1 (j := 1) rfl
    have z2 := row_cell r1 (j := 2) rfl
    have f1 := row_frozen r1
    have HB3 : Hid (Below w.heap.size w w2) := bel2 HA.out hb2
    clear hb2 r1 HO2
    go_wp2_with fail
    refine bodyPost_ret (retRow_tmp Tryz.results14 _ rfl (set3 HR.out _ _ _)) rfl ?_
    refine ⟨.inr ⟨hno, rfl⟩, ?_⟩
    repeat refine below_set ?_ (Nat.le_succ _)
    exact HB3.out
/-- What Events answers. -/
def EvP (xs : List Bn) (k : ByteArray) (w : World) (e : Ending) (w' : World) : Prop :=
  ((∃ (i : Nat) (x : Bn) (v' : Value), Fst (fun x : Bn => x.key) xs k i x ∧ e = .returned (.tuple #[v', .bool true]) ∧ Sl evE (fun B => w.heap.size ≤ B) w' v' x.ev) ∨ ((∀ y ∈ xs, y.key ≠ k) ∧ e = .returned (.tuple #[.slice none 0 0, .bool false]))) ∧ Below w.heap.size w w'
set_option maxHeartbeats 4000000 in
set_option maxRecDepth 100000 in
theorem Events_calls (v : Value) (r : Db) (k : ByteArray) (w : World) (hv : IsR (fun _ => True) w v r) (hs : SmD r) : Calls Tryz.prog 107 #[v, .string k] w (EvP r.brs k w) := by
  obtain ⟨pu, cu, pb, cb, rfl, hu, hb⟩ := hv.shape
  have HU : Hid (Sl brE (fun _ => True) w (.slice pb r.brs.length cb) r.brs) := hb
  have HS : Hid (SmD r) := hs
  clear hu hb hs hv
  go_enter Tryz.func107, Tryz.ntmps107
  go_wp2_with fail
  have HA : Hid (Below w.heap.size w (w.alloc (.cells #[.slice pu r.rows.length cu, .slice pb r.brs.length cb] 25))) := bel1 _ _
  generalize w.alloc (.cells #[.slice pu r.rows.length cu, .slice pb r.brs.length cb] 25) = w1 at HA ⊢
  refine (getbr_calls _ r.brs k w1 (HU.out.below HA.out) HS.out.b1).mono ?_
  rintro e w2 ⟨⟨i, x, v2, hx, rfl, hv2⟩ | ⟨hno, rfl⟩, hb2⟩
  · obtain ⟨p2, c2, rfl, _⟩ := hv2.shape
    have HB3 : Hid (Below w.heap.size w w2) := bel2 HA.out hb2
    have HV2 : Hid (Sl evE (fun B => w1.heap.size ≤ B) w2 _ x.ev) := hv2
    have HX : Hid (Fst (fun x : Bn => x.key) r.brs k i x) := hx
    clear hv2 hb2 hx
    go_wp2_with fail
    refine bodyPost_ret (results_tmp2 Tryz.results107 _) rfl ?_
    refine ⟨.inl ⟨i, x, _, HX.out, rfl, ?_⟩, bel2 HB3.out (bel1 _ _)⟩
    exact HV2.out.keep fun B hB hl => ⟨(bel1 w2 _).block B hl, Nat.le_trans HA.out.size hB⟩
  · have HB3 : Hid (Below w.heap.size w w2) := bel2 HA.out hb2
    clear hb2
    go_wp2_with fail
    refine bodyPost_ret (results_tmp2 Tryz.results107 _) rfl ?_
    exact ⟨.inr ⟨hno, rfl⟩, bel2 HB3.out (bel1 _ _)⟩
end Go.Proofs.YtkaaddahegkmgaaGreat
