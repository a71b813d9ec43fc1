/- The contracts of keyOf, clone, cloneAll, cloneRows. -/
import Derived.Test.YtkaaddahegkmgaaRC
namespace Go.Proofs.Ytkaaddahegkmgaa
open Go.ChangeShapes Go.WideShapes Go.ChangeAt Go.RowKit
theorem ta96 (p : Value) (w : World) : (Instr.typeAssert (.iface 96 p) 20 96 true).run Try.prog w = .ok (.tuple #[p, .bool true]) w := by
  simp [Instr.typeAssert, run_underlying Try.underlying96]
theorem ta98 (p : Value) (w : World) : (Instr.typeAssert (.iface 98 p) 20 98 true).run Try.prog w = .ok (.tuple #[p, .bool true]) w := by
  simp [Instr.typeAssert, run_underlying Try.underlying98]
theorem ta9n (p : Value) (w : World) : (Instr.typeAssert (.iface 98 p) 20 96 true).run Try.prog w = .ok (.tuple #[.pointer none, .bool false]) w := by
  have h : (Try.prog.info? 96).map (·.zero) = some (some (.pointer none)) := by kernel_rfl
  obtain ⟨j, hj, hz⟩ := Option.map_eq_some_iff.1 h
  simp [Instr.typeAssert, run_underlying Try.underlying96, typeInfo, zeroValue, hj, hz]
set_option maxRecDepth 100000 in
theorem keyRow_calls (w : World) (B o : Nat) (k : ByteArray) (h : w.cell? ⟨B, o, none⟩ = some (.string k)) : Calls Try.prog 90 #[.pointer (some ⟨B, o, none⟩)] w fun e w' => e = .returned (.string k) ∧ w' = w := by
  go_enter Try.func90, Try.ntmps90
  go_wp2_with (simp only [ta96])
  go_ret
  exact ⟨rfl, rfl⟩
set_option maxRecDepth 100000 in
theorem keyBr_calls (w : World) (B o : Nat) (k : ByteArray) (h : w.cell? ⟨B, o, none⟩ = some (.string k)) : Calls Try.prog 86 #[.pointer (some ⟨B, o, none⟩)] w fun e w' => e = .returned (.string k) ∧ w' = w := by
  go_enter Try.func86, Try.ntmps86
  go_wp2_with (simp only [ta98, ta9n])
  go_ret
  exact ⟨rfl, rfl⟩
theorem row_cell {w : World} {g j t : Nat} {cs : Array Value} {fr : Nat × Nat} {v : Value} (h : w.heap[g]? = some (.cells cs t fr)) (hj : cs[j]? = some v) : w.cell? ⟨g, j, none⟩ = some v := by
  rw [cell_of_row w g j cs t fr h]
  exact hj
theorem old2 (w : World) (a b : Obj) : ((w.alloc a).alloc b).heap[w.heap.size]? = some a := row_below (bel1 _ _) (heap_alloc_last w a)
theorem new2 (w : World) (a b : Obj) : ((w.alloc a).alloc b).heap[w.heap.size + 1]? = some b := by
  have := heap_alloc_last (w.alloc a) b
  simpa using this
theorem set3 {w : World} {g t : Nat} {x y z : Value} {fz : Nat × Nat} (h : w.heap[g]? = some (.cells #[x, y, z] t fz)) (a b c : Value) : (((w.setCell ⟨g, 0, none⟩ a).setCell ⟨g, 1, none⟩ b).setCell ⟨g, 2, none⟩ c).heap[g]? = some (.cells #[a, b, c] t fz) := by
  simp [World.setCell, Array.getElem?_modify, h]
theorem set2 {w : World} {g t : Nat} {x y : Value} {fz : Nat × Nat} (h : w.heap[g]? = some (.cells #[x, y] t fz)) (a b : Value) : ((w.setCell ⟨g, 0, none⟩ a).setCell ⟨g, 1, none⟩ b).heap[g]? = some (.cells #[a, b] t fz) := by
  simp [World.setCell, Array.getElem?_modify, h]
theorem size37 : (Try.prog.info? 37).map (·.size) = some 3 := by kernel_rfl
theorem size56 : (Try.prog.info? 56).map (·.size) = some 2 := by kernel_rfl
theorem ret_row {fn : Func} {p : Tmp} (h : fn.results = #[.cell p 37]) (tmps : Array Value) {w : World} {g : Nat} {x y z : Value} (hp : tmps.getD p undef = .pointer (some ⟨g, 0, none⟩)) (hg : w.heap[g]? = some (.cells #[x, y, z] 37 (0, 0))) (a b c : Value) :
    (results fn tmps).run Try.prog (((w.setCell ⟨g, 0, none⟩ a).setCell ⟨g, 1, none⟩ b).setCell ⟨g, 2, none⟩ c) = .ok (.agg #[a, b, c]) (((w.setCell ⟨g, 0, none⟩ a).setCell ⟨g, 1, none⟩ b).setCell ⟨g, 2, none⟩ c) :=
  results_cell_row h tmps _ g 37 #[a, b, c] (0, 0) _ hp (set3 hg a b c) Try.underlying37 rfl size37
theorem ret_br {fn : Func} {p : Tmp} (h : fn.results = #[.cell p 56]) (tmps : Array Value) {w : World} {g : Nat} {x y : Value} (hp : tmps.getD p undef = .pointer (some ⟨g, 0, none⟩)) (hg : w.heap[g]? = some (.cells #[x, y] 56 (0, 0))) (a b : Value) :
    (results fn tmps).run Try.prog ((w.setCell ⟨g, 0, none⟩ a).setCell ⟨g, 1, none⟩ b) = .ok (.agg #[a, b]) ((w.setCell ⟨g, 0, none⟩ a).setCell ⟨g, 1, none⟩ b) :=
  results_cell_row h tmps _ g 56 #[a, b] (0, 0) _ hp (set2 hg a b) Try.underlying56 rfl size56
/-- A box of the call's own is set: all that is older stays. -/
theorem below_set {lo g o : Nat} {w w' : World} {v : Value} (h : Below lo w w') (hg : lo ≤ g) : Below lo w (w'.setCell ⟨g, o, none⟩ v) := h.setCell (p := ⟨g, o, none⟩) hg _
theorem HB.set {lo : Nat} {P : Nat → Prop} {w : World} {u v : Value} {l : List UInt8} {g o : Nat} (h : HB P w v l) (hP : ∀ B, P B → lo ≤ B) (hg : g < lo) : HB P (w.setCell ⟨g, o, none⟩ u) v l :=
  h.keep fun B hB _ => ⟨Below.heap_setCell _ _ _ _ (fun e => by have := hP B hB; have e2 : B = g := e; omega), hB⟩
set_option maxHeartbeats 1000000 in
set_option maxRecDepth 100000 in
theorem cloneRow_calls (x : Rw) (v : Value) (w : World) (hv : HB (fun _ => True) w v x.row) (hl : x.row.length ≤ 70368744177664) :
    Calls Try.prog 56 #[.agg #[.string x.key, .int .i64 x.ver, v]] w fun e w' => (∃ v', e = .returned (.agg #[.string x.key, .int .i64 x.ver, v']) ∧ HB (fun B => w.heap.size ≤ B) w' v' x.row) ∧ Below w.heap.size w w' := by
  obtain ⟨key, ver, row⟩ := x
  dsimp only at hv hl ⊢
  obtain ⟨p, c, rfl, _⟩ := hv.shape
  have HV : Hid (HB (fun _ => True) w (.slice p row.length c) row) := hv
  have HL : Hid (row.length ≤ 70368744177664) := hl
  clear hv hl
  go_enter Try.func56, Try.ntmps56
  go_wp2_with (simp only [ta96])
  have HA : Hid (Below w.heap.size w ((w.alloc (.cells #[.string key, .int .i64 ver, .slice p row.length c] 37)).alloc (.cells #[.string ⟨#[]⟩, .int .i64 0, .slice none 0 0] 37))) := bel2 (bel1 _ _) (bel1 _ _)
  have HO := old2 w (.cells #[.string key, .int .i64 ver, .slice p row.length c] 37) (.cells #[.string ⟨#[]⟩, .int .i64 0, .slice none 0 0] 37)
  have HO2 := new2 w (.cells #[.string key, .int .i64 ver, .slice p row.length c] 37) (.cells #[.string ⟨#[]⟩, .int .i64 0, .slice none 0 0] 37)
  generalize (w.alloc (.cells #[.string key, .int .i64 ver, .slice p row.length c] 37)).alloc (.cells #[.string ⟨#[]⟩, .int .i64 0, .slice none 0 0] 37) = w1 at HA HO HO2 ⊢
  refine (clone_calls _ row w1 (HV.out.below HA.out).bytes HL.out).mono ?_
  rintro e w2 ⟨v2, rfl, hv2, hb2⟩
  obtain ⟨p2, c2, rfl, _⟩ := hv2.shape
  have r1 := row_below hb2 HO
  have r2 := row_below hb2 HO2
  have HB2 : Hid (Below w.heap.size w w2) := bel2 HA.out hb2
  have HV2 : Hid (HB (fun B => w1.heap.size ≤ B) w2 (.slice p2 row.length c2) row) := hv2
  have HL1 : Hid (w.heap.size + 1 < w1.heap.size) := lt_of_row HO2
  have c10 := row_cell r1 (j := 0) rfl
  have c11 := row_cell r1 (j := 1) rfl
  have c12 := row_cell r1 (j := 2) rfl
  have c20 := row_cell r2 (j := 0) rfl
  have c21 := row_cell r2 (j := 1) rfl
  have c22 := row_cell r2 (j := 2) rfl
  have f1 := row_frozen r1
  have f2 := row_frozen r2
  have HR : Hid ((w2.setCell ⟨w.heap.size, 2, none⟩ (.slice p2 row.length c2)).heap[w.heap.size + 1]? = _) := (Below.heap_setCell _ _ _ _ (fun e => Nat.succ_ne_self _ e)).trans r2
  clear hv2 hb2 HO HO2 r1 r2
  go_wp2_with (simp only)
  refine bodyPost_ret (ret_row Try.results56 _ rfl HR.out _ _ _) rfl ?_
  have hz := HL1.out
  exact ⟨⟨_, rfl, ((((HV2.out.set (lo := w1.heap.size) (fun _ h => h) (by omega)).set (lo := w1.heap.size) (fun _ h => h) hz).set (lo := w1.heap.size) (fun _ h => h) hz).set (lo := w1.heap.size) (fun _ h => h) hz).all (fun B hB => by omega)⟩,
    below_set (below_set (below_set (below_set HB2.out (Nat.le_refl _)) (by omega)) (by omega)) (by omega)⟩
end Go.Proofs.Ytkaaddahegkmgaa
