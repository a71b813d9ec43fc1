/- The contracts of waiting, of Do of a query, of awake. -/
import Derived.Test.YtidoekoijdeadaaGreatA
namespace Go.Proofs.YtidoekoijdeadaaGreat
open Go.ChangeShapes Go.WideShapes Go.ChangeAt Go.RowKit
theorem row_below {W w' : World} (hb : Below W.heap.size W w') {g : Nat} {o : Obj} (h : W.heap[g]? = some o) : w'.heap[g]? = some o := by
  rw [hb.block g (by rcases Nat.lt_or_ge g W.heap.size with h2 | h2; exact h2; rw [Array.getElem?_eq_none h2] at h; cases h), h]
theorem setRow_bel {w W : World} (h : Below w.heap.size w W) (g : Nat) (cs : Array Value) (hg : w.heap.size ≤ g) : Below w.heap.size w (W.setRow g cs) := by
  obtain ⟨a, b, c, d, e⟩ := h
  exact ⟨a, b, c, by simpa [World.setRow] using d, fun B hB => (setRow_other W g B cs (by omega)).trans (e B hB)⟩
theorem setCell_bel {w W : World} (h : Below w.heap.size w W) (g j : Nat) (v : Value) (hg : w.heap.size ≤ g) : Below w.heap.size w (W.setCell ⟨g, j, none⟩ v) := by
  obtain ⟨a, b, c, d, e⟩ := h
  exact ⟨a, b, c, by simpa using d, fun B hB => by rw [heap_setCell_other _ _ _ _ (by show B ≠ g; omega)]; exact e B hB⟩
theorem ret_cell {fn : Func} {p : Tmp} {ty : TypeId} (h : fn.results = #[.cell p ty]) (tmps : Array Value) {w : World} {v : Value} {a : Addr} (hp : tmps.getD p undef = .pointer (some a)) (hl : (loadVar ty a).run Tryz.prog w = .ok v w) : (results fn tmps).run Tryz.prog w = .ok v w := by
  have hp' : tmps[p]?.getD undef = .pointer (some a) := by simpa using hp
  simp [results, h, hp', asAddr, hl]
theorem ret_cell2 {fn : Func} {p q : Tmp} {ty tz : TypeId} (h : fn.results = #[.cell p ty, .cell q tz]) (tmps : Array Value) {w : World} {v u : Value} {a b : Addr} (hp : tmps.getD p undef = .pointer (some a)) (hq : tmps.getD q undef = .pointer (some b)) (hl : (loadVar ty a).run Tryz.prog w = .ok v w) (hm : (loadVar tz b).run Tryz.prog w = .ok u w) : (results fn tmps).run Tryz.prog w = .ok (.tuple #[v, u]) w := by
  have hp' : tmps[p]?.getD undef = .pointer (some a) := by simpa using hp
  have hq' : tmps[q]?.getD undef = .pointer (some b) := by simpa using hq
  simp [results, h, hp', hq', asAddr, hl, hm]
/-- A reply that says nothing; the replies on the way. -/
def zR : Array Value := #[.int .i64 0, .int .i64 0, .int .i64 0, .int .i64 0, .int .i64 0, .int .u64 0, .string ⟨#[]⟩, .slice none 0 0, .int .i64 0, .int .i64 0, .int .i64 0, .int .i64 0, .int .i64 0, .int .i64 0, .int .i64 0, .string ⟨#[]⟩, .int .i64 0, .int .i64 0, .int .u64 0, .string ⟨#[]⟩, .slice none 0 0, .int .i64 0, .int .u64 0, .int .i64 0, .int .i64 0, .int .i64 0, .int .i64 0, .int .i64 0, .int .i64 0, .bool false, .bool false, .slice none 0 0, .slice none 0 0, .int .i64 0, .int .i64 0, .int .u64 0, .string ⟨#[]⟩, .slice none 0 0, .string ⟨#[]⟩, .slice none 0 0, .slice none 0 0, .slice none 0 0]
def xR1 : Array Value := #[.int .i64 25, .int .i64 1, .int .i64 0, .int .i64 0, .int .i64 0, .int .u64 0, .string ⟨#[]⟩, .slice none 0 0, .int .i64 0, .int .i64 0, .int .i64 0, .int .i64 0, .int .i64 0, .int .i64 0, .int .i64 0, .string ⟨#[]⟩, .int .i64 0, .int .i64 0, .int .u64 0, .string ⟨#[]⟩, .slice none 0 0, .int .i64 0, .int .u64 0, .int .i64 0, .int .i64 0, .int .i64 0, .int .i64 0, .int .i64 0, .int .i64 0, .bool false, .bool false, .slice none 0 0, .slice none 0 0, .int .i64 0, .int .i64 0, .int .u64 0, .string ⟨#[]⟩, .slice none 0 0, .string ⟨#[]⟩, .slice none 0 0, .slice none 0 0, .slice none 0 0]
def xR2 : Array Value := #[.int .i64 25, .int .i64 1, .int .i64 2, .int .i64 0, .int .i64 0, .int .u64 0, .string ⟨#[]⟩, .slice none 0 0, .int .i64 0, .int .i64 0, .int .i64 0, .int .i64 0, .int .i64 0, .int .i64 0, .int .i64 0, .string ⟨#[]⟩, .int .i64 0, .int .i64 0, .int .u64 0, .string ⟨#[]⟩, .slice none 0 0, .int .i64 0, .int .u64 0, .int .i64 0, .int .i64 0, .int .i64 0, .int .i64 0, .int .i64 0, .int .i64 0, .bool false, .bool false, .slice none 0 0, .slice none 0 0, .int .i64 0, .int .i64 0, .int .u64 0, .string ⟨#[]⟩, .slice none 0 0, .string ⟨#[]⟩, .slice none 0 0, .slice none 0 0, .slice none 0 0]
/-- A plan that says nothing. -/
def zP : Array Value := #[.bool false, .string ⟨#[]⟩, .int .i64 0, .int .i64 0, .int .i64 0, .int .i64 0, .int .i64 0, .int .i64 0, .int .i64 0, .int .i64 0, .string ⟨#[]⟩, .int .i64 0, .int .i64 0, .int .u64 0, .string ⟨#[]⟩, .slice none 0 0, .int .i64 0, .int .u64 0, .int .i64 0, .int .i64 0, .int .i64 0, .int .i64 0, .int .i64 0, .int .i64 0, .bool false, .bool false, .slice none 0 0, .slice none 0 0, .int .i64 0, .int .i64 0, .int .u64 0, .string ⟨#[]⟩, .slice none 0 0, .string ⟨#[]⟩, .slice none 0 0, .slice none 0 0]
/-- A running workflow of Run 1 and Count 2. -/
def flow : Array Value := #[.string ⟨#[97]⟩, .int .i64 1, .int .i64 1, .int .i64 1, .int .i64 2, .int .i64 0, .int .i64 0, .int .i64 0, .int .i64 0, .string ⟨#[116]⟩, .int .i64 0, .int .i64 0, .int .u64 0, .string ⟨#[]⟩, .slice none 0 0, .int .i64 0, .int .u64 0, .int .i64 0, .int .i64 0, .int .i64 0, .int .i64 0, .int .i64 0, .int .i64 0, .bool false, .bool false, .slice none 0 0, .slice none 0 0, .int .i64 0, .int .i64 0, .int .u64 0, .string ⟨#[]⟩, .slice none 0 0, .string ⟨#[]⟩, .slice none 0 0]
def stat : Array Value := #[.int .i64 1, .int .i64 1, .int .i64 2, .int .i64 0, .int .i64 0, .int .i64 0, .int .i64 0, .string ⟨#[116]⟩, .int .i64 0, .int .i64 0, .int .u64 0, .string ⟨#[]⟩, .slice none 0 0, .int .i64 0, .int .u64 0, .int .i64 0, .int .i64 0, .int .i64 0, .int .i64 0, .int .i64 0, .int .i64 0, .bool false, .bool false, .slice none 0 0, .slice none 0 0, .int .i64 0, .int .i64 0, .int .u64 0, .string ⟨#[]⟩, .slice none 0 0, .string ⟨#[]⟩]
def zSt : Array Value := #[.int .i64 0, .int .i64 0, .int .i64 0, .int .i64 0, .int .i64 0, .int .i64 0, .int .i64 0, .string ⟨#[]⟩, .int .i64 0, .int .i64 0, .int .u64 0, .string ⟨#[]⟩, .slice none 0 0, .int .i64 0, .int .u64 0, .int .i64 0, .int .i64 0, .int .i64 0, .int .i64 0, .int .i64 0, .int .i64 0, .bool false, .bool false, .slice none 0 0, .slice none 0 0, .int .i64 0, .int .i64 0, .int .u64 0, .string ⟨#[]⟩, .slice none 0 0, .string ⟨#[]⟩]
/-- A query. -/
def query : Array Value := #[.int .i64 4, .string ⟨#[97]⟩, .string ⟨#[]⟩, .string ⟨#[]⟩, .int .i64 0, .int .i64 0, .int .u64 0, .string ⟨#[]⟩, .slice none 0 0, .int .i64 0, .int .i64 0, .int .i64 0, .int .i64 0, .int .u64 0, .int .i64 0, .slice none 0 0, .slice none 0 0]
theorem flow_range {w : World} {g : Nat} (h : w.heap[g]? = some (.cells flow 38 (0, 0))) : w.rangeAt g 2 stat.toList := fun j v hj => by
  rw [cell_of_row w g (2 + j) flow 38 (0, 0) h]
  have hlt : j < 31 := by simpa [stat] using (List.getElem?_eq_some_iff.1 hj).1
  have : ∀ (l : List Value), flow.toList = .string ⟨#[97]⟩ :: .int .i64 1 :: (stat.toList ++ [.slice none 0 0]) := fun _ => rfl
  rw [← Array.getElem?_toList, this [], show 2 + j = j + 1 + 1 from by omega, List.getElem?_cons_succ, List.getElem?_cons_succ, List.getElem?_append_left (by simpa [stat] using hlt)]
  exact hj
set_option maxHeartbeats 2000000 in
set_option maxRecDepth 100000 in
theorem waiting_calls (w : World) : Calls Tryz.prog 17 #[.agg flow, .bool true, .int .i64 4] w (RetP (.agg xR2) w) := by
  have hi35 : (Tryz.prog.info? 35).map (·.size) = some stat.toList.length := by kernel_rfl
  have hi46 : (Tryz.prog.info? 46).map (·.size) = some xR1.size := by kernel_rfl
  have hi46' : (Tryz.prog.info? 46).map (·.size) = some xR2.size := by kernel_rfl
  have z1 : zR.size = xR1.size := rfl
  have z2 : zR.size = xR2.size := rfl
  have a1 : xR1.all (·.oneCell') = true := by kernel_rfl
  have a2 : xR2.all (·.oneCell') = true := by kernel_rfl
  have HQ : Hid (∀ w', Below w.heap.size w w' → RetP (.agg xR2) w (.returned (.agg xR2)) w') := fun w' h => ⟨rfl, h⟩
  generalize RetP (.agg xR2) w = Q at HQ ⊢
  go_enter Tryz.func17, Tryz.ntmps17
  have b0 : Hid (Below w.heap.size w ((w.alloc (.cells flow 38)).alloc (.cells zR 46))) := bel2 (bel1 _ _) (bel1 _ _)
  have r0 : ((w.alloc (.cells flow 38)).alloc (.cells zR 46)).heap[w.heap.size]? = some (.cells flow 38 (0, 0)) := heap_alloc2_old _ _ _
  have r1 : ((w.alloc (.cells flow 38)).alloc (.cells zR 46)).heap[w.heap.size + 1]? = some (.cells zR 46 (0, 0)) := heap_alloc2_new _ _ _
  go_upto_region 3 with fail
  change Code.wp _ _ _ _ ((w.alloc (.cells flow 38)).alloc (.cells zR 46))
  generalize (w.alloc (.cells flow 38)).alloc (.cells zR 46) = W0 at b0 r0 r1 ⊢
  have g0 := flow_range r0
  go_wp2_with (refine wpList_load_mid rfl 35 _ rfl w.heap.size 2 rfl stat.toList _ g0 Tryz.underlying35 rfl hi35 ?_)
  refine (running_calls _ _ rfl).mono ?_
  rintro e w1 ⟨rfl, hb⟩
  have s0 := row_below hb r0
  have s1 := row_below hb r1
  have b1 : Hid (Below w.heap.size w w1) := bel2 b0.out hb
  have c0 : w1.cell? ⟨w.heap.size, 2, none⟩ = some (.int .i64 1) := by rw [cell_of_row w1 _ 2 flow 38 (0, 0) s0]; rfl
  have n1 : (w1.alloc (.cells zR 46)).heap[w1.heap.size]? = some (.cells zR 46 (0, 0)) := heap_alloc_new w1 _
  clear hb r0 r1 g0
  go_upto_region 6 with (refine wpList_store_row rfl 46 _ _ rfl w1.heap.size xR1 rfl rfl 46 zR n1 hi46 z1 a1 ?_)
  rw [World.setRow_alloc_new]
  have hb := bel1 w1 (.cells xR1 46)
  have t0 := row_below hb s0
  have t1 := row_below hb s1
  have t2 : (w1.alloc (.cells xR1 46)).heap[w1.heap.size]? = some (.cells xR1 46 (0, 0)) := heap_alloc_new w1 _
  have b2 : Hid (Below w.heap.size w (w1.alloc (.cells xR1 46))) := bel2 b1.out hb
  have HL : Hid (w.heap.size + 1 < w1.heap.size) := (Array.getElem?_eq_some_iff.1 s1).1
  clear hb s0 s1 c0 n1
  generalize w1.alloc (.cells xR1 46) = W2 at b2 t0 t1 t2 ⊢
  have c0 : W2.cell? ⟨w.heap.size, 4, none⟩ = some (.int .i64 2) := by rw [cell_of_row W2 _ 4 flow 38 (0, 0) t0]; rfl
  have c2 : W2.cell? ⟨w1.heap.size, 2, none⟩ = some (.int .i64 0) := by rw [cell_of_row W2 _ 2 xR1 46 (0, 0) t2]; rfl
  have f2 : W2.frozen? ⟨w1.heap.size, 2, none⟩ = false := frozen_of_row W2 _ 2 xR1 46 t2
  have u2 : (W2.setCell ⟨w1.heap.size, 2, none⟩ (.int .i64 2)).heap[w1.heap.size]? = some (.cells xR2 46 (0, 0)) := heap_setCell_same W2 _ 2 xR1 46 _ t2
  have u1 : (W2.setCell ⟨w1.heap.size, 2, none⟩ (.int .i64 2)).heap[w.heap.size + 1]? = some (.cells zR 46 (0, 0)) := by
    rw [heap_setCell_other _ _ _ _ (by have := HL.out; show w.heap.size + 1 ≠ w1.heap.size; omega)]
    exact t1
  have b3 : Hid (Below w.heap.size w (W2.setCell ⟨w1.heap.size, 2, none⟩ (.int .i64 2))) := setCell_bel b2.out _ _ _ (by have := HL.out; omega)
  go_upto_region 8 with fail
  clear c0 c2 f2 t0 t1 t2
  generalize W2.setCell ⟨w1.heap.size, 2, none⟩ (.int .i64 2) = W3 at b3 u1 u2 ⊢
  go_wp2_with (first | refine wpList_load_row rfl 46 _ rfl w1.heap.size rfl 46 xR2 (0, 0) _ u2 Tryz.underlying46 rfl hi46' ?_ | refine wpList_store_row rfl 46 _ _ rfl (w.heap.size + 1) xR2 rfl rfl 46 zR u1 hi46' z2 a2 ?_)
  have k9 := setRow_heap W3 (w.heap.size + 1) zR xR2 46 (0, 0) u1
  have hl : (loadVar 46 ⟨w.heap.size + 1, 0, none⟩).run Tryz.prog (W3.setRow (w.heap.size + 1) xR2) = .ok (.agg xR2) (W3.setRow (w.heap.size + 1) xR2) := run_loadVar_row _ (w.heap.size + 1) 46 46 xR2 (0, 0) _ k9 Tryz.underlying46 rfl hi46'
  have HB : Hid (Below w.heap.size w (W3.setRow (w.heap.size + 1) xR2)) := setRow_bel b3.out _ _ (by omega)
  exact bodyPost_ret (v := .agg xR2) (ret_cell Tryz.results17 _ rfl hl) rfl (HQ.out _ HB.out)
end Go.Proofs.YtidoekoijdeadaaGreat
