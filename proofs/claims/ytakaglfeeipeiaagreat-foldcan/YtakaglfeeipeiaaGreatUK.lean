/- The contracts of change, kind by kind. -/
import Derived.Test.YtakaglfeeipeiaaGreatUJ
namespace Go.Proofs.YtakaglfeeipeiaaGreat
open Go.ChangeShapes Go.WideShapes Go.ChangeAt Go.RowKit
theorem puts_app (cs : Array Value) (ps qs : List (Nat × Value)) : puts cs (ps ++ qs) = puts (puts cs ps) qs := by simp [puts, List.foldl_append]
theorem puts_ne {cs : Array Value} {q : Nat} : ∀ {ps : List (Nat × Value)}, (∀ p ∈ ps, p.1 ≠ q) → (puts cs ps)[q]? = cs[q]?
  | [], _ => rfl
  | p :: ps, h => by
    have h1 := h p List.mem_cons_self
    have := puts_ne (cs := cs.setIfInBounds p.1 p.2) (ps := ps) fun p hp => h p (List.mem_cons_of_mem _ hp)
    show (puts (cs.setIfInBounds p.1 p.2) ps)[q]? = _
    rw [this, Array.getElem?_setIfInBounds_ne h1]
theorem puts_size (cs : Array Value) : ∀ (ps : List (Nat × Value)), (puts cs ps).size = cs.size
  | [] => rfl
  | p :: ps => by
    show (puts (cs.setIfInBounds p.1 p.2) ps).size = _
    rw [puts_size]
    simp
theorem WrS.trans {B : Nat} {w W W' : World} {cs cs' : Array Value} (h : WrS B w W cs) (h' : WrS B W W' cs') : WrS B w W' cs' := ⟨h'.row, h.kb.trans h'.kb⟩
theorem Lw.from {lo B : Nat} {t : TypeId} {k : Nat} {u : Value} {rows : List (Array Value)} {w W1 W : World} {v : Value} (h : Lw lo B t k u rows W1 v W) (hk : KB B w W1) (hlo : lo ≤ B) (hlw : lo ≤ w.heap.size) : Lw lo B t k u rows w v W :=
  have hs := hk.2.2.2.1
  ⟨h.own, (hk.below hlo hlw).trans h.bel, fun B' h1 h2 h3 => (h.keep B' (by omega) h2 h3).trans (ne_blk hk h1 h2), h.blk.imp id fun h B' hB => Nat.le_trans hs (h B' hB)⟩
/-- The box behind the count and the time. -/
def cs1 (cs : Array Value) (cn t : Int) : Array Value := puts cs [(2, .int .i64 (wrap64 (cn + 1))), (3, .int .i64 t)]
theorem box_E (w : World) (B : Nat) (c0 c1 : Value) (es : Array Value) : ((((w.setCell ⟨B, 2, none⟩ c0).setCell ⟨B, 3, none⟩ c1).alloc (.cells es 44)).heap[w.heap.size]? = some (.cells es 44 (0, 0))) := by
  have := heap_alloc_new ((w.setCell ⟨B, 2, none⟩ c0).setCell ⟨B, 3, none⟩ c1) (.cells es 44)
  simpa [World.setCell] using this
set_option maxHeartbeats 2000000 in
set_option maxRecDepth 100000 in
theorem chg7 (B : Nat) (cs es : Array Value) (cn tm t : Int) (sg : Int) (fb : Bool) (w : World) (hg : w.heap[B]? = some (.cells cs 37 (0, 0))) (c2 : cs[2]? = some (.int .i64 cn)) (c3 : cs[3]? = some (.int .i64 tm)) (c6 : cs[6]? = some (.int .i64 sg)) (c21 : cs[21]? = some (.bool fb)) (e0 : es[0]? = some (.int .i64 7)) (e1 : es[1]? = some (.int .i64 t)) :
    Calls Tryz.prog 51 #[.pointer (some ⟨B, 0, none⟩), .agg es] w (PuP B cs [(2, .int .i64 (wrap64 (cn + 1))), (3, .int .i64 t), (6, .int .i64 (wrap64 (sg + 1))), (21, .bool true)] w) := by
  have g0 : ∀ j, w.cell? ⟨B, j, none⟩ = cs[j]? := fun j => cell_of_row w B j cs 37 (0, 0) hg
  have gf : ∀ o, w.frozen? ⟨B, o, none⟩ = false := fun o => frozen_of_row w B o _ 37 hg
  have hBl : B < w.heap.size := (Array.getElem?_eq_some_iff.1 hg).1
  have f0 : Hid (WrS B w w cs) := ⟨hg, KB.refl _ _⟩
  have HQ : Hid (∀ W, WrS B w W (puts cs [(2, .int .i64 (wrap64 (cn + 1))), (3, .int .i64 t), (6, .int .i64 (wrap64 (sg + 1))), (21, .bool true)]) → PuP B cs [(2, .int .i64 (wrap64 (cn + 1))), (3, .int .i64 t), (6, .int .i64 (wrap64 (sg + 1))), (21, .bool true)] w (.returned (.tuple #[])) W) := fun W h => pu_mk h
  generalize hps : ([(2, .int .i64 (wrap64 (cn + 1))), (3, .int .i64 t), (6, .int .i64 (wrap64 (sg + 1))), (21, .bool true)] : List (Nat × Value)) = ps at HQ ⊢
  have HP : Hid (([(2, .int .i64 (wrap64 (cn + 1))), (3, .int .i64 t), (6, .int .i64 (wrap64 (sg + 1))), (21, .bool true)] : List (Nat × Value)) = ps) := hps
  generalize PuP B cs ps w = Q at HQ ⊢
  clear hps hg
  go_enter Tryz.func51, Tryz.ntmps51
  go_wp2_with fail
  go_end0
  refine HQ.out _ ?_
  rw [← HP.out]
  simp only [puts, List.foldl]
  repeat (with_reducible first | exact f0.out | apply WrS.set | apply WrS.drew | apply WrS.alloc)
set_option maxHeartbeats 2000000 in
set_option maxRecDepth 100000 in
theorem chg8 (B : Nat) (cs es : Array Value) (cn tm t : Int) (fb cb : Bool) (w : World) (hg : w.heap[B]? = some (.cells cs 37 (0, 0))) (c2 : cs[2]? = some (.int .i64 cn)) (c3 : cs[3]? = some (.int .i64 tm)) (c21 : cs[21]? = some (.bool fb)) (c22 : cs[22]? = some (.bool cb)) (e0 : es[0]? = some (.int .i64 8)) (e1 : es[1]? = some (.int .i64 t)) :
    Calls Tryz.prog 51 #[.pointer (some ⟨B, 0, none⟩), .agg es] w (PuP B cs [(2, .int .i64 (wrap64 (cn + 1))), (3, .int .i64 t), (22, .bool true), (21, .bool true)] w) := by
  have g0 : ∀ j, w.cell? ⟨B, j, none⟩ = cs[j]? := fun j => cell_of_row w B j cs 37 (0, 0) hg
  have gf : ∀ o, w.frozen? ⟨B, o, none⟩ = false := fun o => frozen_of_row w B o _ 37 hg
  have hBl : B < w.heap.size := (Array.getElem?_eq_some_iff.1 hg).1
  have f0 : Hid (WrS B w w cs) := ⟨hg, KB.refl _ _⟩
  have HQ : Hid (∀ W, WrS B w W (puts cs [(2, .int .i64 (wrap64 (cn + 1))), (3, .int .i64 t), (22, .bool true), (21, .bool true)]) → PuP B cs [(2, .int .i64 (wrap64 (cn + 1))), (3, .int .i64 t), (22, .bool true), (21, .bool true)] w (.returned (.tuple #[])) W) := fun W h => pu_mk h
  generalize hps : ([(2, .int .i64 (wrap64 (cn + 1))), (3, .int .i64 t), (22, .bool true), (21, .bool true)] : List (Nat × Value)) = ps at HQ ⊢
  have HP : Hid (([(2, .int .i64 (wrap64 (cn + 1))), (3, .int .i64 t), (22, .bool true), (21, .bool true)] : List (Nat × Value)) = ps) := hps
  generalize PuP B cs ps w = Q at HQ ⊢
  clear hps hg
  go_enter Tryz.func51, Tryz.ntmps51
  go_wp2_with fail
  go_end0
  refine HQ.out _ ?_
  rw [← HP.out]
  simp only [puts, List.foldl]
  repeat (with_reducible first | exact f0.out | apply WrS.set | apply WrS.drew | apply WrS.alloc)
set_option maxHeartbeats 2000000 in
set_option maxRecDepth 100000 in
theorem chg14 (B : Nat) (cs es : Array Value) (cn tm t : Int) (w : World) (hg : w.heap[B]? = some (.cells cs 37 (0, 0))) (c2 : cs[2]? = some (.int .i64 cn)) (c3 : cs[3]? = some (.int .i64 tm)) (e0 : es[0]? = some (.int .i64 14)) (e1 : es[1]? = some (.int .i64 t)) :
    Calls Tryz.prog 51 #[.pointer (some ⟨B, 0, none⟩), .agg es] w (PuP B cs [(2, .int .i64 (wrap64 (cn + 1))), (3, .int .i64 t)] w) := by
  have g0 : ∀ j, w.cell? ⟨B, j, none⟩ = cs[j]? := fun j => cell_of_row w B j cs 37 (0, 0) hg
  have gf : ∀ o, w.frozen? ⟨B, o, none⟩ = false := fun o => frozen_of_row w B o _ 37 hg
  have hBl : B < w.heap.size := (Array.getElem?_eq_some_iff.1 hg).1
  have f0 : Hid (WrS B w w cs) := ⟨hg, KB.refl _ _⟩
  have HQ : Hid (∀ W, WrS B w W (puts cs [(2, .int .i64 (wrap64 (cn + 1))), (3, .int .i64 t)]) → PuP B cs [(2, .int .i64 (wrap64 (cn + 1))), (3, .int .i64 t)] w (.returned (.tuple #[])) W) := fun W h => pu_mk h
  generalize hps : ([(2, .int .i64 (wrap64 (cn + 1))), (3, .int .i64 t)] : List (Nat × Value)) = ps at HQ ⊢
  have HP : Hid (([(2, .int .i64 (wrap64 (cn + 1))), (3, .int .i64 t)] : List (Nat × Value)) = ps) := hps
  generalize PuP B cs ps w = Q at HQ ⊢
  clear hps hg
  go_enter Tryz.func51, Tryz.ntmps51
  go_wp2_with fail
  go_end0
  refine HQ.out _ ?_
  rw [← HP.out]
  simp only [puts, List.foldl]
  repeat (with_reducible first | exact f0.out | apply WrS.set | apply WrS.drew | apply WrS.alloc)
set_option maxHeartbeats 2000000 in
set_option maxRecDepth 100000 in
theorem chgC2 (B : Nat) (cs es : Array Value) (cn tm t : Int) (w : World) (Q1 : World → Ending → World → Prop) (Q : Ending → World → Prop) (hg : w.heap[B]? = some (.cells cs 37 (0, 0))) (c2 : cs[2]? = some (.int .i64 cn)) (c3 : cs[3]? = some (.int .i64 tm)) (hes : es.size = 13) (e0 : es[0]? = some (.int .i64 2)) (e1 : es[1]? = some (.int .i64 t))
    (KC : Hid (∀ W, WrS B w W (cs1 cs cn t) → Calls Tryz.prog 60 #[.pointer (some ⟨B, 0, none⟩), .agg es] W (Q1 W))) (HQ : Hid (∀ W e W', WrS B w W (cs1 cs cn t) → Q1 W e W' → e = .returned (.tuple #[]) ∧ Q e W')) :
    Calls Tryz.prog 51 #[.pointer (some ⟨B, 0, none⟩), .agg es] w Q := by
  have g0 : ∀ j, w.cell? ⟨B, j, none⟩ = cs[j]? := fun j => cell_of_row w B j cs 37 (0, 0) hg
  have gf : ∀ o, w.frozen? ⟨B, o, none⟩ = false := fun o => frozen_of_row w B o _ 37 hg
  have hBl : B < w.heap.size := (Array.getElem?_eq_some_iff.1 hg).1
  have f0 : Hid (WrS B w w cs) := ⟨hg, KB.refl _ _⟩
  have hi46 := info46s es hes
  have hE := box_E w B (.int .i64 (wrap64 (cn + 1))) (.int .i64 t) es
  clear hg hes
  go_enter Tryz.func51, Tryz.ntmps51
  go_wp2_with (refine wpList_load_rowG rfl 44 _ rfl w.heap.size rfl 44 es (0, 0) _ hE Tryz.underlying44 rfl hi46 ?_)
  have f1 : WrS B w (((w.setCell ⟨B, 2, none⟩ (.int .i64 (wrap64 (cn + 1)))).setCell ⟨B, 3, none⟩ (.int .i64 t)).alloc (.cells es 44)) (cs1 cs cn t) := ((f0.out.set 2 (.int .i64 (wrap64 (cn + 1)))).set 3 (.int .i64 t)).alloc (.cells es 44)
  refine (KC.out _ f1).mono ?_
  intro e W' h
  obtain ⟨rfl, hq⟩ := HQ.out _ _ _ f1 h
  go_wp2_with fail
  go_end0
  exact hq
set_option maxHeartbeats 2000000 in
set_option maxRecDepth 100000 in
theorem chgC3 (B : Nat) (cs es : Array Value) (cn tm t : Int) (w : World) (Q1 : World → Ending → World → Prop) (Q : Ending → World → Prop) (hg : w.heap[B]? = some (.cells cs 37 (0, 0))) (c2 : cs[2]? = some (.int .i64 cn)) (c3 : cs[3]? = some (.int .i64 tm)) (hes : es.size = 13) (e0 : es[0]? = some (.int .i64 3)) (e1 : es[1]? = some (.int .i64 t))
    (KC : Hid (∀ W, WrS B w W (cs1 cs cn t) → Calls Tryz.prog 60 #[.pointer (some ⟨B, 0, none⟩), .agg es] W (Q1 W))) (HQ : Hid (∀ W e W', WrS B w W (cs1 cs cn t) → Q1 W e W' → e = .returned (.tuple #[]) ∧ Q e W')) :
    Calls Tryz.prog 51 #[.pointer (some ⟨B, 0, none⟩), .agg es] w Q := by
  have g0 : ∀ j, w.cell? ⟨B, j, none⟩ = cs[j]? := fun j => cell_of_row w B j cs 37 (0, 0) hg
  have gf : ∀ o, w.frozen? ⟨B, o, none⟩ = false := fun o => frozen_of_row w B o _ 37 hg
  have hBl : B < w.heap.size := (Array.getElem?_eq_some_iff.1 hg).1
  have f0 : Hid (WrS B w w cs) := ⟨hg, KB.refl _ _⟩
  have hi46 := info46s es hes
  have hE := box_E w B (.int .i64 (wrap64 (cn + 1))) (.int .i64 t) es
  clear hg hes
  go_enter Tryz.func51, Tryz.ntmps51
  go_wp2_with (refine wpList_load_rowG rfl 44 _ rfl w.heap.size rfl 44 es (0, 0) _ hE Tryz.underlying44 rfl hi46 ?_)
  have f1 : WrS B w (((w.setCell ⟨B, 2, none⟩ (.int .i64 (wrap64 (cn + 1)))).setCell ⟨B, 3, none⟩ (.int .i64 t)).alloc (.cells es 44)) (cs1 cs cn t) := ((f0.out.set 2 (.int .i64 (wrap64 (cn + 1)))).set 3 (.int .i64 t)).alloc (.cells es 44)
  refine (KC.out _ f1).mono ?_
  intro e W' h
  obtain ⟨rfl, hq⟩ := HQ.out _ _ _ f1 h
  go_wp2_with fail
  go_end0
  exact hq
set_option maxHeartbeats 2000000 in
set_option maxRecDepth 100000 in
theorem chgC4 (B : Nat) (cs es : Array Value) (cn tm t : Int) (w : World) (Q1 : World → Ending → World → Prop) (Q : Ending → World → Prop) (hg : w.heap[B]? = some (.cells cs 37 (0, 0))) (c2 : cs[2]? = some (.int .i64 cn)) (c3 : cs[3]? = some (.int .i64 tm)) (hes : es.size = 13) (e0 : es[0]? = some (.int .i64 4)) (e1 : es[1]? = some (.int .i64 t))
    (KC : Hid (∀ W, WrS B w W (cs1 cs cn t) → Calls Tryz.prog 60 #[.pointer (some ⟨B, 0, none⟩), .agg es] W (Q1 W))) (HQ : Hid (∀ W e W', WrS B w W (cs1 cs cn t) → Q1 W e W' → e = .returned (.tuple #[]) ∧ Q e W')) :
    Calls Tryz.prog 51 #[.pointer (some ⟨B, 0, none⟩), .agg es] w Q := by
  have g0 : ∀ j, w.cell? ⟨B, j, none⟩ = cs[j]? := fun j => cell_of_row w B j cs 37 (0, 0) hg
  have gf : ∀ o, w.frozen? ⟨B, o, none⟩ = false := fun o => frozen_of_row w B o _ 37 hg
  have hBl : B < w.heap.size := (Array.getElem?_eq_some_iff.1 hg).1
  have f0 : Hid (WrS B w w cs) := ⟨hg, KB.refl _ _⟩
  have hi46 := info46s es hes
  have hE := box_E w B (.int .i64 (wrap64 (cn + 1))) (.int .i64 t) es
  clear hg hes
  go_enter Tryz.func51, Tryz.ntmps51
  go_wp2_with (refine wpList_load_rowG rfl 44 _ rfl w.heap.size rfl 44 es (0, 0) _ hE Tryz.underlying44 rfl hi46 ?_)
  have f1 : WrS B w (((w.setCell ⟨B, 2, none⟩ (.int .i64 (wrap64 (cn + 1)))).setCell ⟨B, 3, none⟩ (.int .i64 t)).alloc (.cells es 44)) (cs1 cs cn t) := ((f0.out.set 2 (.int .i64 (wrap64 (cn + 1)))).set 3 (.int .i64 t)).alloc (.cells es 44)
  refine (KC.out _ f1).mono ?_
  intro e W' h
  obtain ⟨rfl, hq⟩ := HQ.out _ _ _ f1 h
  go_wp2_with fail
  go_end0
  exact hq
set_option maxHeartbeats 2000000 in
set_option maxRecDepth 100000 in
theorem chgC5 (B : Nat) (cs es : Array Value) (cn tm t : Int) (w : World) (Q1 : World → Ending → World → Prop) (Q : Ending → World → Prop) (hg : w.heap[B]? = some (.cells cs 37 (0, 0))) (c2 : cs[2]? = some (.int .i64 cn)) (c3 : cs[3]? = some (.int .i64 tm)) (hes : es.size = 13) (e0 : es[0]? = some (.int .i64 5)) (e1 : es[1]? = some (.int .i64 t))
    (KC : Hid (∀ W, WrS B w W (cs1 cs cn t) → Calls Tryz.prog 60 #[.pointer (some ⟨B, 0, none⟩), .agg es] W (Q1 W))) (HQ : Hid (∀ W e W', WrS B w W (cs1 cs cn t) → Q1 W e W' → e = .returned (.tuple #[]) ∧ Q e W')) :
    Calls Tryz.prog 51 #[.pointer (some ⟨B, 0, none⟩), .agg es] w Q := by
  have g0 : ∀ j, w.cell? ⟨B, j, none⟩ = cs[j]? := fun j => cell_of_row w B j cs 37 (0, 0) hg
  have gf : ∀ o, w.frozen? ⟨B, o, none⟩ = false := fun o => frozen_of_row w B o _ 37 hg
  have hBl : B < w.heap.size := (Array.getElem?_eq_some_iff.1 hg).1
  have f0 : Hid (WrS B w w cs) := ⟨hg, KB.refl _ _⟩
  have hi46 := info46s es hes
  have hE := box_E w B (.int .i64 (wrap64 (cn + 1))) (.int .i64 t) es
  clear hg hes
  go_enter Tryz.func51, Tryz.ntmps51
  go_wp2_with (refine wpList_load_rowG rfl 44 _ rfl w.heap.size rfl 44 es (0, 0) _ hE Tryz.underlying44 rfl hi46 ?_)
  have f1 : WrS B w (((w.setCell ⟨B, 2, none⟩ (.int .i64 (wrap64 (cn + 1)))).setCell ⟨B, 3, none⟩ (.int .i64 t)).alloc (.cells es 44)) (cs1 cs cn t) := ((f0.out.set 2 (.int .i64 (wrap64 (cn + 1)))).set 3 (.int .i64 t)).alloc (.cells es 44)
  refine (KC.out _ f1).mono ?_
  intro e W' h
  obtain ⟨rfl, hq⟩ := HQ.out _ _ _ f1 h
  go_wp2_with fail
  go_end0
  exact hq
set_option maxHeartbeats 2000000 in
set_option maxRecDepth 100000 in
theorem chgC6 (B : Nat) (cs es : Array Value) (cn tm t : Int) (w : World) (Q1 : World → Ending → World → Prop) (Q : Ending → World → Prop) (hg : w.heap[B]? = some (.cells cs 37 (0, 0))) (c2 : cs[2]? = some (.int .i64 cn)) (c3 : cs[3]? = some (.int .i64 tm)) (hes : es.size = 13) (e0 : es[0]? = some (.int .i64 6)) (e1 : es[1]? = some (.int .i64 t))
    (KC : Hid (∀ W, WrS B w W (cs1 cs cn t) → Calls Tryz.prog 60 #[.pointer (some ⟨B, 0, none⟩), .agg es] W (Q1 W))) (HQ : Hid (∀ W e W', WrS B w W (cs1 cs cn t) → Q1 W e W' → e = .returned (.tuple #[]) ∧ Q e W')) :
    Calls Tryz.prog 51 #[.pointer (some ⟨B, 0, none⟩), .agg es] w Q := by
  have g0 : ∀ j, w.cell? ⟨B, j, none⟩ = cs[j]? := fun j => cell_of_row w B j cs 37 (0, 0) hg
  have gf : ∀ o, w.frozen? ⟨B, o, none⟩ = false := fun o => frozen_of_row w B o _ 37 hg
  have hBl : B < w.heap.size := (Array.getElem?_eq_some_iff.1 hg).1
  have f0 : Hid (WrS B w w cs) := ⟨hg, KB.refl _ _⟩
  have hi46 := info46s es hes
  have hE := box_E w B (.int .i64 (wrap64 (cn + 1))) (.int .i64 t) es
  clear hg hes
  go_enter Tryz.func51, Tryz.ntmps51
  go_wp2_with (refine wpList_load_rowG rfl 44 _ rfl w.heap.size rfl 44 es (0, 0) _ hE Tryz.underlying44 rfl hi46 ?_)
  have f1 : WrS B w (((w.setCell ⟨B, 2, none⟩ (.int .i64 (wrap64 (cn + 1)))).setCell ⟨B, 3, none⟩ (.int .i64 t)).alloc (.cells es 44)) (cs1 cs cn t) := ((f0.out.set 2 (.int .i64 (wrap64 (cn + 1)))).set 3 (.int .i64 t)).alloc (.cells es 44)
  refine (KC.out _ f1).mono ?_
  intro e W' h
  obtain ⟨rfl, hq⟩ := HQ.out _ _ _ f1 h
  go_wp2_with fail
  go_end0
  exact hq
set_option maxHeartbeats 2000000 in
set_option maxRecDepth 100000 in
theorem chgC9 (B : Nat) (cs es : Array Value) (cn tm t : Int) (w : World) (Q1 : World → Ending → World → Prop) (Q : Ending → World → Prop) (hg : w.heap[B]? = some (.cells cs 37 (0, 0))) (c2 : cs[2]? = some (.int .i64 cn)) (c3 : cs[3]? = some (.int .i64 tm)) (hes : es.size = 13) (e0 : es[0]? = some (.int .i64 9)) (e1 : es[1]? = some (.int .i64 t))
    (KC : Hid (∀ W, WrS B w W (cs1 cs cn t) → Calls Tryz.prog 61 #[.pointer (some ⟨B, 0, none⟩), .agg es] W (Q1 W))) (HQ : Hid (∀ W e W', WrS B w W (cs1 cs cn t) → Q1 W e W' → e = .returned (.tuple #[]) ∧ Q e W')) :
    Calls Tryz.prog 51 #[.pointer (some ⟨B, 0, none⟩), .agg es] w Q := by
  have g0 : ∀ j, w.cell? ⟨B, j, none⟩ = cs[j]? := fun j => cell_of_row w B j cs 37 (0, 0) hg
  have gf : ∀ o, w.frozen? ⟨B, o, none⟩ = false := fun o => frozen_of_row w B o _ 37 hg
  have hBl : B < w.heap.size := (Array.getElem?_eq_some_iff.1 hg).1
  have f0 : Hid (WrS B w w cs) := ⟨hg, KB.refl _ _⟩
  have hi46 := info46s es hes
  have hE := box_E w B (.int .i64 (wrap64 (cn + 1))) (.int .i64 t) es
  clear hg hes
  go_enter Tryz.func51, Tryz.ntmps51
  go_wp2_with (refine wpList_load_rowG rfl 44 _ rfl w.heap.size rfl 44 es (0, 0) _ hE Tryz.underlying44 rfl hi46 ?_)
  have f1 : WrS B w (((w.setCell ⟨B, 2, none⟩ (.int .i64 (wrap64 (cn + 1)))).setCell ⟨B, 3, none⟩ (.int .i64 t)).alloc (.cells es 44)) (cs1 cs cn t) := ((f0.out.set 2 (.int .i64 (wrap64 (cn + 1)))).set 3 (.int .i64 t)).alloc (.cells es 44)
  refine (KC.out _ f1).mono ?_
  intro e W' h
  obtain ⟨rfl, hq⟩ := HQ.out _ _ _ f1 h
  go_wp2_with fail
  go_end0
  exact hq
set_option maxHeartbeats 2000000 in
set_option maxRecDepth 100000 in
theorem chgC10 (B : Nat) (cs es : Array Value) (cn tm t : Int) (w : World) (Q1 : World → Ending → World → Prop) (Q : Ending → World → Prop) (hg : w.heap[B]? = some (.cells cs 37 (0, 0))) (c2 : cs[2]? = some (.int .i64 cn)) (c3 : cs[3]? = some (.int .i64 tm)) (hes : es.size = 13) (e0 : es[0]? = some (.int .i64 10)) (e1 : es[1]? = some (.int .i64 t))
    (KC : Hid (∀ W, WrS B w W (cs1 cs cn t) → Calls Tryz.prog 61 #[.pointer (some ⟨B, 0, none⟩), .agg es] W (Q1 W))) (HQ : Hid (∀ W e W', WrS B w W (cs1 cs cn t) → Q1 W e W' → e = .returned (.tuple #[]) ∧ Q e W')) :
    Calls Tryz.prog 51 #[.pointer (some ⟨B, 0, none⟩), .agg es] w Q := by
  have g0 : ∀ j, w.cell? ⟨B, j, none⟩ = cs[j]? := fun j => cell_of_row w B j cs 37 (0, 0) hg
  have gf : ∀ o, w.frozen? ⟨B, o, none⟩ = false := fun o => frozen_of_row w B o _ 37 hg
  have hBl : B < w.heap.size := (Array.getElem?_eq_some_iff.1 hg).1
  have f0 : Hid (WrS B w w cs) := ⟨hg, KB.refl _ _⟩
  have hi46 := info46s es hes
  have hE := box_E w B (.int .i64 (wrap64 (cn + 1))) (.int .i64 t) es
  clear hg hes
  go_enter Tryz.func51, Tryz.ntmps51
  go_wp2_with (refine wpList_load_rowG rfl 44 _ rfl w.heap.size rfl 44 es (0, 0) _ hE Tryz.underlying44 rfl hi46 ?_)
  have f1 : WrS B w (((w.setCell ⟨B, 2, none⟩ (.int .i64 (wrap64 (cn + 1)))).setCell ⟨B, 3, none⟩ (.int .i64 t)).alloc (.cells es 44)) (cs1 cs cn t) := ((f0.out.set 2 (.int .i64 (wrap64 (cn + 1)))).set 3 (.int .i64 t)).alloc (.cells es 44)
  refine (KC.out _ f1).mono ?_
  intro e W' h
  obtain ⟨rfl, hq⟩ := HQ.out _ _ _ f1 h
  go_wp2_with fail
  go_end0
  exact hq
set_option maxHeartbeats 2000000 in
set_option maxRecDepth 100000 in
theorem chgC11 (B : Nat) (cs es : Array Value) (cn tm t : Int) (w : World) (Q1 : World → Ending → World → Prop) (Q : Ending → World → Prop) (hg : w.heap[B]? = some (.cells cs 37 (0, 0))) (c2 : cs[2]? = some (.int .i64 cn)) (c3 : cs[3]? = some (.int .i64 tm)) (hes : es.size = 13) (e0 : es[0]? = some (.int .i64 11)) (e1 : es[1]? = some (.int .i64 t))
    (KC : Hid (∀ W, WrS B w W (cs1 cs cn t) → Calls Tryz.prog 61 #[.pointer (some ⟨B, 0, none⟩), .agg es] W (Q1 W))) (HQ : Hid (∀ W e W', WrS B w W (cs1 cs cn t) → Q1 W e W' → e = .returned (.tuple #[]) ∧ Q e W')) :
    Calls Tryz.prog 51 #[.pointer (some ⟨B, 0, none⟩), .agg es] w Q := by
  have g0 : ∀ j, w.cell? ⟨B, j, none⟩ = cs[j]? := fun j => cell_of_row w B j cs 37 (0, 0) hg
  have gf : ∀ o, w.frozen? ⟨B, o, none⟩ = false := fun o => frozen_of_row w B o _ 37 hg
  have hBl : B < w.heap.size := (Array.getElem?_eq_some_iff.1 hg).1
  have f0 : Hid (WrS B w w cs) := ⟨hg, KB.refl _ _⟩
  have hi46 := info46s es hes
  have hE := box_E w B (.int .i64 (wrap64 (cn + 1))) (.int .i64 t) es
  clear hg hes
  go_enter Tryz.func51, Tryz.ntmps51
  go_wp2_with (refine wpList_load_rowG rfl 44 _ rfl w.heap.size rfl 44 es (0, 0) _ hE Tryz.underlying44 rfl hi46 ?_)
  have f1 : WrS B w (((w.setCell ⟨B, 2, none⟩ (.int .i64 (wrap64 (cn + 1)))).setCell ⟨B, 3, none⟩ (.int .i64 t)).alloc (.cells es 44)) (cs1 cs cn t) := ((f0.out.set 2 (.int .i64 (wrap64 (cn + 1)))).set 3 (.int .i64 t)).alloc (.cells es 44)
  refine (KC.out _ f1).mono ?_
  intro e W' h
  obtain ⟨rfl, hq⟩ := HQ.out _ _ _ f1 h
  go_wp2_with fail
  go_end0
  exact hq
set_option maxHeartbeats 2000000 in
set_option maxRecDepth 100000 in
theorem chgC12 (B : Nat) (cs es : Array Value) (cn tm t : Int) (w : World) (Q1 : World → Ending → World → Prop) (Q : Ending → World → Prop) (hg : w.heap[B]? = some (.cells cs 37 (0, 0))) (c2 : cs[2]? = some (.int .i64 cn)) (c3 : cs[3]? = some (.int .i64 tm)) (hes : es.size = 13) (e0 : es[0]? = some (.int .i64 12)) (e1 : es[1]? = some (.int .i64 t))
    (KC : Hid (∀ W, WrS B w W (cs1 cs cn t) → Calls Tryz.prog 62 #[.pointer (some ⟨B, 0, none⟩), .agg es] W (Q1 W))) (HQ : Hid (∀ W e W', WrS B w W (cs1 cs cn t) → Q1 W e W' → e = .returned (.tuple #[]) ∧ Q e W')) :
    Calls Tryz.prog 51 #[.pointer (some ⟨B, 0, none⟩), .agg es] w Q := by
  have g0 : ∀ j, w.cell? ⟨B, j, none⟩ = cs[j]? := fun j => cell_of_row w B j cs 37 (0, 0) hg
  have gf : ∀ o, w.frozen? ⟨B, o, none⟩ = false := fun o => frozen_of_row w B o _ 37 hg
  have hBl : B < w.heap.size := (Array.getElem?_eq_some_iff.1 hg).1
  have f0 : Hid (WrS B w w cs) := ⟨hg, KB.refl _ _⟩
  have hi46 := info46s es hes
  have hE := box_E w B (.int .i64 (wrap64 (cn + 1))) (.int .i64 t) es
  clear hg hes
  go_enter Tryz.func51, Tryz.ntmps51
  go_wp2_with (refine wpList_load_rowG rfl 44 _ rfl w.heap.size rfl 44 es (0, 0) _ hE Tryz.underlying44 rfl hi46 ?_)
  have f1 : WrS B w (((w.setCell ⟨B, 2, none⟩ (.int .i64 (wrap64 (cn + 1)))).setCell ⟨B, 3, none⟩ (.int .i64 t)).alloc (.cells es 44)) (cs1 cs cn t) := ((f0.out.set 2 (.int .i64 (wrap64 (cn + 1)))).set 3 (.int .i64 t)).alloc (.cells es 44)
  refine (KC.out _ f1).mono ?_
  intro e W' h
  obtain ⟨rfl, hq⟩ := HQ.out _ _ _ f1 h
  go_wp2_with fail
  go_end0
  exact hq
set_option maxHeartbeats 2000000 in
set_option maxRecDepth 100000 in
theorem chgC13 (B : Nat) (cs es : Array Value) (cn tm t : Int) (w : World) (Q1 : World → Ending → World → Prop) (Q : Ending → World → Prop) (hg : w.heap[B]? = some (.cells cs 37 (0, 0))) (c2 : cs[2]? = some (.int .i64 cn)) (c3 : cs[3]? = some (.int .i64 tm)) (hes : es.size = 13) (e0 : es[0]? = some (.int .i64 13)) (e1 : es[1]? = some (.int .i64 t))
    (KC : Hid (∀ W, WrS B w W (cs1 cs cn t) → Calls Tryz.prog 62 #[.pointer (some ⟨B, 0, none⟩), .agg es] W (Q1 W))) (HQ : Hid (∀ W e W', WrS B w W (cs1 cs cn t) → Q1 W e W' → e = .returned (.tuple #[]) ∧ Q e W')) :
    Calls Tryz.prog 51 #[.pointer (some ⟨B, 0, none⟩), .agg es] w Q := by
  have g0 : ∀ j, w.cell? ⟨B, j, none⟩ = cs[j]? := fun j => cell_of_row w B j cs 37 (0, 0) hg
  have gf : ∀ o, w.frozen? ⟨B, o, none⟩ = false := fun o => frozen_of_row w B o _ 37 hg
  have hBl : B < w.heap.size := (Array.getElem?_eq_some_iff.1 hg).1
  have f0 : Hid (WrS B w w cs) := ⟨hg, KB.refl _ _⟩
  have hi46 := info46s es hes
  have hE := box_E w B (.int .i64 (wrap64 (cn + 1))) (.int .i64 t) es
  clear hg hes
  go_enter Tryz.func51, Tryz.ntmps51
  go_wp2_with (refine wpList_load_rowG rfl 44 _ rfl w.heap.size rfl 44 es (0, 0) _ hE Tryz.underlying44 rfl hi46 ?_)
  have f1 : WrS B w (((w.setCell ⟨B, 2, none⟩ (.int .i64 (wrap64 (cn + 1)))).setCell ⟨B, 3, none⟩ (.int .i64 t)).alloc (.cells es 44)) (cs1 cs cn t) := ((f0.out.set 2 (.int .i64 (wrap64 (cn + 1)))).set 3 (.int .i64 t)).alloc (.cells es 44)
  refine (KC.out _ f1).mono ?_
  intro e W' h
  obtain ⟨rfl, hq⟩ := HQ.out _ _ _ f1 h
  go_wp2_with fail
  go_end0
  exact hq
set_option maxHeartbeats 2000000 in
set_option maxRecDepth 100000 in
theorem chgC15 (B : Nat) (cs es : Array Value) (cn tm t : Int) (w : World) (Q1 : World → Ending → World → Prop) (Q : Ending → World → Prop) (hg : w.heap[B]? = some (.cells cs 37 (0, 0))) (c2 : cs[2]? = some (.int .i64 cn)) (c3 : cs[3]? = some (.int .i64 tm)) (hes : es.size = 13) (e0 : es[0]? = some (.int .i64 15)) (e1 : es[1]? = some (.int .i64 t))
    (KC : Hid (∀ W, WrS B w W (cs1 cs cn t) → Calls Tryz.prog 63 #[.pointer (some ⟨B, 0, none⟩), .agg es] W (Q1 W))) (HQ : Hid (∀ W e W', WrS B w W (cs1 cs cn t) → Q1 W e W' → e = .returned (.tuple #[]) ∧ Q e W')) :
    Calls Tryz.prog 51 #[.pointer (some ⟨B, 0, none⟩), .agg es] w Q := by
  have g0 : ∀ j, w.cell? ⟨B, j, none⟩ = cs[j]? := fun j => cell_of_row w B j cs 37 (0, 0) hg
  have gf : ∀ o, w.frozen? ⟨B, o, none⟩ = false := fun o => frozen_of_row w B o _ 37 hg
  have hBl : B < w.heap.size := (Array.getElem?_eq_some_iff.1 hg).1
  have f0 : Hid (WrS B w w cs) := ⟨hg, KB.refl _ _⟩
  have hi46 := info46s es hes
  have hE := box_E w B (.int .i64 (wrap64 (cn + 1))) (.int .i64 t) es
  clear hg hes
  go_enter Tryz.func51, Tryz.ntmps51
  go_wp2_with (refine wpList_load_rowG rfl 44 _ rfl w.heap.size rfl 44 es (0, 0) _ hE Tryz.underlying44 rfl hi46 ?_)
  have f1 : WrS B w (((w.setCell ⟨B, 2, none⟩ (.int .i64 (wrap64 (cn + 1)))).setCell ⟨B, 3, none⟩ (.int .i64 t)).alloc (.cells es 44)) (cs1 cs cn t) := ((f0.out.set 2 (.int .i64 (wrap64 (cn + 1)))).set 3 (.int .i64 t)).alloc (.cells es 44)
  refine (KC.out _ f1).mono ?_
  intro e W' h
  obtain ⟨rfl, hq⟩ := HQ.out _ _ _ f1 h
  go_wp2_with fail
  go_end0
  exact hq
set_option maxHeartbeats 2000000 in
set_option maxRecDepth 100000 in
theorem chgC16 (B : Nat) (cs es : Array Value) (cn tm t : Int) (w : World) (Q1 : World → Ending → World → Prop) (Q : Ending → World → Prop) (hg : w.heap[B]? = some (.cells cs 37 (0, 0))) (c2 : cs[2]? = some (.int .i64 cn)) (c3 : cs[3]? = some (.int .i64 tm)) (hes : es.size = 13) (e0 : es[0]? = some (.int .i64 16)) (e1 : es[1]? = some (.int .i64 t))
    (KC : Hid (∀ W, WrS B w W (cs1 cs cn t) → Calls Tryz.prog 63 #[.pointer (some ⟨B, 0, none⟩), .agg es] W (Q1 W))) (HQ : Hid (∀ W e W', WrS B w W (cs1 cs cn t) → Q1 W e W' → e = .returned (.tuple #[]) ∧ Q e W')) :
    Calls Tryz.prog 51 #[.pointer (some ⟨B, 0, none⟩), .agg es] w Q := by
  have g0 : ∀ j, w.cell? ⟨B, j, none⟩ = cs[j]? := fun j => cell_of_row w B j cs 37 (0, 0) hg
  have gf : ∀ o, w.frozen? ⟨B, o, none⟩ = false := fun o => frozen_of_row w B o _ 37 hg
  have hBl : B < w.heap.size := (Array.getElem?_eq_some_iff.1 hg).1
  have f0 : Hid (WrS B w w cs) := ⟨hg, KB.refl _ _⟩
  have hi46 := info46s es hes
  have hE := box_E w B (.int .i64 (wrap64 (cn + 1))) (.int .i64 t) es
  clear hg hes
  go_enter Tryz.func51, Tryz.ntmps51
  go_wp2_with (refine wpList_load_rowG rfl 44 _ rfl w.heap.size rfl 44 es (0, 0) _ hE Tryz.underlying44 rfl hi46 ?_)
  have f1 : WrS B w (((w.setCell ⟨B, 2, none⟩ (.int .i64 (wrap64 (cn + 1)))).setCell ⟨B, 3, none⟩ (.int .i64 t)).alloc (.cells es 44)) (cs1 cs cn t) := ((f0.out.set 2 (.int .i64 (wrap64 (cn + 1)))).set 3 (.int .i64 t)).alloc (.cells es 44)
  refine (KC.out _ f1).mono ?_
  intro e W' h
  obtain ⟨rfl, hq⟩ := HQ.out _ _ _ f1 h
  go_wp2_with fail
  go_end0
  exact hq
set_option maxHeartbeats 2000000 in
set_option maxRecDepth 100000 in
theorem chgC17 (B : Nat) (cs es : Array Value) (cn tm t : Int) (w : World) (Q1 : World → Ending → World → Prop) (Q : Ending → World → Prop) (hg : w.heap[B]? = some (.cells cs 37 (0, 0))) (c2 : cs[2]? = some (.int .i64 cn)) (c3 : cs[3]? = some (.int .i64 tm)) (hes : es.size = 13) (e0 : es[0]? = some (.int .i64 17)) (e1 : es[1]? = some (.int .i64 t))
    (KC : Hid (∀ W, WrS B w W (cs1 cs cn t) → Calls Tryz.prog 63 #[.pointer (some ⟨B, 0, none⟩), .agg es] W (Q1 W))) (HQ : Hid (∀ W e W', WrS B w W (cs1 cs cn t) → Q1 W e W' → e = .returned (.tuple #[]) ∧ Q e W')) :
    Calls Tryz.prog 51 #[.pointer (some ⟨B, 0, none⟩), .agg es] w Q := by
  have g0 : ∀ j, w.cell? ⟨B, j, none⟩ = cs[j]? := fun j => cell_of_row w B j cs 37 (0, 0) hg
  have gf : ∀ o, w.frozen? ⟨B, o, none⟩ = false := fun o => frozen_of_row w B o _ 37 hg
  have hBl : B < w.heap.size := (Array.getElem?_eq_some_iff.1 hg).1
  have f0 : Hid (WrS B w w cs) := ⟨hg, KB.refl _ _⟩
  have hi46 := info46s es hes
  have hE := box_E w B (.int .i64 (wrap64 (cn + 1))) (.int .i64 t) es
  clear hg hes
  go_enter Tryz.func51, Tryz.ntmps51
  go_wp2_with (refine wpList_load_rowG rfl 44 _ rfl w.heap.size rfl 44 es (0, 0) _ hE Tryz.underlying44 rfl hi46 ?_)
  have f1 : WrS B w (((w.setCell ⟨B, 2, none⟩ (.int .i64 (wrap64 (cn + 1)))).setCell ⟨B, 3, none⟩ (.int .i64 t)).alloc (.cells es 44)) (cs1 cs cn t) := ((f0.out.set 2 (.int .i64 (wrap64 (cn + 1)))).set 3 (.int .i64 t)).alloc (.cells es 44)
  refine (KC.out _ f1).mono ?_
  intro e W' h
  obtain ⟨rfl, hq⟩ := HQ.out _ _ _ f1 h
  go_wp2_with fail
  go_end0
  exact hq
set_option maxHeartbeats 2000000 in
set_option maxRecDepth 100000 in
theorem chgC18 (B : Nat) (cs es : Array Value) (cn tm t : Int) (w : World) (Q1 : World → Ending → World → Prop) (Q : Ending → World → Prop) (hg : w.heap[B]? = some (.cells cs 37 (0, 0))) (c2 : cs[2]? = some (.int .i64 cn)) (c3 : cs[3]? = some (.int .i64 tm)) (hes : es.size = 13) (e0 : es[0]? = some (.int .i64 18)) (e1 : es[1]? = some (.int .i64 t))
    (KC : Hid (∀ W, WrS B w W (cs1 cs cn t) → Calls Tryz.prog 63 #[.pointer (some ⟨B, 0, none⟩), .agg es] W (Q1 W))) (HQ : Hid (∀ W e W', WrS B w W (cs1 cs cn t) → Q1 W e W' → e = .returned (.tuple #[]) ∧ Q e W')) :
    Calls Tryz.prog 51 #[.pointer (some ⟨B, 0, none⟩), .agg es] w Q := by
  have g0 : ∀ j, w.cell? ⟨B, j, none⟩ = cs[j]? := fun j => cell_of_row w B j cs 37 (0, 0) hg
  have gf : ∀ o, w.frozen? ⟨B, o, none⟩ = false := fun o => frozen_of_row w B o _ 37 hg
  have hBl : B < w.heap.size := (Array.getElem?_eq_some_iff.1 hg).1
  have f0 : Hid (WrS B w w cs) := ⟨hg, KB.refl _ _⟩
  have hi46 := info46s es hes
  have hE := box_E w B (.int .i64 (wrap64 (cn + 1))) (.int .i64 t) es
  clear hg hes
  go_enter Tryz.func51, Tryz.ntmps51
  go_wp2_with (refine wpList_load_rowG rfl 44 _ rfl w.heap.size rfl 44 es (0, 0) _ hE Tryz.underlying44 rfl hi46 ?_)
  have f1 : WrS B w (((w.setCell ⟨B, 2, none⟩ (.int .i64 (wrap64 (cn + 1)))).setCell ⟨B, 3, none⟩ (.int .i64 t)).alloc (.cells es 44)) (cs1 cs cn t) := ((f0.out.set 2 (.int .i64 (wrap64 (cn + 1)))).set 3 (.int .i64 t)).alloc (.cells es 44)
  refine (KC.out _ f1).mono ?_
  intro e W' h
  obtain ⟨rfl, hq⟩ := HQ.out _ _ _ f1 h
  go_wp2_with fail
  go_end0
  exact hq
set_option maxHeartbeats 2000000 in
set_option maxRecDepth 100000 in
theorem chgC19 (B : Nat) (cs es : Array Value) (cn tm t : Int) (w : World) (Q1 : World → Ending → World → Prop) (Q : Ending → World → Prop) (hg : w.heap[B]? = some (.cells cs 37 (0, 0))) (c2 : cs[2]? = some (.int .i64 cn)) (c3 : cs[3]? = some (.int .i64 tm)) (hes : es.size = 13) (e0 : es[0]? = some (.int .i64 19)) (e1 : es[1]? = some (.int .i64 t))
    (KC : Hid (∀ W, WrS B w W (cs1 cs cn t) → Calls Tryz.prog 63 #[.pointer (some ⟨B, 0, none⟩), .agg es] W (Q1 W))) (HQ : Hid (∀ W e W', WrS B w W (cs1 cs cn t) → Q1 W e W' → e = .returned (.tuple #[]) ∧ Q e W')) :
    Calls Tryz.prog 51 #[.pointer (some ⟨B, 0, none⟩), .agg es] w Q := by
  have g0 : ∀ j, w.cell? ⟨B, j, none⟩ = cs[j]? := fun j => cell_of_row w B j cs 37 (0, 0) hg
  have gf : ∀ o, w.frozen? ⟨B, o, none⟩ = false := fun o => frozen_of_row w B o _ 37 hg
  have hBl : B < w.heap.size := (Array.getElem?_eq_some_iff.1 hg).1
  have f0 : Hid (WrS B w w cs) := ⟨hg, KB.refl _ _⟩
  have hi46 := info46s es hes
  have hE := box_E w B (.int .i64 (wrap64 (cn + 1))) (.int .i64 t) es
  clear hg hes
  go_enter Tryz.func51, Tryz.ntmps51
  go_wp2_with (refine wpList_load_rowG rfl 44 _ rfl w.heap.size rfl 44 es (0, 0) _ hE Tryz.underlying44 rfl hi46 ?_)
  have f1 : WrS B w (((w.setCell ⟨B, 2, none⟩ (.int .i64 (wrap64 (cn + 1)))).setCell ⟨B, 3, none⟩ (.int .i64 t)).alloc (.cells es 44)) (cs1 cs cn t) := ((f0.out.set 2 (.int .i64 (wrap64 (cn + 1)))).set 3 (.int .i64 t)).alloc (.cells es 44)
  refine (KC.out _ f1).mono ?_
  intro e W' h
  obtain ⟨rfl, hq⟩ := HQ.out _ _ _ f1 h
  go_wp2_with fail
  go_end0
  exact hq
set_option maxHeartbeats 2000000 in
set_option maxRecDepth 100000 in
theorem chg1 (B : Nat) (cs es : Array Value) (cn tm t st dl d f f1 m m1 : Int) (pc pc1 : Nat) (fb : Bool) (ty q : ByteArray) (k0 x0 b0 : Int) (s0 : ByteArray) (a0 : Option Addr) (m0 n0 : Nat) (k1 x1 b1 : Int) (s1 : ByteArray) (a1 : Option Addr) (l1 n1 : Nat) (w : World) (hg : w.heap[B]? = some (.cells cs 37 (0, 0))) (c1 : cs[1]? = some (.int .i64 st)) (c2 : cs[2]? = some (.int .i64 cn)) (c3 : cs[3]? = some (.int .i64 tm)) (c4 : cs[4]? = some (.int .i64 dl)) (c7 : cs[7]? = some (.string ty)) (c8 : cs[8]? = some (.int .i64 k1)) (c9 : cs[9]? = some (.int .i64 x1)) (c10 : cs[10]? = some (.int .u64 b1)) (c11 : cs[11]? = some (.string s1)) (c12 : cs[12]? = some (.slice a1 l1 n1)) (c13 : cs[13]? = some (.int .i64 f1)) (c14 : cs[14]? = some (.int .u64 (pc1 : Int))) (c15 : cs[15]? = some (.int .i64 m1)) (c21 : cs[21]? = some (.bool fb)) (e0 : es[0]? = some (.int .i64 1)) (e1 : es[1]? = some (.int .i64 t)) (e3 : es[3]? = some (.int .i64 d)) (e4 : es[4]? = some (.string q)) (e5 : es[5]? = some (.int .i64 k0)) (e6 : es[6]? = some (.int .i64 x0)) (e7 : es[7]? = some (.int .u64 b0)) (e8 : es[8]? = some (.string s0)) (e9 : es[9]? = some (.slice a0 m0 n0)) (e10 : es[10]? = some (.int .i64 f)) (e11 : es[11]? = some (.int .u64 (pc : Int))) (e12 : es[12]? = some (.int .i64 m)) :
    Calls Tryz.prog 51 #[.pointer (some ⟨B, 0, none⟩), .agg es] w (PuP B cs [(2, .int .i64 (wrap64 (cn + 1))), (3, .int .i64 t), (1, .int .i64 1), (21, .bool true), (7, .string q), (8, .int .i64 k0), (9, .int .i64 x0), (10, .int .u64 b0), (11, .string s0), (12, .slice a0 m0 n0), (4, .int .i64 d), (13, .int .i64 f), (14, .int .u64 (pc : Int)), (15, .int .i64 m)] w) := by
  have g0 : ∀ j, w.cell? ⟨B, j, none⟩ = cs[j]? := fun j => cell_of_row w B j cs 37 (0, 0) hg
  have gf : ∀ o, w.frozen? ⟨B, o, none⟩ = false := fun o => frozen_of_row w B o _ 37 hg
  have hBl : B < w.heap.size := (Array.getElem?_eq_some_iff.1 hg).1
  have f0 : Hid (WrS B w w cs) := ⟨hg, KB.refl _ _⟩
  have HQ : Hid (∀ W, WrS B w W (puts cs [(2, .int .i64 (wrap64 (cn + 1))), (3, .int .i64 t), (1, .int .i64 1), (21, .bool true), (7, .string q), (8, .int .i64 k0), (9, .int .i64 x0), (10, .int .u64 b0), (11, .string s0), (12, .slice a0 m0 n0), (4, .int .i64 d), (13, .int .i64 f), (14, .int .u64 (pc : Int)), (15, .int .i64 m)]) → PuP B cs [(2, .int .i64 (wrap64 (cn + 1))), (3, .int .i64 t), (1, .int .i64 1), (21, .bool true), (7, .string q), (8, .int .i64 k0), (9, .int .i64 x0), (10, .int .u64 b0), (11, .string s0), (12, .slice a0 m0 n0), (4, .int .i64 d), (13, .int .i64 f), (14, .int .u64 (pc : Int)), (15, .int .i64 m)] w (.returned (.tuple #[])) W) := fun W h => pu_mk h
  generalize hps : ([(2, .int .i64 (wrap64 (cn + 1))), (3, .int .i64 t), (1, .int .i64 1), (21, .bool true), (7, .string q), (8, .int .i64 k0), (9, .int .i64 x0), (10, .int .u64 b0), (11, .string s0), (12, .slice a0 m0 n0), (4, .int .i64 d), (13, .int .i64 f), (14, .int .u64 (pc : Int)), (15, .int .i64 m)] : List (Nat × Value)) = ps at HQ ⊢
  have HP : Hid (([(2, .int .i64 (wrap64 (cn + 1))), (3, .int .i64 t), (1, .int .i64 1), (21, .bool true), (7, .string q), (8, .int .i64 k0), (9, .int .i64 x0), (10, .int .u64 b0), (11, .string s0), (12, .slice a0 m0 n0), (4, .int .i64 d), (13, .int .i64 f), (14, .int .u64 (pc : Int)), (15, .int .i64 m)] : List (Nat × Value)) = ps) := hps
  generalize PuP B cs ps w = Q at HQ ⊢
  clear hps hg
  go_enter Tryz.func51, Tryz.ntmps51
  go_wp2_with fail
  have hE : (((((w.setCell ⟨B, 2, none⟩ (.int .i64 (wrap64 (cn + 1)))).setCell ⟨B, 3, none⟩ (.int .i64 t)).setCell ⟨B, 1, none⟩ (.int .i64 1)).setCell ⟨B, 21, none⟩ (.bool true)).alloc (.cells es 44)).heap[w.heap.size]? = some (.cells es 44 (0, 0)) := by
    have := heap_alloc_new ((((w.setCell ⟨B, 2, none⟩ (.int .i64 (wrap64 (cn + 1)))).setCell ⟨B, 3, none⟩ (.int .i64 t)).setCell ⟨B, 1, none⟩ (.int .i64 1)).setCell ⟨B, 21, none⟩ (.bool true)) (.cells es 44)
    simpa [World.setCell] using this
  have fw := ((((f0.out.set 2 (.int .i64 (wrap64 (cn + 1)))).set 3 (.int .i64 t)).set 1 (.int .i64 1)).set 21 (.bool true)).alloc (.cells es 44)
  have z4 : Hid ((((((cs.setIfInBounds 2 (.int .i64 (wrap64 (cn + 1)))).setIfInBounds 3 (.int .i64 t)).setIfInBounds 1 (.int .i64 1)).setIfInBounds 21 (.bool true)) = puts cs [(2, .int .i64 (wrap64 (cn + 1))), (3, .int .i64 t), (1, .int .i64 1), (21, .bool true)])) := rfl
  have y := fun (q : Nat) (h1 : q ≠ 1) (h2 : q ≠ 2) (h3 : q ≠ 3) (h4 : q ≠ 21) => (cell_of_row _ B q _ 37 (0, 0) fw.row).trans (puts_ne (cs := cs) (q := q) (ps := [(2, .int .i64 (wrap64 (cn + 1))), (3, .int .i64 t), (1, .int .i64 1), (21, .bool true)]) (by intro p hp; simp at hp; rcases hp with rfl | rfl | rfl | rfl <;> simp <;> omega))
  have yf : ∀ o, _ = false := fun o => frozen_of_row _ B o _ 37 fw.row
  generalize (((cs.setIfInBounds 2 (.int .i64 (wrap64 (cn + 1)))).setIfInBounds 3 (.int .i64 t)).setIfInBounds 1 (.int .i64 1)).setIfInBounds 21 (.bool true) = cs4 at fw z4
  generalize ((((w.setCell ⟨B, 2, none⟩ (.int .i64 (wrap64 (cn + 1)))).setCell ⟨B, 3, none⟩ (.int .i64 t)).setCell ⟨B, 1, none⟩ (.int .i64 1)).setCell ⟨B, 21, none⟩ (.bool true)).alloc (.cells es 44) = W at hE fw y yf ⊢
  have HFW : Hid (WrS B w W cs4) := fw
  have f4 : Hid (WrS B W W cs4) := ⟨fw.row, KB.refl _ _⟩
  have keepW : Hid (∀ W' cs', WrS B W W' cs' → ∀ j, W'.cell? ⟨w.heap.size, j, none⟩ = es[j]?) := fun W' cs' h j => cell_of_row W' _ j es 44 (0, 0) (row_kb hE h.kb (by omega))
  have y4 := (y 4 (by decide) (by decide) (by decide) (by decide)).trans c4
  have y7 := (y 7 (by decide) (by decide) (by decide) (by decide)).trans c7
  have y8 := (y 8 (by decide) (by decide) (by decide) (by decide)).trans c8
  have y9 := (y 9 (by decide) (by decide) (by decide) (by decide)).trans c9
  have y10 := (y 10 (by decide) (by decide) (by decide) (by decide)).trans c10
  have y11 := (y 11 (by decide) (by decide) (by decide) (by decide)).trans c11
  have y12 := (y 12 (by decide) (by decide) (by decide) (by decide)).trans c12
  have y13 := (y 13 (by decide) (by decide) (by decide) (by decide)).trans c13
  have y14 := (y 14 (by decide) (by decide) (by decide) (by decide)).trans c14
  have y15 := (y 15 (by decide) (by decide) (by decide) (by decide)).trans c15
  clear y fw hE g0 gf c1 c2 c3 c4 c7 c8 c9 c10 c11 c12 c13 c14 c15 c21
  refine wp_region_held_drew (S := (fun w' => ∀ j, w'.cell? ⟨w.heap.size, j, none⟩ = es[j]?)) (by kernel_rfl) (fun j => keepW.out _ _ f4.out j) (fun hHeld => ?_)
  change wpAnyH _ _ _ _ _ _ _ _ (World.drew _)
  refine wpAnyH_take (i := 0) (oi := { dst := some 26, op := Go.Op.move (Go.Operand.tmp 0), type := 87, pos := "step.go:100", after := #[], guard := none }) (v := ?_) rfl (by kernel_rfl) (by kernel_rfl) (by kernel_rfl) (fun _ _ _ h => h) (Or.inl ⟨by rfl, ?_⟩) hHeld ?_
  rotate_left 1
  · (intro w hSw; (try dsimp only at hSw); go_simp <;> with_reducible rfl)
  simp only [Act.put, List.setIfInBounds_toArray, List.set_cons_zero, List.set_cons_succ]
  refine wpAnyH_take (i := 1) (oi := { dst := some 27, op := Go.Op.move (Go.Operand.tmp 0), type := 87, pos := "step.go:100", after := #[{ on := 14, ground := Go.Ground.gcOnly Go.Departure.lateStores }], guard := none }) (v := ?_) rfl (by kernel_rfl) (by kernel_rfl) (by kernel_rfl) (fun _ _ _ h => h) (Or.inl ⟨by rfl, ?_⟩) hHeld ?_
  rotate_left 1
  · (intro w hSw; (try dsimp only at hSw); go_simp <;> with_reducible rfl)
  simp only [Act.put, List.setIfInBounds_toArray, List.set_cons_zero, List.set_cons_succ]
  refine wpAnyH_take (i := 2) (oi := { dst := some 28, op := Go.Op.move (Go.Operand.tmp 0), type := 87, pos := "step.go:100", after := #[{ on := 17, ground := Go.Ground.gcOnly Go.Departure.lateStores }], guard := none }) (v := ?_) rfl (by kernel_rfl) (by kernel_rfl) (by kernel_rfl) (fun _ _ _ h => h) (Or.inl ⟨by rfl, ?_⟩) hHeld ?_
  rotate_left 1
  · (intro w hSw; (try dsimp only at hSw); go_simp <;> with_reducible rfl)
  simp only [Act.put, List.setIfInBounds_toArray, List.set_cons_zero, List.set_cons_succ]
  refine wpAnyH_take (i := 3) (oi := { dst := some 29, op := Go.Op.move (Go.Operand.tmp 0), type := 87, pos := "step.go:100", after := #[{ on := 20, ground := Go.Ground.gcOnly Go.Departure.lateStores }], guard := none }) (v := ?_) rfl (by kernel_rfl) (by kernel_rfl) (by kernel_rfl) (fun _ _ _ h => h) (Or.inl ⟨by rfl, ?_⟩) hHeld ?_
  rotate_left 1
  · (intro w hSw; (try dsimp only at hSw); go_simp <;> with_reducible rfl)
  simp only [Act.put, List.setIfInBounds_toArray, List.set_cons_zero, List.set_cons_succ]
  refine wpAnyH_take (i := 4) (oi := { dst := some 30, op := Go.Op.fieldAddr 44 (Go.Operand.tmp 3) 4, type := 0, pos := "step.go:100", after := #[], guard := none }) (v := ?_) rfl (by kernel_rfl) (by kernel_rfl) (by kernel_rfl) (fun _ _ _ h => h) (Or.inl ⟨by rfl, ?_⟩) hHeld ?_
  rotate_left 1
  · (intro w hSw; (try dsimp only at hSw); go_simp <;> with_reducible rfl)
  simp only [Act.put, List.setIfInBounds_toArray, List.set_cons_zero, List.set_cons_succ]
  refine wpAnyH_take (i := 5) (oi := { dst := some 31, op := Go.Op.load 9 (Go.Operand.tmp 30), type := 9, pos := "step.go:100", after := #[{ on := 4, ground := Go.Ground.data }], guard := none }) (v := ?_) rfl (by kernel_rfl) (by kernel_rfl) (by kernel_rfl) (fun _ _ _ h => h) (Or.inl ⟨by rfl, ?_⟩) hHeld ?_
  rotate_left 1
  · (intro w hSw; (try dsimp only at hSw); go_simp <;> with_reducible rfl)
  simp only [Act.put, List.setIfInBounds_toArray, List.set_cons_zero, List.set_cons_succ]
  refine wpAnyH_take (i := 6) (oi := { dst := some 32, op := Go.Op.fieldAddr 44 (Go.Operand.tmp 3) 5, type := 0, pos := "step.go:100", after := #[{ on := 14, ground := Go.Ground.gcOnly Go.Departure.lateStores }], guard := none }) (v := ?_) rfl (by kernel_rfl) (by kernel_rfl) (by kernel_rfl) (fun _ _ _ h => h) (Or.inl ⟨by rfl, ?_⟩) hHeld ?_
  rotate_left 1
  · (intro w hSw; (try dsimp only at hSw); go_simp <;> with_reducible rfl)
  simp only [Act.put, List.setIfInBounds_toArray, List.set_cons_zero, List.set_cons_succ]
  refine wpAnyH_take (i := 7) (oi := { dst := some 33, op := Go.Op.load 29 (Go.Operand.tmp 32), type := 29, pos := "step.go:100", after := #[{ on := 6, ground := Go.Ground.data }, { on := 14, ground := Go.Ground.gcOnly Go.Departure.lateStores }], guard := none }) (v := ?_) rfl (by kernel_rfl) (by kernel_rfl) (by kernel_rfl) (fun _ _ _ h => h) (Or.inl ⟨by rfl, ?_⟩) hHeld ?_
  rotate_left 1
  · (intro w hSw; (try dsimp only at hSw); go_simp <;> with_reducible rfl)
  simp only [Act.put, List.setIfInBounds_toArray, List.set_cons_zero, List.set_cons_succ]
  refine wpAnyH_take (i := 8) (oi := { dst := some 34, op := Go.Op.fieldAddr 44 (Go.Operand.tmp 3) 3, type := 0, pos := "step.go:100", after := #[{ on := 17, ground := Go.Ground.gcOnly Go.Departure.lateStores }], guard := none }) (v := ?_) rfl (by kernel_rfl) (by kernel_rfl) (by kernel_rfl) (fun _ _ _ h => h) (Or.inl ⟨by rfl, ?_⟩) hHeld ?_
  rotate_left 1
  · (intro w hSw; (try dsimp only at hSw); go_simp <;> with_reducible rfl)
  simp only [Act.put, List.setIfInBounds_toArray, List.set_cons_zero, List.set_cons_succ]
  refine wpAnyH_take (i := 9) (oi := { dst := some 35, op := Go.Op.load 3 (Go.Operand.tmp 34), type := 3, pos := "step.go:100", after := #[{ on := 8, ground := Go.Ground.data }, { on := 17, ground := Go.Ground.gcOnly Go.Departure.lateStores }], guard := none }) (v := ?_) rfl (by kernel_rfl) (by kernel_rfl) (by kernel_rfl) (fun _ _ _ h => h) (Or.inl ⟨by rfl, ?_⟩) hHeld ?_
  rotate_left 1
  · (intro w hSw; (try dsimp only at hSw); go_simp <;> with_reducible rfl)
  simp only [Act.put, List.setIfInBounds_toArray, List.set_cons_zero, List.set_cons_succ]
  refine wpAnyH_take (i := 10) (oi := { dst := some 36, op := Go.Op.fieldAddr 44 (Go.Operand.tmp 3) 6, type := 0, pos := "step.go:100", after := #[{ on := 20, ground := Go.Ground.gcOnly Go.Departure.lateStores }], guard := none }) (v := ?_) rfl (by kernel_rfl) (by kernel_rfl) (by kernel_rfl) (fun _ _ _ h => h) (Or.inl ⟨by rfl, ?_⟩) hHeld ?_
  rotate_left 1
  · (intro w hSw; (try dsimp only at hSw); go_simp <;> with_reducible rfl)
  simp only [Act.put, List.setIfInBounds_toArray, List.set_cons_zero, List.set_cons_succ]
  refine wpAnyH_take (i := 11) (oi := { dst := some 37, op := Go.Op.load 31 (Go.Operand.tmp 36), type := 31, pos := "step.go:100", after := #[{ on := 10, ground := Go.Ground.data }, { on := 20, ground := Go.Ground.gcOnly Go.Departure.lateStores }], guard := none }) (v := ?_) rfl (by kernel_rfl) (by kernel_rfl) (by kernel_rfl) (fun _ _ _ h => h) (Or.inl ⟨by rfl, ?_⟩) hHeld ?_
  rotate_left 1
  · (intro w hSw; (try dsimp only at hSw); go_simp <;> with_reducible rfl)
  simp only [Act.put, List.setIfInBounds_toArray, List.set_cons_zero, List.set_cons_succ]
  refine wpAnyH_take (i := 12) (oi := { dst := some 38, op := Go.Op.nilCheck (Go.Operand.tmp 26), type := 0, pos := "step.go:100", after := #[{ on := 0, ground := Go.Ground.data }, { on := 0, ground := Go.Ground.phase }, { on := 1, ground := Go.Ground.textOnly Go.Departure.lateStores }, { on := 2, ground := Go.Ground.textOnly Go.Departure.lateStores }, { on := 3, ground := Go.Ground.textOnly Go.Departure.lateStores }, { on := 4, ground := Go.Ground.phase }, { on := 5, ground := Go.Ground.phase }, { on := 6, ground := Go.Ground.textOnly Go.Departure.lateStores }, { on := 7, ground := Go.Ground.textOnly Go.Departure.lateStores }, { on := 8, ground := Go.Ground.textOnly Go.Departure.lateStores }, { on := 9, ground := Go.Ground.textOnly Go.Departure.lateStores }, { on := 10, ground := Go.Ground.textOnly Go.Departure.lateStores }, { on := 11, ground := Go.Ground.textOnly Go.Departure.lateStores }], guard := none }) (v := ?_) rfl (by kernel_rfl) (by kernel_rfl) (by kernel_rfl) (fun _ _ _ h => h) (Or.inl ⟨by rfl, ?_⟩) hHeld ?_
  rotate_left 1
  · (intro w hSw; (try dsimp only at hSw); go_simp <;> with_reducible rfl)
  simp only [Act.put, List.setIfInBounds_toArray, List.set_cons_zero, List.set_cons_succ]
  refine wpAnyH_take (i := 13) (oi := { dst := some 39, op := Go.Op.fieldAddr 37 (Go.Operand.tmp 38) 7, type := 0, pos := "step.go:100", after := #[{ on := 12, ground := Go.Ground.data }, { on := 0, ground := Go.Ground.phase }, { on := 1, ground := Go.Ground.textOnly Go.Departure.lateStores }, { on := 2, ground := Go.Ground.textOnly Go.Departure.lateStores }, { on := 3, ground := Go.Ground.textOnly Go.Departure.lateStores }, { on := 4, ground := Go.Ground.phase }, { on := 5, ground := Go.Ground.phase }, { on := 6, ground := Go.Ground.textOnly Go.Departure.lateStores }, { on := 7, ground := Go.Ground.textOnly Go.Departure.lateStores }, { on := 8, ground := Go.Ground.textOnly Go.Departure.lateStores }, { on := 9, ground := Go.Ground.textOnly Go.Departure.lateStores }, { on := 10, ground := Go.Ground.textOnly Go.Departure.lateStores }, { on := 11, ground := Go.Ground.textOnly Go.Departure.lateStores }], guard := none }) (v := ?_) rfl (by kernel_rfl) (by kernel_rfl) (by kernel_rfl) (fun _ _ _ h => h) (Or.inl ⟨by rfl, ?_⟩) hHeld ?_
  rotate_left 1
  · (intro w hSw; (try dsimp only at hSw); go_simp <;> with_reducible rfl)
  simp only [Act.put, List.setIfInBounds_toArray, List.set_cons_zero, List.set_cons_succ]
  refine wpAnyH_ready (rs := [14]) (by kernel_rfl) (by simp) ?_
  refine AllReadyH.cons (o := { dst := none, op := Go.Op.store 9 (Go.Operand.tmp 39) (Go.Operand.tmp 31), type := 0, pos := "step.go:100", after := #[{ on := 13, ground := Go.Ground.data }, { on := 5, ground := Go.Ground.data }, { on := 0, ground := Go.Ground.phase }, { on := 1, ground := Go.Ground.textOnly Go.Departure.lateStores }, { on := 2, ground := Go.Ground.textOnly Go.Departure.lateStores }, { on := 3, ground := Go.Ground.textOnly Go.Departure.lateStores }, { on := 4, ground := Go.Ground.phase }, { on := 5, ground := Go.Ground.phase }, { on := 6, ground := Go.Ground.textOnly Go.Departure.lateStores }, { on := 7, ground := Go.Ground.textOnly Go.Departure.lateStores }, { on := 8, ground := Go.Ground.textOnly Go.Departure.lateStores }, { on := 9, ground := Go.Ground.textOnly Go.Departure.lateStores }, { on := 10, ground := Go.Ground.textOnly Go.Departure.lateStores }, { on := 11, ground := Go.Ground.textOnly Go.Departure.lateStores }], guard := none }) rfl (fun K hK => ?_) AllReadyH.nil
  go_simp
  refine hK.out _ _ (keepW.out _ _ (by with_reducible repeat (first | exact f4.out | apply WrS.set | apply WrS.drew | apply WrS.alloc))) (fun hHeld => ?_)
  clear hK K
  refine wpAnyH_take (i := 15) (oi := { dst := some 40, op := Go.Op.nilCheck (Go.Operand.tmp 27), type := 0, pos := "step.go:100", after := #[{ on := 1, ground := Go.Ground.data }, { on := 0, ground := Go.Ground.phase }, { on := 1, ground := Go.Ground.phase }, { on := 2, ground := Go.Ground.textOnly Go.Departure.lateStores }, { on := 3, ground := Go.Ground.textOnly Go.Departure.lateStores }, { on := 4, ground := Go.Ground.phase }, { on := 5, ground := Go.Ground.phase }, { on := 6, ground := Go.Ground.phase }, { on := 7, ground := Go.Ground.phase }, { on := 8, ground := Go.Ground.textOnly Go.Departure.lateStores }, { on := 9, ground := Go.Ground.textOnly Go.Departure.lateStores }, { on := 10, ground := Go.Ground.textOnly Go.Departure.lateStores }, { on := 11, ground := Go.Ground.textOnly Go.Departure.lateStores }, { on := 12, ground := Go.Ground.phase }, { on := 13, ground := Go.Ground.phase }, { on := 14, ground := Go.Ground.phase }], guard := none }) (v := ?_) rfl (by kernel_rfl) (by kernel_rfl) (by kernel_rfl) (fun _ _ _ h => h) (Or.inl ⟨by rfl, ?_⟩) hHeld ?_
  rotate_left 1
  · (intro w hSw; (try dsimp only at hSw); go_simp <;> with_reducible rfl)
  simp only [Act.put, List.setIfInBounds_toArray, List.set_cons_zero, List.set_cons_succ]
  refine wpAnyH_take (i := 16) (oi := { dst := some 41, op := Go.Op.fieldAddr 37 (Go.Operand.tmp 40) 8, type := 0, pos := "step.go:100", after := #[{ on := 15, ground := Go.Ground.data }, { on := 0, ground := Go.Ground.phase }, { on := 1, ground := Go.Ground.phase }, { on := 2, ground := Go.Ground.textOnly Go.Departure.lateStores }, { on := 3, ground := Go.Ground.textOnly Go.Departure.lateStores }, { on := 4, ground := Go.Ground.phase }, { on := 5, ground := Go.Ground.phase }, { on := 6, ground := Go.Ground.phase }, { on := 7, ground := Go.Ground.phase }, { on := 8, ground := Go.Ground.textOnly Go.Departure.lateStores }, { on := 9, ground := Go.Ground.textOnly Go.Departure.lateStores }, { on := 10, ground := Go.Ground.textOnly Go.Departure.lateStores }, { on := 11, ground := Go.Ground.textOnly Go.Departure.lateStores }, { on := 12, ground := Go.Ground.phase }, { on := 13, ground := Go.Ground.phase }, { on := 14, ground := Go.Ground.phase }], guard := none }) (v := ?_) rfl (by kernel_rfl) (by kernel_rfl) (by kernel_rfl) (fun _ _ _ h => h) (Or.inl ⟨by rfl, ?_⟩) hHeld ?_
  rotate_left 1
  · (intro w hSw; (try dsimp only at hSw); go_simp <;> with_reducible rfl)
  simp only [Act.put, List.setIfInBounds_toArray, List.set_cons_zero, List.set_cons_succ]
  refine wpAnyH_ready (rs := [17]) (by kernel_rfl) (by simp) ?_
  refine AllReadyH.cons (o := { dst := none, op := Go.Op.store 29 (Go.Operand.tmp 41) (Go.Operand.tmp 33), type := 0, pos := "step.go:100", after := #[{ on := 16, ground := Go.Ground.data }, { on := 7, ground := Go.Ground.data }, { on := 14, ground := Go.Ground.chain }, { on := 0, ground := Go.Ground.phase }, { on := 1, ground := Go.Ground.phase }, { on := 2, ground := Go.Ground.textOnly Go.Departure.lateStores }, { on := 3, ground := Go.Ground.textOnly Go.Departure.lateStores }, { on := 4, ground := Go.Ground.phase }, { on := 5, ground := Go.Ground.phase }, { on := 6, ground := Go.Ground.phase }, { on := 7, ground := Go.Ground.phase }, { on := 8, ground := Go.Ground.textOnly Go.Departure.lateStores }, { on := 9, ground := Go.Ground.textOnly Go.Departure.lateStores }, { on := 10, ground := Go.Ground.textOnly Go.Departure.lateStores }, { on := 11, ground := Go.Ground.textOnly Go.Departure.lateStores }, { on := 12, ground := Go.Ground.phase }, { on := 13, ground := Go.Ground.phase }, { on := 14, ground := Go.Ground.phase }], guard := none }) rfl (fun K hK => ?_) AllReadyH.nil
  go_simp
  refine hK.out _ _ (keepW.out _ _ (by with_reducible repeat (first | exact f4.out | apply WrS.set | apply WrS.drew | apply WrS.alloc))) (fun hHeld => ?_)
  clear hK K
  refine wpAnyH_take (i := 18) (oi := { dst := some 42, op := Go.Op.nilCheck (Go.Operand.tmp 28), type := 0, pos := "step.go:100", after := #[{ on := 2, ground := Go.Ground.data }, { on := 0, ground := Go.Ground.phase }, { on := 1, ground := Go.Ground.phase }, { on := 2, ground := Go.Ground.phase }, { on := 3, ground := Go.Ground.textOnly Go.Departure.lateStores }, { on := 4, ground := Go.Ground.phase }, { on := 5, ground := Go.Ground.phase }, { on := 6, ground := Go.Ground.phase }, { on := 7, ground := Go.Ground.phase }, { on := 8, ground := Go.Ground.phase }, { on := 9, ground := Go.Ground.phase }, { on := 10, ground := Go.Ground.textOnly Go.Departure.lateStores }, { on := 11, ground := Go.Ground.textOnly Go.Departure.lateStores }, { on := 12, ground := Go.Ground.phase }, { on := 13, ground := Go.Ground.phase }, { on := 14, ground := Go.Ground.phase }, { on := 15, ground := Go.Ground.phase }, { on := 16, ground := Go.Ground.phase }, { on := 17, ground := Go.Ground.phase }], guard := none }) (v := ?_) rfl (by kernel_rfl) (by kernel_rfl) (by kernel_rfl) (fun _ _ _ h => h) (Or.inl ⟨by rfl, ?_⟩) hHeld ?_
  rotate_left 1
  · (intro w hSw; (try dsimp only at hSw); go_simp <;> with_reducible rfl)
  simp only [Act.put, List.setIfInBounds_toArray, List.set_cons_zero, List.set_cons_succ]
  refine wpAnyH_take (i := 19) (oi := { dst := some 43, op := Go.Op.fieldAddr 37 (Go.Operand.tmp 42) 4, type := 0, pos := "step.go:100", after := #[{ on := 18, ground := Go.Ground.data }, { on := 0, ground := Go.Ground.phase }, { on := 1, ground := Go.Ground.phase }, { on := 2, ground := Go.Ground.phase }, { on := 3, ground := Go.Ground.textOnly Go.Departure.lateStores }, { on := 4, ground := Go.Ground.phase }, { on := 5, ground := Go.Ground.phase }, { on := 6, ground := Go.Ground.phase }, { on := 7, ground := Go.Ground.phase }, { on := 8, ground := Go.Ground.phase }, { on := 9, ground := Go.Ground.phase }, { on := 10, ground := Go.Ground.textOnly Go.Departure.lateStores }, { on := 11, ground := Go.Ground.textOnly Go.Departure.lateStores }, { on := 12, ground := Go.Ground.phase }, { on := 13, ground := Go.Ground.phase }, { on := 14, ground := Go.Ground.phase }, { on := 15, ground := Go.Ground.phase }, { on := 16, ground := Go.Ground.phase }, { on := 17, ground := Go.Ground.phase }], guard := none }) (v := ?_) rfl (by kernel_rfl) (by kernel_rfl) (by kernel_rfl) (fun _ _ _ h => h) (Or.inl ⟨by rfl, ?_⟩) hHeld ?_
  rotate_left 1
  · (intro w hSw; (try dsimp only at hSw); go_simp <;> with_reducible rfl)
  simp only [Act.put, List.setIfInBounds_toArray, List.set_cons_zero, List.set_cons_succ]
  refine wpAnyH_ready (rs := [20]) (by kernel_rfl) (by simp) ?_
  refine AllReadyH.cons (o := { dst := none, op := Go.Op.store 3 (Go.Operand.tmp 43) (Go.Operand.tmp 35), type := 0, pos := "step.go:100", after := #[{ on := 19, ground := Go.Ground.data }, { on := 9, ground := Go.Ground.data }, { on := 17, ground := Go.Ground.chain }, { on := 0, ground := Go.Ground.phase }, { on := 1, ground := Go.Ground.phase }, { on := 2, ground := Go.Ground.phase }, { on := 3, ground := Go.Ground.textOnly Go.Departure.lateStores }, { on := 4, ground := Go.Ground.phase }, { on := 5, ground := Go.Ground.phase }, { on := 6, ground := Go.Ground.phase }, { on := 7, ground := Go.Ground.phase }, { on := 8, ground := Go.Ground.phase }, { on := 9, ground := Go.Ground.phase }, { on := 10, ground := Go.Ground.textOnly Go.Departure.lateStores }, { on := 11, ground := Go.Ground.textOnly Go.Departure.lateStores }, { on := 12, ground := Go.Ground.phase }, { on := 13, ground := Go.Ground.phase }, { on := 14, ground := Go.Ground.phase }, { on := 15, ground := Go.Ground.phase }, { on := 16, ground := Go.Ground.phase }, { on := 17, ground := Go.Ground.phase }], guard := none }) rfl (fun K hK => ?_) AllReadyH.nil
  go_simp
  refine hK.out _ _ (keepW.out _ _ (by with_reducible repeat (first | exact f4.out | apply WrS.set | apply WrS.drew | apply WrS.alloc))) (fun hHeld => ?_)
  clear hK K
  refine wpAnyH_take (i := 21) (oi := { dst := some 44, op := Go.Op.nilCheck (Go.Operand.tmp 29), type := 0, pos := "step.go:100", after := #[{ on := 3, ground := Go.Ground.data }, { on := 0, ground := Go.Ground.phase }, { on := 1, ground := Go.Ground.phase }, { on := 2, ground := Go.Ground.phase }, { on := 3, ground := Go.Ground.phase }, { on := 4, ground := Go.Ground.phase }, { on := 5, ground := Go.Ground.phase }, { on := 6, ground := Go.Ground.phase }, { on := 7, ground := Go.Ground.phase }, { on := 8, ground := Go.Ground.phase }, { on := 9, ground := Go.Ground.phase }, { on := 10, ground := Go.Ground.phase }, { on := 11, ground := Go.Ground.phase }, { on := 12, ground := Go.Ground.phase }, { on := 13, ground := Go.Ground.phase }, { on := 14, ground := Go.Ground.phase }, { on := 15, ground := Go.Ground.phase }, { on := 16, ground := Go.Ground.phase }, { on := 17, ground := Go.Ground.phase }, { on := 18, ground := Go.Ground.phase }, { on := 19, ground := Go.Ground.phase }, { on := 20, ground := Go.Ground.phase }], guard := none }) (v := ?_) rfl (by kernel_rfl) (by kernel_rfl) (by kernel_rfl) (fun _ _ _ h => h) (Or.inl ⟨by rfl, ?_⟩) hHeld ?_
  rotate_left 1
  · (intro w hSw; (try dsimp only at hSw); go_simp <;> with_reducible rfl)
  simp only [Act.put, List.setIfInBounds_toArray, List.set_cons_zero, List.set_cons_succ]
  refine wpAnyH_take (i := 22) (oi := { dst := some 45, op := Go.Op.fieldAddr 37 (Go.Operand.tmp 44) 9, type := 0, pos := "step.go:100", after := #[{ on := 21, ground := Go.Ground.data }, { on := 0, ground := Go.Ground.phase }, { on := 1, ground := Go.Ground.phase }, { on := 2, ground := Go.Ground.phase }, { on := 3, ground := Go.Ground.phase }, { on := 4, ground := Go.Ground.phase }, { on := 5, ground := Go.Ground.phase }, { on := 6, ground := Go.Ground.phase }, { on := 7, ground := Go.Ground.phase }, { on := 8, ground := Go.Ground.phase }, { on := 9, ground := Go.Ground.phase }, { on := 10, ground := Go.Ground.phase }, { on := 11, ground := Go.Ground.phase }, { on := 12, ground := Go.Ground.phase }, { on := 13, ground := Go.Ground.phase }, { on := 14, ground := Go.Ground.phase }, { on := 15, ground := Go.Ground.phase }, { on := 16, ground := Go.Ground.phase }, { on := 17, ground := Go.Ground.phase }, { on := 18, ground := Go.Ground.phase }, { on := 19, ground := Go.Ground.phase }, { on := 20, ground := Go.Ground.phase }], guard := none }) (v := ?_) rfl (by kernel_rfl) (by kernel_rfl) (by kernel_rfl) (fun _ _ _ h => h) (Or.inl ⟨by rfl, ?_⟩) hHeld ?_
  rotate_left 1
  · (intro w hSw; (try dsimp only at hSw); go_simp <;> with_reducible rfl)
  simp only [Act.put, List.setIfInBounds_toArray, List.set_cons_zero, List.set_cons_succ]
  refine wpAnyH_ready (rs := [23]) (by kernel_rfl) (by simp) ?_
  refine AllReadyH.cons (o := { dst := none, op := Go.Op.store 31 (Go.Operand.tmp 45) (Go.Operand.tmp 37), type := 0, pos := "step.go:100", after := #[{ on := 22, ground := Go.Ground.data }, { on := 11, ground := Go.Ground.data }, { on := 20, ground := Go.Ground.chain }, { on := 0, ground := Go.Ground.phase }, { on := 1, ground := Go.Ground.phase }, { on := 2, ground := Go.Ground.phase }, { on := 3, ground := Go.Ground.phase }, { on := 4, ground := Go.Ground.phase }, { on := 5, ground := Go.Ground.phase }, { on := 6, ground := Go.Ground.phase }, { on := 7, ground := Go.Ground.phase }, { on := 8, ground := Go.Ground.phase }, { on := 9, ground := Go.Ground.phase }, { on := 10, ground := Go.Ground.phase }, { on := 11, ground := Go.Ground.phase }, { on := 12, ground := Go.Ground.phase }, { on := 13, ground := Go.Ground.phase }, { on := 14, ground := Go.Ground.phase }, { on := 15, ground := Go.Ground.phase }, { on := 16, ground := Go.Ground.phase }, { on := 17, ground := Go.Ground.phase }, { on := 18, ground := Go.Ground.phase }, { on := 19, ground := Go.Ground.phase }, { on := 20, ground := Go.Ground.phase }], guard := none }) rfl (fun K hK => ?_) AllReadyH.nil
  go_simp
  refine hK.out _ _ (keepW.out _ _ (by with_reducible repeat (first | exact f4.out | apply WrS.set | apply WrS.drew | apply WrS.alloc))) (fun hHeld => ?_)
  clear hK K
  refine wpAnyH_done (by kernel_rfl) ?_ _
  go_wp2_with fail
  go_end0
  refine HQ.out _ ?_
  rw [← HP.out]
  rw [show ([(2, .int .i64 (wrap64 (cn + 1))), (3, .int .i64 t), (1, .int .i64 1), (21, .bool true), (7, .string q), (8, .int .i64 k0), (9, .int .i64 x0), (10, .int .u64 b0), (11, .string s0), (12, .slice a0 m0 n0), (4, .int .i64 d), (13, .int .i64 f), (14, .int .u64 (pc : Int)), (15, .int .i64 m)] : List (Nat × Value)) = [(2, .int .i64 (wrap64 (cn + 1))), (3, .int .i64 t), (1, .int .i64 1), (21, .bool true)] ++ [(7, .string q), (8, .int .i64 k0), (9, .int .i64 x0), (10, .int .u64 b0), (11, .string s0), (12, .slice a0 m0 n0), (4, .int .i64 d), (13, .int .i64 f), (14, .int .u64 (pc : Int)), (15, .int .i64 m)] from rfl, puts_app, ← z4.out]
  refine HFW.out.trans ?_
  simp only [puts, List.foldl]
  repeat (with_reducible first | exact f4.out | apply WrS.set | apply WrS.drew | apply WrS.alloc)
end Go.Proofs.YtakaglfeeipeiaaGreat
