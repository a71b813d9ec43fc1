/- The contracts of changeTask and of end. -/
import Derived.Test.YtcdhlklmnnmpoaaGreatUB
import Derived.Test.YtcdhlklmnnmpoaaGreatST
import Derived.BigRegion
namespace Go.Proofs.YtcdhlklmnnmpoaaGreat
open Go.ChangeShapes Go.WideShapes Go.ChangeAt Go.RowKit
/-- The box at B is cs; nothing else changed since w. -/
structure WrS (B : Nat) (w W : World) (cs : Array Value) : Prop where
  row : W.heap[B]? = some (.cells cs 41 (0, 0))
  kb : KB B w W
theorem WrS.set {B : Nat} {w W : World} {cs : Array Value} (h : WrS B w W cs) (p : Nat) (v : Value) : WrS B w (W.setCell ⟨B, p, none⟩ v) (cs.setIfInBounds p v) := ⟨heap_setCell_same W B p cs 41 v h.row, h.kb.trans (KB.setCell B W p v)⟩
theorem WrS.drew {B : Nat} {w W : World} {cs : Array Value} (h : WrS B w W cs) : WrS B w W.drew cs := ⟨h.row, h.kb.trans (KB.of_below (Below.refl _ W).drew)⟩
theorem WrS.alloc {B : Nat} {w W : World} {cs : Array Value} (h : WrS B w W cs) (o : Obj) : WrS B w (W.alloc o) cs := ⟨row_below (bel1 W o) h.row, h.kb.trans (KB.of_below (bel1 W o))⟩
/-- The box is what the writes ps make of cs. -/
def puts (cs : Array Value) (ps : List (Nat × Value)) : Array Value := ps.foldl (fun a p => a.setIfInBounds p.1 p.2) cs
def PuP (B : Nat) (cs : Array Value) (ps : List (Nat × Value)) (w : World) (e : Ending) (w' : World) : Prop := e = .returned (.tuple #[]) ∧ WrS B w w' (puts cs ps)
theorem pu_mk {B : Nat} {cs : Array Value} {ps : List (Nat × Value)} {w W : World} (h : WrS B w W (puts cs ps)) : PuP B cs ps w (.returned (.tuple #[])) W := ⟨rfl, h⟩
set_option maxHeartbeats 2000000 in
set_option maxRecDepth 100000 in
theorem task2 (B : Nat) (cs es : Array Value) (ts ta td te tn n d : Int) (w : World) (hg : w.heap[B]? = some (.cells cs 41 (0, 0))) (c16 : cs[16]? = some (.int .i64 ts)) (c17 : cs[17]? = some (.int .i64 ta)) (c18 : cs[18]? = some (.int .i64 td)) (c19 : cs[19]? = some (.int .i64 te)) (c20 : cs[20]? = some (.int .i64 tn)) (e2 : es[2]? = some (.int .i64 n)) (e3 : es[3]? = some (.int .i64 d)) (e0 : es[0]? = some (.int .i64 2)) :
    Calls Tryz.prog 83 #[.pointer (some ⟨B, 0, none⟩), .agg es] w (PuP B cs [(16, .int .i64 1), (17, .int .i64 n), (18, .int .i64 d), (19, .int .i64 0), (20, .int .i64 0)] w) := by
  have g0 : ∀ j, w.cell? ⟨B, j, none⟩ = cs[j]? := fun j => cell_of_row w B j cs 41 (0, 0) hg
  have gf : ∀ o, w.frozen? ⟨B, o, none⟩ = false := fun o => frozen_of_row w B o _ 41 hg
  have hBl : B < w.heap.size := (Array.getElem?_eq_some_iff.1 hg).1
  have f0 : Hid (WrS B w w cs) := ⟨hg, KB.refl _ _⟩
  have HQ : Hid (∀ W, WrS B w W (puts cs [(16, .int .i64 1), (17, .int .i64 n), (18, .int .i64 d), (19, .int .i64 0), (20, .int .i64 0)]) → PuP B cs [(16, .int .i64 1), (17, .int .i64 n), (18, .int .i64 d), (19, .int .i64 0), (20, .int .i64 0)] w (.returned (.tuple #[])) W) := fun W h => pu_mk h
  generalize hps : ([(16, .int .i64 1), (17, .int .i64 n), (18, .int .i64 d), (19, .int .i64 0), (20, .int .i64 0)] : List (Nat × Value)) = ps at HQ ⊢
  have HP : Hid (([(16, .int .i64 1), (17, .int .i64 n), (18, .int .i64 d), (19, .int .i64 0), (20, .int .i64 0)] : List (Nat × Value)) = ps) := hps
  generalize PuP B cs ps w = Q at HQ ⊢
  clear hps
  clear hg
  go_enter Tryz.func83, Tryz.ntmps83
  go_wp2_with fail
  go_end0
  refine HQ.out _ ?_
  rw [← HP.out]
  simp only [puts, List.foldl]
  repeat (with_reducible first | exact f0.out | apply WrS.set | apply WrS.drew | apply WrS.alloc)
set_option maxHeartbeats 2000000 in
set_option maxRecDepth 100000 in
theorem task3 (B : Nat) (cs es : Array Value) (ts ta td te tn d cn : Int) (fb : Bool) (w : World) (hg : w.heap[B]? = some (.cells cs 41 (0, 0))) (c16 : cs[16]? = some (.int .i64 ts)) (c17 : cs[17]? = some (.int .i64 ta)) (c18 : cs[18]? = some (.int .i64 td)) (c19 : cs[19]? = some (.int .i64 te)) (c20 : cs[20]? = some (.int .i64 tn)) (c2 : cs[2]? = some (.int .i64 cn)) (c21 : cs[21]? = some (.bool fb)) (e3 : es[3]? = some (.int .i64 d)) (e0 : es[0]? = some (.int .i64 3)) :
    Calls Tryz.prog 83 #[.pointer (some ⟨B, 0, none⟩), .agg es] w (PuP B cs [(16, .int .i64 2), (17, .int .i64 ta), (18, .int .i64 d), (19, .int .i64 cn), (20, .int .i64 cn), (21, .bool false)] w) := by
  have g0 : ∀ j, w.cell? ⟨B, j, none⟩ = cs[j]? := fun j => cell_of_row w B j cs 41 (0, 0) hg
  have gf : ∀ o, w.frozen? ⟨B, o, none⟩ = false := fun o => frozen_of_row w B o _ 41 hg
  have hBl : B < w.heap.size := (Array.getElem?_eq_some_iff.1 hg).1
  have f0 : Hid (WrS B w w cs) := ⟨hg, KB.refl _ _⟩
  have HQ : Hid (∀ W, WrS B w W (puts cs [(16, .int .i64 2), (17, .int .i64 ta), (18, .int .i64 d), (19, .int .i64 cn), (20, .int .i64 cn), (21, .bool false)]) → PuP B cs [(16, .int .i64 2), (17, .int .i64 ta), (18, .int .i64 d), (19, .int .i64 cn), (20, .int .i64 cn), (21, .bool false)] w (.returned (.tuple #[])) W) := fun W h => pu_mk h
  generalize hps : ([(16, .int .i64 2), (17, .int .i64 ta), (18, .int .i64 d), (19, .int .i64 cn), (20, .int .i64 cn), (21, .bool false)] : List (Nat × Value)) = ps at HQ ⊢
  have HP : Hid (([(16, .int .i64 2), (17, .int .i64 ta), (18, .int .i64 d), (19, .int .i64 cn), (20, .int .i64 cn), (21, .bool false)] : List (Nat × Value)) = ps) := hps
  generalize PuP B cs ps w = Q at HQ ⊢
  clear hps
  clear hg
  go_enter Tryz.func83, Tryz.ntmps83
  go_wp2_with fail
  go_region
  go_wp2_with fail
  go_end0
  refine HQ.out _ ?_
  rw [← HP.out]
  simp only [puts, List.foldl]
  repeat (with_reducible first | exact f0.out | apply WrS.set | apply WrS.drew | apply WrS.alloc)
set_option maxHeartbeats 2000000 in
set_option maxRecDepth 100000 in
theorem taskEnd (B : Nat) (cs es : Array Value) (k ts ta td te tn n : Int) (w : World) (hg : w.heap[B]? = some (.cells cs 41 (0, 0))) (hk2 : (k == 2) = false) (hk3 : (k == 3) = false) (c16 : cs[16]? = some (.int .i64 ts)) (c17 : cs[17]? = some (.int .i64 ta)) (c18 : cs[18]? = some (.int .i64 td)) (c19 : cs[19]? = some (.int .i64 te)) (c20 : cs[20]? = some (.int .i64 tn)) (e2 : es[2]? = some (.int .i64 n)) (hn : ¬ 0 < n) (e0 : es[0]? = some (.int .i64 k)) :
    Calls Tryz.prog 83 #[.pointer (some ⟨B, 0, none⟩), .agg es] w (PuP B cs [(16, .int .i64 0), (17, .int .i64 0), (18, .int .i64 0), (19, .int .i64 0), (20, .int .i64 0)] w) := by
  have g0 : ∀ j, w.cell? ⟨B, j, none⟩ = cs[j]? := fun j => cell_of_row w B j cs 41 (0, 0) hg
  have gf : ∀ o, w.frozen? ⟨B, o, none⟩ = false := fun o => frozen_of_row w B o _ 41 hg
  have hBl : B < w.heap.size := (Array.getElem?_eq_some_iff.1 hg).1
  have f0 : Hid (WrS B w w cs) := ⟨hg, KB.refl _ _⟩
  have HQ : Hid (∀ W, WrS B w W (puts cs [(16, .int .i64 0), (17, .int .i64 0), (18, .int .i64 0), (19, .int .i64 0), (20, .int .i64 0)]) → PuP B cs [(16, .int .i64 0), (17, .int .i64 0), (18, .int .i64 0), (19, .int .i64 0), (20, .int .i64 0)] w (.returned (.tuple #[])) W) := fun W h => pu_mk h
  generalize hps : ([(16, .int .i64 0), (17, .int .i64 0), (18, .int .i64 0), (19, .int .i64 0), (20, .int .i64 0)] : List (Nat × Value)) = ps at HQ ⊢
  have HP : Hid (([(16, .int .i64 0), (17, .int .i64 0), (18, .int .i64 0), (19, .int .i64 0), (20, .int .i64 0)] : List (Nat × Value)) = ps) := hps
  generalize PuP B cs ps w = Q at HQ ⊢
  clear hps
  clear hg
  have hn2 : decide (n > 0) = false := decide_eq_false hn
  have hn3 : decide (0 < n) = false := decide_eq_false hn
  go_enter Tryz.func83, Tryz.ntmps83
  go_wp2_with fail
  go_end0
  refine HQ.out _ ?_
  rw [← HP.out]
  simp only [puts, List.foldl]
  repeat (with_reducible first | exact f0.out | apply WrS.set | apply WrS.drew | apply WrS.alloc)
set_option maxHeartbeats 2000000 in
set_option maxRecDepth 100000 in
theorem taskFrom (B : Nat) (cs es : Array Value) (k ts ta td te tn n fr : Int) (w : World) (hg : w.heap[B]? = some (.cells cs 41 (0, 0))) (hk2 : (k == 2) = false) (hk3 : (k == 3) = false) (c16 : cs[16]? = some (.int .i64 ts)) (c17 : cs[17]? = some (.int .i64 ta)) (c18 : cs[18]? = some (.int .i64 td)) (c19 : cs[19]? = some (.int .i64 te)) (c20 : cs[20]? = some (.int .i64 tn)) (c5 : cs[5]? = some (.int .i64 fr)) (e2 : es[2]? = some (.int .i64 n)) (hn : 0 < n) (e0 : es[0]? = some (.int .i64 k)) :
    Calls Tryz.prog 83 #[.pointer (some ⟨B, 0, none⟩), .agg es] w (PuP B cs [(16, .int .i64 0), (17, .int .i64 0), (18, .int .i64 0), (19, .int .i64 0), (20, .int .i64 0), (5, .int .i64 n)] w) := by
  have g0 : ∀ j, w.cell? ⟨B, j, none⟩ = cs[j]? := fun j => cell_of_row w B j cs 41 (0, 0) hg
  have gf : ∀ o, w.frozen? ⟨B, o, none⟩ = false := fun o => frozen_of_row w B o _ 41 hg
  have hBl : B < w.heap.size := (Array.getElem?_eq_some_iff.1 hg).1
  have f0 : Hid (WrS B w w cs) := ⟨hg, KB.refl _ _⟩
  have HQ : Hid (∀ W, WrS B w W (puts cs [(16, .int .i64 0), (17, .int .i64 0), (18, .int .i64 0), (19, .int .i64 0), (20, .int .i64 0), (5, .int .i64 n)]) → PuP B cs [(16, .int .i64 0), (17, .int .i64 0), (18, .int .i64 0), (19, .int .i64 0), (20, .int .i64 0), (5, .int .i64 n)] w (.returned (.tuple #[])) W) := fun W h => pu_mk h
  generalize hps : ([(16, .int .i64 0), (17, .int .i64 0), (18, .int .i64 0), (19, .int .i64 0), (20, .int .i64 0), (5, .int .i64 n)] : List (Nat × Value)) = ps at HQ ⊢
  have HP : Hid (([(16, .int .i64 0), (17, .int .i64 0), (18, .int .i64 0), (19, .int .i64 0), (20, .int .i64 0), (5, .int .i64 n)] : List (Nat × Value)) = ps) := hps
  generalize PuP B cs ps w = Q at HQ ⊢
  clear hps
  clear hg
  have hn2 : decide (n > 0) = true := decide_eq_true hn
  have hn3 : decide (0 < n) = true := decide_eq_true hn
  go_enter Tryz.func83, Tryz.ntmps83
  go_wp2_with fail
  go_end0
  refine HQ.out _ ?_
  rw [← HP.out]
  simp only [puts, List.foldl]
  repeat (with_reducible first | exact f0.out | apply WrS.set | apply WrS.drew | apply WrS.alloc)
set_option maxHeartbeats 2000000 in
set_option maxRecDepth 100000 in
theorem end15 (B : Nat) (cs es : Array Value) (ts ta td te tn st : Int) (sa : Option Addr) (sl sc : Nat) (k0 x0 b0 k1 x1 b1 : Int) (s0 s1 : ByteArray) (a0 a1 : Option Addr) (m0 n0 m1 n1 : Nat) (w : World) (hg : w.heap[B]? = some (.cells cs 41 (0, 0))) (c16 : cs[16]? = some (.int .i64 ts)) (c17 : cs[17]? = some (.int .i64 ta)) (c18 : cs[18]? = some (.int .i64 td)) (c19 : cs[19]? = some (.int .i64 te)) (c20 : cs[20]? = some (.int .i64 tn)) (c23 : cs[23]? = some (.slice sa sl sc)) (c1 : cs[1]? = some (.int .i64 st)) (c25 : cs[25]? = some (.int .i64 k1)) (c26 : cs[26]? = some (.int .i64 x1)) (c27 : cs[27]? = some (.int .u64 b1)) (c28 : cs[28]? = some (.string s1)) (c29 : cs[29]? = some (.slice a1 m1 n1)) (e5 : es[5]? = some (.int .i64 k0)) (e6 : es[6]? = some (.int .i64 x0)) (e7 : es[7]? = some (.int .u64 b0)) (e8 : es[8]? = some (.string s0)) (e9 : es[9]? = some (.slice a0 m0 n0)) (e0 : es[0]? = some (.int .i64 15)) :
    Calls Tryz.prog 86 #[.pointer (some ⟨B, 0, none⟩), .agg es] w (PuP B cs [(16, .int .i64 0), (17, .int .i64 0), (18, .int .i64 0), (19, .int .i64 0), (20, .int .i64 0), (23, .slice none 0 0), (1, .int .i64 2), (25, .int .i64 k0), (26, .int .i64 x0), (27, .int .u64 b0), (28, .string s0), (29, .slice a0 m0 n0)] w) := by
  have g0 : ∀ j, w.cell? ⟨B, j, none⟩ = cs[j]? := fun j => cell_of_row w B j cs 41 (0, 0) hg
  have gf : ∀ o, w.frozen? ⟨B, o, none⟩ = false := fun o => frozen_of_row w B o _ 41 hg
  have hBl : B < w.heap.size := (Array.getElem?_eq_some_iff.1 hg).1
  have f0 : Hid (WrS B w w cs) := ⟨hg, KB.refl _ _⟩
  have HQ : Hid (∀ W, WrS B w W (puts cs [(16, .int .i64 0), (17, .int .i64 0), (18, .int .i64 0), (19, .int .i64 0), (20, .int .i64 0), (23, .slice none 0 0), (1, .int .i64 2), (25, .int .i64 k0), (26, .int .i64 x0), (27, .int .u64 b0), (28, .string s0), (29, .slice a0 m0 n0)]) → PuP B cs [(16, .int .i64 0), (17, .int .i64 0), (18, .int .i64 0), (19, .int .i64 0), (20, .int .i64 0), (23, .slice none 0 0), (1, .int .i64 2), (25, .int .i64 k0), (26, .int .i64 x0), (27, .int .u64 b0), (28, .string s0), (29, .slice a0 m0 n0)] w (.returned (.tuple #[])) W) := fun W h => pu_mk h
  generalize hps : ([(16, .int .i64 0), (17, .int .i64 0), (18, .int .i64 0), (19, .int .i64 0), (20, .int .i64 0), (23, .slice none 0 0), (1, .int .i64 2), (25, .int .i64 k0), (26, .int .i64 x0), (27, .int .u64 b0), (28, .string s0), (29, .slice a0 m0 n0)] : List (Nat × Value)) = ps at HQ ⊢
  have HP : Hid (([(16, .int .i64 0), (17, .int .i64 0), (18, .int .i64 0), (19, .int .i64 0), (20, .int .i64 0), (23, .slice none 0 0), (1, .int .i64 2), (25, .int .i64 k0), (26, .int .i64 x0), (27, .int .u64 b0), (28, .string s0), (29, .slice a0 m0 n0)] : List (Nat × Value)) = ps) := hps
  generalize PuP B cs ps w = Q at HQ ⊢
  clear hps
  clear hg
  go_enter Tryz.func86, Tryz.ntmps86
  go_wp2_with fail
  go_region
  go_wp2_with fail
  go_end0
  refine HQ.out _ ?_
  rw [← HP.out]
  simp only [puts, List.foldl]
  repeat (with_reducible first | exact f0.out | apply WrS.set | apply WrS.drew | apply WrS.alloc)
set_option maxHeartbeats 2000000 in
set_option maxRecDepth 100000 in
theorem end16 (B : Nat) (cs es : Array Value) (ts ta td te tn st : Int) (sa : Option Addr) (sl sc : Nat) (rs q : ByteArray) (w : World) (hg : w.heap[B]? = some (.cells cs 41 (0, 0))) (c16 : cs[16]? = some (.int .i64 ts)) (c17 : cs[17]? = some (.int .i64 ta)) (c18 : cs[18]? = some (.int .i64 td)) (c19 : cs[19]? = some (.int .i64 te)) (c20 : cs[20]? = some (.int .i64 tn)) (c23 : cs[23]? = some (.slice sa sl sc)) (c1 : cs[1]? = some (.int .i64 st)) (c30 : cs[30]? = some (.string rs)) (e4 : es[4]? = some (.string q)) (e0 : es[0]? = some (.int .i64 16)) :
    Calls Tryz.prog 86 #[.pointer (some ⟨B, 0, none⟩), .agg es] w (PuP B cs [(16, .int .i64 0), (17, .int .i64 0), (18, .int .i64 0), (19, .int .i64 0), (20, .int .i64 0), (23, .slice none 0 0), (1, .int .i64 3), (30, .string q)] w) := by
  have g0 : ∀ j, w.cell? ⟨B, j, none⟩ = cs[j]? := fun j => cell_of_row w B j cs 41 (0, 0) hg
  have gf : ∀ o, w.frozen? ⟨B, o, none⟩ = false := fun o => frozen_of_row w B o _ 41 hg
  have hBl : B < w.heap.size := (Array.getElem?_eq_some_iff.1 hg).1
  have f0 : Hid (WrS B w w cs) := ⟨hg, KB.refl _ _⟩
  have HQ : Hid (∀ W, WrS B w W (puts cs [(16, .int .i64 0), (17, .int .i64 0), (18, .int .i64 0), (19, .int .i64 0), (20, .int .i64 0), (23, .slice none 0 0), (1, .int .i64 3), (30, .string q)]) → PuP B cs [(16, .int .i64 0), (17, .int .i64 0), (18, .int .i64 0), (19, .int .i64 0), (20, .int .i64 0), (23, .slice none 0 0), (1, .int .i64 3), (30, .string q)] w (.returned (.tuple #[])) W) := fun W h => pu_mk h
  generalize hps : ([(16, .int .i64 0), (17, .int .i64 0), (18, .int .i64 0), (19, .int .i64 0), (20, .int .i64 0), (23, .slice none 0 0), (1, .int .i64 3), (30, .string q)] : List (Nat × Value)) = ps at HQ ⊢
  have HP : Hid (([(16, .int .i64 0), (17, .int .i64 0), (18, .int .i64 0), (19, .int .i64 0), (20, .int .i64 0), (23, .slice none 0 0), (1, .int .i64 3), (30, .string q)] : List (Nat × Value)) = ps) := hps
  generalize PuP B cs ps w = Q at HQ ⊢
  clear hps
  clear hg
  go_enter Tryz.func86, Tryz.ntmps86
  go_wp2_with fail
  go_region
  go_wp2_with fail
  go_end0
  refine HQ.out _ ?_
  rw [← HP.out]
  simp only [puts, List.foldl]
  repeat (with_reducible first | exact f0.out | apply WrS.set | apply WrS.drew | apply WrS.alloc)
set_option maxHeartbeats 2000000 in
set_option maxRecDepth 100000 in
theorem end18 (B : Nat) (cs es : Array Value) (ts ta td te tn st : Int) (sa : Option Addr) (sl sc : Nat) (rs q : ByteArray) (w : World) (hg : w.heap[B]? = some (.cells cs 41 (0, 0))) (c16 : cs[16]? = some (.int .i64 ts)) (c17 : cs[17]? = some (.int .i64 ta)) (c18 : cs[18]? = some (.int .i64 td)) (c19 : cs[19]? = some (.int .i64 te)) (c20 : cs[20]? = some (.int .i64 tn)) (c23 : cs[23]? = some (.slice sa sl sc)) (c1 : cs[1]? = some (.int .i64 st)) (c30 : cs[30]? = some (.string rs)) (e4 : es[4]? = some (.string q)) (e0 : es[0]? = some (.int .i64 18)) :
    Calls Tryz.prog 86 #[.pointer (some ⟨B, 0, none⟩), .agg es] w (PuP B cs [(16, .int .i64 0), (17, .int .i64 0), (18, .int .i64 0), (19, .int .i64 0), (20, .int .i64 0), (23, .slice none 0 0), (1, .int .i64 5), (30, .string q)] w) := by
  have g0 : ∀ j, w.cell? ⟨B, j, none⟩ = cs[j]? := fun j => cell_of_row w B j cs 41 (0, 0) hg
  have gf : ∀ o, w.frozen? ⟨B, o, none⟩ = false := fun o => frozen_of_row w B o _ 41 hg
  have hBl : B < w.heap.size := (Array.getElem?_eq_some_iff.1 hg).1
  have f0 : Hid (WrS B w w cs) := ⟨hg, KB.refl _ _⟩
  have HQ : Hid (∀ W, WrS B w W (puts cs [(16, .int .i64 0), (17, .int .i64 0), (18, .int .i64 0), (19, .int .i64 0), (20, .int .i64 0), (23, .slice none 0 0), (1, .int .i64 5), (30, .string q)]) → PuP B cs [(16, .int .i64 0), (17, .int .i64 0), (18, .int .i64 0), (19, .int .i64 0), (20, .int .i64 0), (23, .slice none 0 0), (1, .int .i64 5), (30, .string q)] w (.returned (.tuple #[])) W) := fun W h => pu_mk h
  generalize hps : ([(16, .int .i64 0), (17, .int .i64 0), (18, .int .i64 0), (19, .int .i64 0), (20, .int .i64 0), (23, .slice none 0 0), (1, .int .i64 5), (30, .string q)] : List (Nat × Value)) = ps at HQ ⊢
  have HP : Hid (([(16, .int .i64 0), (17, .int .i64 0), (18, .int .i64 0), (19, .int .i64 0), (20, .int .i64 0), (23, .slice none 0 0), (1, .int .i64 5), (30, .string q)] : List (Nat × Value)) = ps) := hps
  generalize PuP B cs ps w = Q at HQ ⊢
  clear hps
  clear hg
  go_enter Tryz.func86, Tryz.ntmps86
  go_wp2_with fail
  go_region
  go_wp2_with fail
  go_end0
  refine HQ.out _ ?_
  rw [← HP.out]
  simp only [puts, List.foldl]
  repeat (with_reducible first | exact f0.out | apply WrS.set | apply WrS.drew | apply WrS.alloc)
set_option maxHeartbeats 2000000 in
set_option maxRecDepth 100000 in
theorem end17 (B : Nat) (cs es : Array Value) (ts ta td te tn st : Int) (sa : Option Addr) (sl sc : Nat) (w : World) (hg : w.heap[B]? = some (.cells cs 41 (0, 0))) (c16 : cs[16]? = some (.int .i64 ts)) (c17 : cs[17]? = some (.int .i64 ta)) (c18 : cs[18]? = some (.int .i64 td)) (c19 : cs[19]? = some (.int .i64 te)) (c20 : cs[20]? = some (.int .i64 tn)) (c23 : cs[23]? = some (.slice sa sl sc)) (c1 : cs[1]? = some (.int .i64 st)) (e0 : es[0]? = some (.int .i64 17)) :
    Calls Tryz.prog 86 #[.pointer (some ⟨B, 0, none⟩), .agg es] w (PuP B cs [(16, .int .i64 0), (17, .int .i64 0), (18, .int .i64 0), (19, .int .i64 0), (20, .int .i64 0), (23, .slice none 0 0), (1, .int .i64 4)] w) := by
  have g0 : ∀ j, w.cell? ⟨B, j, none⟩ = cs[j]? := fun j => cell_of_row w B j cs 41 (0, 0) hg
  have gf : ∀ o, w.frozen? ⟨B, o, none⟩ = false := fun o => frozen_of_row w B o _ 41 hg
  have hBl : B < w.heap.size := (Array.getElem?_eq_some_iff.1 hg).1
  have f0 : Hid (WrS B w w cs) := ⟨hg, KB.refl _ _⟩
  have HQ : Hid (∀ W, WrS B w W (puts cs [(16, .int .i64 0), (17, .int .i64 0), (18, .int .i64 0), (19, .int .i64 0), (20, .int .i64 0), (23, .slice none 0 0), (1, .int .i64 4)]) → PuP B cs [(16, .int .i64 0), (17, .int .i64 0), (18, .int .i64 0), (19, .int .i64 0), (20, .int .i64 0), (23, .slice none 0 0), (1, .int .i64 4)] w (.returned (.tuple #[])) W) := fun W h => pu_mk h
  generalize hps : ([(16, .int .i64 0), (17, .int .i64 0), (18, .int .i64 0), (19, .int .i64 0), (20, .int .i64 0), (23, .slice none 0 0), (1, .int .i64 4)] : List (Nat × Value)) = ps at HQ ⊢
  have HP : Hid (([(16, .int .i64 0), (17, .int .i64 0), (18, .int .i64 0), (19, .int .i64 0), (20, .int .i64 0), (23, .slice none 0 0), (1, .int .i64 4)] : List (Nat × Value)) = ps) := hps
  generalize PuP B cs ps w = Q at HQ ⊢
  clear hps
  clear hg
  go_enter Tryz.func86, Tryz.ntmps86
  go_wp2_with fail
  go_end0
  refine HQ.out _ ?_
  rw [← HP.out]
  simp only [puts, List.foldl]
  repeat (with_reducible first | exact f0.out | apply WrS.set | apply WrS.drew | apply WrS.alloc)
set_option maxHeartbeats 2000000 in
set_option maxRecDepth 100000 in
theorem end19 (B : Nat) (cs es : Array Value) (ts ta td te tn st : Int) (sa : Option Addr) (sl sc : Nat) (w : World) (hg : w.heap[B]? = some (.cells cs 41 (0, 0))) (c16 : cs[16]? = some (.int .i64 ts)) (c17 : cs[17]? = some (.int .i64 ta)) (c18 : cs[18]? = some (.int .i64 td)) (c19 : cs[19]? = some (.int .i64 te)) (c20 : cs[20]? = some (.int .i64 tn)) (c23 : cs[23]? = some (.slice sa sl sc)) (c1 : cs[1]? = some (.int .i64 st)) (e0 : es[0]? = some (.int .i64 19)) :
    Calls Tryz.prog 86 #[.pointer (some ⟨B, 0, none⟩), .agg es] w (PuP B cs [(16, .int .i64 0), (17, .int .i64 0), (18, .int .i64 0), (19, .int .i64 0), (20, .int .i64 0), (23, .slice none 0 0), (1, .int .i64 6)] w) := by
  have g0 : ∀ j, w.cell? ⟨B, j, none⟩ = cs[j]? := fun j => cell_of_row w B j cs 41 (0, 0) hg
  have gf : ∀ o, w.frozen? ⟨B, o, none⟩ = false := fun o => frozen_of_row w B o _ 41 hg
  have hBl : B < w.heap.size := (Array.getElem?_eq_some_iff.1 hg).1
  have f0 : Hid (WrS B w w cs) := ⟨hg, KB.refl _ _⟩
  have HQ : Hid (∀ W, WrS B w W (puts cs [(16, .int .i64 0), (17, .int .i64 0), (18, .int .i64 0), (19, .int .i64 0), (20, .int .i64 0), (23, .slice none 0 0), (1, .int .i64 6)]) → PuP B cs [(16, .int .i64 0), (17, .int .i64 0), (18, .int .i64 0), (19, .int .i64 0), (20, .int .i64 0), (23, .slice none 0 0), (1, .int .i64 6)] w (.returned (.tuple #[])) W) := fun W h => pu_mk h
  generalize hps : ([(16, .int .i64 0), (17, .int .i64 0), (18, .int .i64 0), (19, .int .i64 0), (20, .int .i64 0), (23, .slice none 0 0), (1, .int .i64 6)] : List (Nat × Value)) = ps at HQ ⊢
  have HP : Hid (([(16, .int .i64 0), (17, .int .i64 0), (18, .int .i64 0), (19, .int .i64 0), (20, .int .i64 0), (23, .slice none 0 0), (1, .int .i64 6)] : List (Nat × Value)) = ps) := hps
  generalize PuP B cs ps w = Q at HQ ⊢
  clear hps
  clear hg
  go_enter Tryz.func86, Tryz.ntmps86
  go_wp2_with fail
  go_end0
  refine HQ.out _ ?_
  rw [← HP.out]
  simp only [puts, List.foldl]
  repeat (with_reducible first | exact f0.out | apply WrS.set | apply WrS.drew | apply WrS.alloc)
end Go.Proofs.YtcdhlklmnnmpoaaGreat
