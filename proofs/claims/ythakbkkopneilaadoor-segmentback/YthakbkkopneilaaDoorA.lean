/- Parse's deferred closure where a head was none, and Parse. -/
import Derived.Test.YthakbkkopneilaaDoorW
import Derived.Deep.RegionHeld3
namespace Go.Proofs.YthakbkkopneilaaDoor
open Go.ChangeShapes Go.WideShapes Go.ChangeAt Go.RowKit
theorem ta50 (v : Value) (w : World) : (Instr.typeAssert (.iface 50 v) 20 50 true).run Tryd.prog w = .ok (.tuple #[v, .bool true]) w := by
  unfold Instr.typeAssert
  simp [run_underlying Tryd.underlying50]
set_option maxHeartbeats 1000000 in
set_option maxRecDepth 100000 in
theorem catch_panicking (g h : Nat) (older : List PanicEntry) (w : World) (c0 c1 c2 c3 c4 c5 c6 : Value) (y : Value) (hS : SegAt w g c0 c1 c2 c3 c4 c5 c6) (hE : w.heap[h]? = some (Obj.cells #[y] 31 (0, 0))) :
    CallsD Tryd.prog 30 #[.pointer (some ⟨g, 0, none⟩), .pointer (some ⟨h, 0, none⟩)] (.panicking ({ v := .iface 50 (.agg #[.int .i64 10]), recovered := false } :: older)) w fun e u' w' =>
      e = .returned (.tuple #[]) ∧ u' = .panicking ({ v := .iface 50 (.agg #[.int .i64 10]), recovered := true } :: older) ∧ SegAt w' g (.int .i64 0) (.int .i64 0) (.bool false) (.slice none 0 0) (.slice none 0 0) (.int .i64 0) (.bool false) ∧ w'.heap[h]? = some (Obj.cells #[.int .i64 10] 31 (0, 0)) ∧ (∀ (B : Nat) (w0 : World), Below B w0 w → B ≤ g → B ≤ h → B ≤ w.heap.size → Below B w0 w') := by
  refine callsD_of_wpS Tryd.func30 rfl fun c₀ cs hu => ?_
  apply wpS_seq
  apply wpS_region
  simp [wpOpsS, go_sem, recoverD, hu, Tryd.ntmps30, Exit.thenS]
  apply wpS_seq
  apply wpS_seq
  apply wpS_region
  simp [wpOpsS, go_sem, Exit.thenS]
  refine wpS_cond (t := false) (by simp [Act.eval, Array.replicate]) ?_
  simp only [Bool.false_eq_true, if_false]
  refine wpS_of_wp (wp_skip ?_)
  simp only [Exit.thenS]
  refine wpS_of_wp ?_
  have hg : g < w.heap.size := (Array.getElem?_eq_some_iff.1 hS).1
  have hh : h < w.heap.size := (Array.getElem?_eq_some_iff.1 hE).1
  generalize hQ : (fun e a' w' => bodyPostS Tryd.prog Tryd.f30 c₀ cs _ e a' _ w') = Q
  change Code.wp _ _ _ { tmps := #[.pointer (some ⟨g, 0, none⟩), .pointer (some ⟨h, 0, none⟩), .iface 50 (.agg #[.int .i64 10]), undef, undef, .iface 50 (.agg #[.int .i64 10]), .iface 50 (.agg #[.int .i64 10]), .bool false, undef, undef, undef, undef, undef, undef, undef, undef, undef, undef, undef], defers := [] } w
  have ta := ta50
  go_wp2
  obtain ⟨W1, hW1⟩ : ∃ W1, W1 = w.alloc (Obj.cells #[Value.int IntKind.i64 10] 50) := ⟨_, rfl⟩
  rw [← hW1]
  have s1 : SegAt W1 g c0 c1 c2 c3 c4 c5 c6 := by rw [hW1]; unfold SegAt; rw [Below.heap_alloc _ _ _ hg]; exact hS
  have E1 : W1.heap[h]? = some (Obj.cells #[y] 31 (0, 0)) := by rw [hW1, Below.heap_alloc _ _ _ hh]; exact hE
  have N1 : W1.heap[w.heap.size]? = some (Obj.cells #[.int .i64 10] 50 (0, 0)) := by rw [hW1]; exact heap_last w _
  have hgh : g ≠ h := fun e => by subst e; unfold SegAt at hS; rw [hS] at hE; injection hE with hE; injection hE with _ h2 _; exact absurd h2 (by decide)
  have K1 : Hid (∀ (B : Nat) (w0 : World), Below B w0 w → B ≤ w.heap.size → Below B w0 W1) := fun B w0 hb hB => by rw [hW1]; exact hb.alloc hB _
  obtain ⟨k, hk⟩ : ∃ k, k = w.heap.size := ⟨_, rfl⟩
  have hgk : g ≠ k := by omega
  have hhk : h ≠ k := by omega
  rw [← hk] at N1
  have t0 : W1.cell? ⟨g, 0, none⟩ = some c0 := by rw [s1.cell 0]; rfl
  have t1 : W1.cell? ⟨g, 1, none⟩ = some c1 := by rw [s1.cell 1]; rfl
  have t2 : W1.cell? ⟨g, 2, none⟩ = some c2 := by rw [s1.cell 2]; rfl
  have t3 : W1.cell? ⟨g, 3, none⟩ = some c3 := by rw [s1.cell 3]; rfl
  have t4 : W1.cell? ⟨g, 4, none⟩ = some c4 := by rw [s1.cell 4]; rfl
  have t5 : W1.cell? ⟨g, 5, none⟩ = some c5 := by rw [s1.cell 5]; rfl
  have t6 : W1.cell? ⟨g, 6, none⟩ = some c6 := by rw [s1.cell 6]; rfl
  have z0 := s1.free 0
  have z1 := s1.free 1
  have z2 := s1.free 2
  have z3 := s1.free 3
  have z4 := s1.free 4
  have z5 := s1.free 5
  have z6 := s1.free 6
  have te : W1.cell? ⟨h, 0, none⟩ = some y := by rw [cell_of_row _ _ 0 _ 31 (0, 0) E1]; rfl
  have ze : W1.frozen? ⟨h, 0, none⟩ = false := frozen_of_row _ _ 0 _ 31 E1
  have tk : W1.cell? ⟨k, 0, none⟩ = some (.int .i64 10) := by rw [cell_of_row _ _ 0 _ 50 (0, 0) N1]; rfl
  have S1 : Hid (SegAt W1 g c0 c1 c2 c3 c4 c5 c6) := s1
  have HE1 : Hid (W1.heap[h]? = some (Obj.cells #[y] 31 (0, 0))) := E1
  have HQ : Hid (_ = Q) := hQ
  rw [← hk]
  have HK : Hid (k = w.heap.size) := hk
  have HU : Hid (c₀.mode = _) := hu
  have HH : Hid (h < w.heap.size) := hh
  clear hS hE hg hh N1 hQ hW1 s1 E1 hk hu
  go_region_held3 (fun w' => w'.cell? ⟨k, 0, none⟩ = some (.int .i64 10)) (go_keep) (fail)
  have S9 : SegAt ((((((((W1.setCell ⟨g, 0, none⟩ (.int .i64 0)).setCell ⟨g, 1, none⟩ (.int .i64 0)).setCell ⟨g, 2, none⟩ (.bool false)).setCell ⟨g, 3, none⟩ (.slice none 0 0)).setCell ⟨g, 4, none⟩ (.slice none 0 0)).setCell ⟨g, 5, none⟩ (.int .i64 0)).setCell ⟨g, 6, none⟩ (.bool false)).setCell ⟨h, 0, none⟩ (.int .i64 10)) g (.int .i64 0) (.int .i64 0) (.bool false) (.slice none 0 0) (.slice none 0 0) (.int .i64 0) (.bool false) := by
    have a0 : SegAt _ g (.int .i64 0) c1 c2 c3 c4 c5 c6 := S1.out.set 0 (.int .i64 0)
    have a1 : SegAt _ g (.int .i64 0) (.int .i64 0) c2 c3 c4 c5 c6 := a0.set 1 (.int .i64 0)
    have a2 : SegAt _ g (.int .i64 0) (.int .i64 0) (.bool false) c3 c4 c5 c6 := a1.set 2 (.bool false)
    have a3 : SegAt _ g (.int .i64 0) (.int .i64 0) (.bool false) (.slice none 0 0) c4 c5 c6 := a2.set 3 (.slice none 0 0)
    have a4 : SegAt _ g (.int .i64 0) (.int .i64 0) (.bool false) (.slice none 0 0) (.slice none 0 0) c5 c6 := a3.set 4 (.slice none 0 0)
    have a5 : SegAt _ g (.int .i64 0) (.int .i64 0) (.bool false) (.slice none 0 0) (.slice none 0 0) (.int .i64 0) c6 := a4.set 5 (.int .i64 0)
    have a6 : SegAt _ g (.int .i64 0) (.int .i64 0) (.bool false) (.slice none 0 0) (.slice none 0 0) (.int .i64 0) (.bool false) := a5.set 6 (.bool false)
    unfold SegAt at a6 ⊢
    rw [Below.heap_setCell _ _ _ _ hgh]
    exact a6
  have E9 : ((((((((W1.setCell ⟨g, 0, none⟩ (.int .i64 0)).setCell ⟨g, 1, none⟩ (.int .i64 0)).setCell ⟨g, 2, none⟩ (.bool false)).setCell ⟨g, 3, none⟩ (.slice none 0 0)).setCell ⟨g, 4, none⟩ (.slice none 0 0)).setCell ⟨g, 5, none⟩ (.int .i64 0)).setCell ⟨g, 6, none⟩ (.bool false)).setCell ⟨h, 0, none⟩ (.int .i64 10)).heap[h]? = some (Obj.cells #[.int .i64 10] 31 (0, 0)) := by
    have hn : h ≠ g := fun e => hgh e.symm
    refine heap_setCell_same _ h 0 #[y] 31 (.int .i64 10) ?_
    rw [Below.heap_setCell _ _ _ _ hn, Below.heap_setCell _ _ _ _ hn, Below.heap_setCell _ _ _ _ hn, Below.heap_setCell _ _ _ _ hn, Below.heap_setCell _ _ _ _ hn, Below.heap_setCell _ _ _ _ hn, Below.heap_setCell _ _ _ _ hn]
    exact HE1.out
  have B9 : ∀ (B : Nat) (w0 : World), Below B w0 w → B ≤ g → B ≤ h → B ≤ w.heap.size → Below B w0 ((((((((W1.setCell ⟨g, 0, none⟩ (.int .i64 0)).setCell ⟨g, 1, none⟩ (.int .i64 0)).setCell ⟨g, 2, none⟩ (.bool false)).setCell ⟨g, 3, none⟩ (.slice none 0 0)).setCell ⟨g, 4, none⟩ (.slice none 0 0)).setCell ⟨g, 5, none⟩ (.int .i64 0)).setCell ⟨g, 6, none⟩ (.bool false)).setCell ⟨h, 0, none⟩ (.int .i64 10)).drew := fun B w0 hb hg hh hB =>
    ((((((((K1.out B w0 hb hB).setCell (p := ⟨g, _, none⟩) hg _).setCell (p := ⟨g, _, none⟩) hg _).setCell (p := ⟨g, _, none⟩) hg _).setCell (p := ⟨g, _, none⟩) hg _).setCell (p := ⟨g, _, none⟩) hg _).setCell (p := ⟨g, _, none⟩) hg _).setCell (p := ⟨g, _, none⟩) hg _).setCell (p := ⟨h, _, none⟩) hh _ |>.drew
  generalize ((((((((W1.setCell ⟨g, 0, none⟩ (.int .i64 0)).setCell ⟨g, 1, none⟩ (.int .i64 0)).setCell ⟨g, 2, none⟩ (.bool false)).setCell ⟨g, 3, none⟩ (.slice none 0 0)).setCell ⟨g, 4, none⟩ (.slice none 0 0)).setCell ⟨g, 5, none⟩ (.int .i64 0)).setCell ⟨g, 6, none⟩ (.bool false)).setCell ⟨h, 0, none⟩ (.int .i64 10)) = W9 at S9 E9 B9 ⊢
  have hS9 : SegAt W9.drew g (.int .i64 0) (.int .i64 0) (.bool false) (.slice none 0 0) (.slice none 0 0) (.int .i64 0) (.bool false) := S9
  have hE9 : W9.drew.heap[h]? = some (Obj.cells #[.int .i64 10] 31 (0, 0)) := E9
  rw [← HQ.out]
  clear HQ S9 E9 t0 t1 t2 t3 t4 t5 t6 z0 z1 z2 z3 z4 z5 z6 te ze tk
  generalize W9.drew = W at hS9 hE9 B9 ⊢
  have := HU.out
  clear HU HK HH K1 S1 HE1 ta
  simp only [bodyPostS, results, Tryd.results30]
  refine ⟨trivial, _, rfl, .tuple #[], by simp, rfl, rfl, hS9, hE9, B9⟩
set_option maxHeartbeats 1000000 in
set_option maxRecDepth 100000 in
theorem parse_none (v : Value) (l : List UInt8) (w : World) (hh : headOf l = none) (hv : Hb w v l) (ht : Tb w) (hl : l.length ≤ 1000000000) : Calls Tryd.prog 15 #[v] w (PX w l (parseL l)) := by
  have hmf : ∀ (fn : Fn) (first cap : Array Value) (w : World), (Instr.makeFunc fn first cap).run Tryd.prog w = .ok (.func fn first cap) w := fun _ _ _ _ => rfl
  have hvn := hv
  obtain ⟨va, vc, rfl, _, _⟩ := hvn
  obtain ⟨W2, hW2⟩ : ∃ W2, W2 = (w.alloc (Obj.cells #[Value.int IntKind.i64 0, Value.int IntKind.i64 0, Value.bool false, Value.slice none 0 0, Value.slice none 0 0, Value.int IntKind.i64 0, Value.bool false] 30)).alloc (Obj.cells #[Value.int IntKind.i64 0] 31) := ⟨_, rfl⟩
  have B2 : Below w.heap.size w W2 := by rw [hW2]; exact below_step (below_alloc _ _) (below_alloc _ _)
  have S2 : SegAt W2 w.heap.size (.int .i64 0) (.int .i64 0) (.bool false) (.slice none 0 0) (.slice none 0 0) (.int .i64 0) (.bool false) := by
    rw [hW2]; unfold SegAt; rw [Below.heap_alloc _ _ _ (by simp)]; exact heap_last w _
  have E2 : W2.heap[w.heap.size + 1]? = some (Obj.cells #[.int .i64 0] 31 (0, 0)) := by
    rw [hW2]
    have := heap_last (w.alloc (Obj.cells #[Value.int IntKind.i64 0, Value.int IntKind.i64 0, Value.bool false, Value.slice none 0 0, Value.slice none 0 0, Value.int IntKind.i64 0, Value.bool false] 30)) (Obj.cells #[Value.int IntKind.i64 0] 31)
    have e : (w.alloc (Obj.cells #[Value.int IntKind.i64 0, Value.int IntKind.i64 0, Value.bool false, Value.slice none 0 0, Value.slice none 0 0, Value.int IntKind.i64 0, Value.bool false] 30)).heap.size = w.heap.size + 1 := by simp
    rwa [e] at this
  have hsz2 : w.heap.size + 2 ≤ W2.heap.size := by rw [hW2]; simp
  have RC : Hid (Calls Tryd.prog 31 #[.pointer (some ⟨w.heap.size, 0, none⟩), .slice va l.length vc] W2 (RH w W2 w.heap.size (.bool false) (.slice none 0 0) (.slice none 0 0) (.bool false) (headOf l))) := readHead_calls w W2 w.heap.size _ _ _ _ _ l S2 hv ht B2 (Nat.le_refl _) hl
  have HE2 : Hid (W2.heap[w.heap.size + 1]? = _) := E2
  have HZ2 : Hid (w.heap.size + 2 ≤ W2.heap.size) := hsz2
  have HW2 : Hid (W2 = _) := hW2
  have HHd : Hid (headOf l = none) := hh
  clear hv ht hl B2 S2 E2 hsz2 hW2 hh
  go_enter_defers Tryd.func15, Tryd.ntmps15
  go_wp2_with fail
  rw [← HW2.out]
  refine RC.out.mono ?_
  intro e w3 h3
  obtain ⟨b3, k3, z3, h3⟩ := h3
  have E3 : w3.heap[w.heap.size + 1]? = some (Obj.cells #[.int .i64 0] 31 (0, 0)) := by rw [k3 _ (by have := HZ2.out; omega) (by omega)]; exact HE2.out
  have Z3 : w.heap.size + 2 ≤ w3.heap.size := Nat.le_trans HZ2.out z3
  rw [HHd.out] at h3
  obtain ⟨rfl, s0, s1, s5, s3⟩ := h3
  refine leaves_cons (f := 30) (args := #[.pointer (some ⟨w.heap.size, 0, none⟩), .pointer (some ⟨w.heap.size + 1, 0, none⟩)]) (by simp) (by simp [go_sem]) ?_
  refine (catch_panicking w.heap.size (w.heap.size + 1) [] w3 _ _ _ _ _ _ _ _ s3 E3).mono ?_
  rintro e u' w9 ⟨rfl, rfl, s9, e9, b9⟩
  refine ⟨_, ret30 _ rfl rfl s9 e9, b9 _ _ b3 (Nat.le_refl _) (by omega) (by omega), ?_⟩
  unfold parseL
  rw [HHd.out]
theorem parse_calls (v : Value) (l : List UInt8) (w : World) (hv : Hb w v l) (ht : Tb w) (hl : l.length ≤ 1000000000) : Calls Tryd.prog 15 #[v] w (PX w l (parseL l)) := by
  cases hh : headOf l with
  | none => exact parse_none v l w hh hv ht hl
  | some r => obtain ⟨n, f, sz⟩ := r; exact parse_some v l w n f sz hh hv ht hl
end Go.Proofs.YthakbkkopneilaaDoor
