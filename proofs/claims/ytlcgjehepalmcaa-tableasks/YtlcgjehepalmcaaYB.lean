/- The contract of the reference's shape: where its first test says yes. -/
import Derived.Test.YtlcgjehepalmcaaVK
import Derived.Test.YtlcgjehepalmcaaVB
import Derived.Deep.DeepCutAuto
namespace Go.Proofs.Ytlcgjehepalmcaa
open Go.ChangeShapes Go.WideShapes Go.ChangeAt Go.RowKit Go.BigFrame
set_option maxHeartbeats 2000000 in
set_option maxRecDepth 100000 in
theorem shape_y0 (a : Option Addr) (c : Nat) (d : Int) (w : World) (p : Prop) (hp : p) :
    Calls Try.prog 63 #[.agg #[.int .i64 0, .int .i64 0, .int .u64 0, .string ⟨#[]⟩, .slice a 0 c], .int .i64 d] w (FP p w) := by
  have HP : Hid (p) := hp
  have HC : Hid (∀ w, Calls Try.prog 68 #[.int .u64 0] w fun e w' => e = .returned (.int .u64 0) ∧ w' = w) := fun w => refCanon_calls 0 w
  clear hp
  go_enter Try.func63, Try.ntmps63
  go_wp2_with fail
  refine wp_region_quiet_lit (by kernel_rfl) (by kernel_rfl) ?_
  repeat (go_big_quiet_step (first | (go_at_call 68; exact Calls.quiet_of_same (HC.out _))))
  refine wpQuiet_nil ?_
  intro _ hw'
  obtain ⟨nq, hw''⟩ := hw'
  subst hw''
  generalize hW0 : w.alloc (Obj.cells #[.int .i64 0, .int .i64 0, .int .u64 0, .string ⟨#[]⟩, .slice a 0 c] 26) = W0
  have hg : (W0.drewN nq).cell? ⟨w.heap.size, 4, none⟩ = some (.slice a 0 c) := by subst hW0; rw [World.cell?_drewN]; go_simp
  have HB : Hid (Below w.heap.size w (W0.drewN nq)) := by subst hW0; exact bel2 (bel1 _ _) (belN _ _)
  generalize W0.drewN nq = W1 at hg HB ⊢
  clear hW0
  go_wp2_with fail
  go_loopw [5] (fun i wr => i = .int .i64 0 ∧ wr = W1) (fun _ _ => 0)
  case atStart => exact ⟨rfl, rfl⟩
  case round =>
    obtain ⟨rfl, rfl⟩ := hrel
    go_wp2_with fail
    go_ret
    exact FP.yes HP.out HB.out
set_option maxHeartbeats 2000000 in
set_option maxRecDepth 100000 in
theorem shape_y1 (x : Int) (a : Option Addr) (c : Nat) (d : Int) (w : World) (p : Prop) (hp : p) :
    Calls Try.prog 63 #[.agg #[.int .i64 1, .int .i64 x, .int .u64 0, .string ⟨#[]⟩, .slice a 0 c], .int .i64 d] w (FP p w) := by
  have HP : Hid (p) := hp
  have HC : Hid (∀ w, Calls Try.prog 68 #[.int .u64 0] w fun e w' => e = .returned (.int .u64 0) ∧ w' = w) := fun w => refCanon_calls 0 w
  clear hp
  go_enter Try.func63, Try.ntmps63
  go_wp2_with fail
  refine wp_region_quiet_lit (by kernel_rfl) (by kernel_rfl) ?_
  repeat (go_big_quiet_step (first | (go_at_call 68; exact Calls.quiet_of_same (HC.out _))))
  refine wpQuiet_nil ?_
  intro _ hw'
  obtain ⟨nq, hw''⟩ := hw'
  subst hw''
  generalize hW0 : w.alloc (Obj.cells #[.int .i64 1, .int .i64 x, .int .u64 0, .string ⟨#[]⟩, .slice a 0 c] 26) = W0
  have hg : (W0.drewN nq).cell? ⟨w.heap.size, 4, none⟩ = some (.slice a 0 c) := by subst hW0; rw [World.cell?_drewN]; go_simp
  have HB : Hid (Below w.heap.size w (W0.drewN nq)) := by subst hW0; exact bel2 (bel1 _ _) (belN _ _)
  generalize W0.drewN nq = W1 at hg HB ⊢
  clear hW0
  go_wp2_with fail
  go_loopw [5] (fun i wr => i = .int .i64 0 ∧ wr = W1) (fun _ _ => 0)
  case atStart => exact ⟨rfl, rfl⟩
  case round =>
    obtain ⟨rfl, rfl⟩ := hrel
    go_wp2_with fail
    go_ret
    exact FP.yes HP.out HB.out
set_option maxHeartbeats 2000000 in
set_option maxRecDepth 100000 in
theorem shape_y2 (b b' : Nat) (hC : ∀ w, Calls Try.prog 68 #[.int .u64 (b : Int)] w fun e w' => e = .returned (.int .u64 (b' : Int)) ∧ w' = w) (h : b' = b) (a : Option Addr) (c : Nat) (d : Int) (w : World) (p : Prop) (hp : p) :
    Calls Try.prog 63 #[.agg #[.int .i64 2, .int .i64 0, .int .u64 (b : Int), .string ⟨#[]⟩, .slice a 0 c], .int .i64 d] w (FP p w) := by
  have HP : Hid (p) := hp
  have HC : Hid (∀ w, Calls Try.prog 68 #[.int .u64 (b : Int)] w fun e w' => e = .returned (.int .u64 (b' : Int)) ∧ w' = w) := hC
  clear hp
  have f1 : ((b : Int) != (b' : Int)) = false := by simp [h]
  have f2 : (b != b') = false := by simp [h]
  clear h hC
  go_enter Try.func63, Try.ntmps63
  go_wp2_with fail
  refine wp_region_quiet_lit (by kernel_rfl) (by kernel_rfl) ?_
  repeat (go_big_quiet_step (first | (go_at_call 68; exact Calls.quiet_of_same (HC.out _))))
  refine wpQuiet_nil ?_
  intro _ hw'
  obtain ⟨nq, hw''⟩ := hw'
  subst hw''
  generalize hW0 : w.alloc (Obj.cells #[.int .i64 2, .int .i64 0, .int .u64 (b : Int), .string ⟨#[]⟩, .slice a 0 c] 26) = W0
  have hg : (W0.drewN nq).cell? ⟨w.heap.size, 4, none⟩ = some (.slice a 0 c) := by subst hW0; rw [World.cell?_drewN]; go_simp
  have HB : Hid (Below w.heap.size w (W0.drewN nq)) := by subst hW0; exact bel2 (bel1 _ _) (belN _ _)
  generalize W0.drewN nq = W1 at hg HB ⊢
  clear hW0
  go_wp2_with fail
  go_loopw [5] (fun i wr => i = .int .i64 0 ∧ wr = W1) (fun _ _ => 0)
  case atStart => exact ⟨rfl, rfl⟩
  case round =>
    obtain ⟨rfl, rfl⟩ := hrel
    go_wp2_with fail
    go_ret
    exact FP.yes HP.out HB.out
set_option maxHeartbeats 2000000 in
set_option maxRecDepth 100000 in
theorem shape_n2 (b b' : Nat) (hC : ∀ w, Calls Try.prog 68 #[.int .u64 (b : Int)] w fun e w' => e = .returned (.int .u64 (b' : Int)) ∧ w' = w) (h : ¬ b' = b) (a : Option Addr) (c : Nat) (d : Int) (w : World) (p : Prop) (hp : ¬ p) :
    Calls Try.prog 63 #[.agg #[.int .i64 2, .int .i64 0, .int .u64 (b : Int), .string ⟨#[]⟩, .slice a 0 c], .int .i64 d] w (FP p w) := by
  have HP : Hid (¬ p) := hp
  have HC : Hid (∀ w, Calls Try.prog 68 #[.int .u64 (b : Int)] w fun e w' => e = .returned (.int .u64 (b' : Int)) ∧ w' = w) := hC
  clear hp
  have f1 : ((b : Int) != (b' : Int)) = true := by simp; omega
  have f2 : (b != b') = true := by simp; omega
  clear h hC
  go_enter Try.func63, Try.ntmps63
  go_wp2_with fail
  refine wp_region_quiet_lit (by kernel_rfl) (by kernel_rfl) ?_
  repeat (go_big_quiet_step (first | (go_at_call 68; exact Calls.quiet_of_same (HC.out _))))
  refine wpQuiet_nil ?_
  intro _ hw'
  obtain ⟨nq, hw''⟩ := hw'
  subst hw''
  go_wp2_with fail
  go_ret
  exact FP.no HP.out (bel2 (bel1 _ _) (belN _ _))
set_option maxHeartbeats 2000000 in
set_option maxRecDepth 100000 in
theorem shape_y3 (s : ByteArray) (h : s.size ≤ 200) (a : Option Addr) (c : Nat) (d : Int) (w : World) (p : Prop) (hp : p) :
    Calls Try.prog 63 #[.agg #[.int .i64 3, .int .i64 0, .int .u64 0, .string s, .slice a 0 c], .int .i64 d] w (FP p w) := by
  have HP : Hid (p) := hp
  have HC : Hid (∀ w, Calls Try.prog 68 #[.int .u64 0] w fun e w' => e = .returned (.int .u64 0) ∧ w' = w) := fun w => refCanon_calls 0 w
  clear hp
  have f1 : decide (200 < (s.size : Int)) = false := decide_eq_false (by omega)
  have f2 : decide (200 < s.size) = false := decide_eq_false (by omega)
  clear h
  go_enter Try.func63, Try.ntmps63
  go_wp2_with fail
  refine wp_region_quiet_lit (by kernel_rfl) (by kernel_rfl) ?_
  repeat (go_big_quiet_step (first | (go_at_call 68; exact Calls.quiet_of_same (HC.out _))))
  refine wpQuiet_nil ?_
  intro _ hw'
  obtain ⟨nq, hw''⟩ := hw'
  subst hw''
  generalize hW0 : w.alloc (Obj.cells #[.int .i64 3, .int .i64 0, .int .u64 0, .string s, .slice a 0 c] 26) = W0
  have hg : (W0.drewN nq).cell? ⟨w.heap.size, 4, none⟩ = some (.slice a 0 c) := by subst hW0; rw [World.cell?_drewN]; go_simp
  have HB : Hid (Below w.heap.size w (W0.drewN nq)) := by subst hW0; exact bel2 (bel1 _ _) (belN _ _)
  generalize W0.drewN nq = W1 at hg HB ⊢
  clear hW0
  go_wp2_with fail
  go_loopw [5] (fun i wr => i = .int .i64 0 ∧ wr = W1) (fun _ _ => 0)
  case atStart => exact ⟨rfl, rfl⟩
  case round =>
    obtain ⟨rfl, rfl⟩ := hrel
    go_wp2_with fail
    go_ret
    exact FP.yes HP.out HB.out
set_option maxHeartbeats 2000000 in
set_option maxRecDepth 100000 in
theorem shape_n3 (s : ByteArray) (h : ¬ s.size ≤ 200) (a : Option Addr) (c : Nat) (d : Int) (w : World) (p : Prop) (hp : ¬ p) :
    Calls Try.prog 63 #[.agg #[.int .i64 3, .int .i64 0, .int .u64 0, .string s, .slice a 0 c], .int .i64 d] w (FP p w) := by
  have HP : Hid (¬ p) := hp
  have HC : Hid (∀ w, Calls Try.prog 68 #[.int .u64 0] w fun e w' => e = .returned (.int .u64 0) ∧ w' = w) := fun w => refCanon_calls 0 w
  clear hp
  have f1 : decide (200 < (s.size : Int)) = true := decide_eq_true (by omega)
  have f2 : decide (200 < s.size) = true := decide_eq_true (by omega)
  clear h
  go_enter Try.func63, Try.ntmps63
  go_wp2_with fail
  refine wp_region_quiet_lit (by kernel_rfl) (by kernel_rfl) ?_
  repeat (go_big_quiet_step (first | (go_at_call 68; exact Calls.quiet_of_same (HC.out _))))
  refine wpQuiet_nil ?_
  intro _ hw'
  obtain ⟨nq, hw''⟩ := hw'
  subst hw''
  go_wp2_with fail
  go_ret
  exact FP.no HP.out (bel2 (bel1 _ _) (belN _ _))
set_option maxHeartbeats 2000000 in
set_option maxRecDepth 100000 in
theorem shape_n4 (N : Nat) (h : ¬ N ≤ 12) (a : Option Addr) (c : Nat) (d : Int) (w : World) (p : Prop) (hp : ¬ p) :
    Calls Try.prog 63 #[.agg #[.int .i64 4, .int .i64 0, .int .u64 0, .string ⟨#[]⟩, .slice a N c], .int .i64 d] w (FP p w) := by
  have HP : Hid (¬ p) := hp
  have HC : Hid (∀ w, Calls Try.prog 68 #[.int .u64 0] w fun e w' => e = .returned (.int .u64 0) ∧ w' = w) := fun w => refCanon_calls 0 w
  clear hp
  have f1 : decide (12 < (N : Int)) = true := decide_eq_true (by omega)
  have f2 : decide (12 < N) = true := decide_eq_true (by omega)
  clear h
  go_enter Try.func63, Try.ntmps63
  go_wp2_with fail
  refine wp_region_quiet_lit (by kernel_rfl) (by kernel_rfl) ?_
  repeat (go_big_quiet_step (first | (go_at_call 68; exact Calls.quiet_of_same (HC.out _))))
  refine wpQuiet_nil ?_
  intro _ hw'
  obtain ⟨nq, hw''⟩ := hw'
  subst hw''
  go_wp2_with fail
  go_ret
  exact FP.no HP.out (bel2 (bel1 _ _) (belN _ _))
set_option maxHeartbeats 2000000 in
set_option maxRecDepth 100000 in
theorem shape_d4 (N : Nat) (h : N ≤ 12) (a : Option Addr) (c : Nat) (w : World) (p : Prop) (hp : ¬ p) :
    Calls Try.prog 63 #[.agg #[.int .i64 4, .int .i64 0, .int .u64 0, .string ⟨#[]⟩, .slice a N c], .int .i64 0] w (FP p w) := by
  have HP : Hid (¬ p) := hp
  have HC : Hid (∀ w, Calls Try.prog 68 #[.int .u64 0] w fun e w' => e = .returned (.int .u64 0) ∧ w' = w) := fun w => refCanon_calls 0 w
  clear hp
  have f1 : decide (12 < (N : Int)) = false := decide_eq_false (by omega)
  have f2 : decide (12 < N) = false := decide_eq_false (by omega)
  clear h
  go_enter Try.func63, Try.ntmps63
  go_wp2_with fail
  refine wp_region_quiet_lit (by kernel_rfl) (by kernel_rfl) ?_
  repeat (go_big_quiet_step (first | (go_at_call 68; exact Calls.quiet_of_same (HC.out _))))
  refine wpQuiet_nil ?_
  intro _ hw'
  obtain ⟨nq, hw''⟩ := hw'
  subst hw''
  go_wp2_with fail
  go_ret
  exact FP.no HP.out (bel2 (bel1 _ _) (belN _ _))
end Go.Proofs.Ytlcgjehepalmcaa
