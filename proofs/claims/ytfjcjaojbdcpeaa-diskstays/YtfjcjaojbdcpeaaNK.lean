/- The contracts of Fuse, Room and Dead. -/
import Derived.Test.YtfjcjaojbdcpeaaNJ
namespace Go.Proofs.Ytfjcjaojbdcpeaa
open Go.ChangeShapes Go.WideShapes Go.ChangeAt Go.RowKit Go.Maps
theorem dead_calls (g b : Nat) (c0 c1 : Value) (dead : Bool) (w : World) (h : Bk w g #[c0, c1, .bool dead, .map (some b)] 57) : Calls Try.prog 13 #[.pointer (some ⟨g, 0, none⟩)] w fun e w' => e = .returned (.bool dead) ∧ w' = w := by
  have HM : Hid (Calls Try.prog 35 #[.pointer (some ⟨g, 0, none⟩)] w _) := made_calls g b c0 c1 (.bool dead) w h
  have x2 : w.cell? ⟨g, 2, none⟩ = some (.bool dead) := h.cell 2
  clear h
  go_enter Try.func13, Try.ntmps13
  go_wp2_with fail
  refine HM.out.mono ?_
  rintro e w1 ⟨rfl, hw⟩
  have hw' := hw.symm
  subst hw'
  clear hw HM
  go_wp2_with fail
  go_ret
  exact ⟨rfl, rfl⟩
theorem fuse_bad (g b : Nat) (c0 c1 c2 : Value) (n : Int) (hn : n < 0) (w : World) (h : Bk w g #[c0, c1, c2, .map (some b)] 57) : Calls Try.prog 22 #[.pointer (some ⟨g, 0, none⟩), .int .i64 n] w fun e w' => e = .returned (.int .i64 1) ∧ w' = w := by
  have HM : Hid (Calls Try.prog 35 #[.pointer (some ⟨g, 0, none⟩)] w _) := made_calls g b c0 c1 c2 w h
  clear h
  go_enter Try.func22, Try.ntmps22
  go_wp2_with fail
  refine HM.out.mono ?_
  rintro e w1 ⟨rfl, hw⟩
  have hw' := hw.symm
  subst hw'
  clear hw HM
  go_wp2_with fail
  go_ret
  exact ⟨rfl, rfl⟩
theorem fuse_dead (g b : Nat) (c0 c1 : Value) (n : Int) (hn : ¬ n < 0) (w : World) (h : Bk w g #[c0, c1, .bool true, .map (some b)] 57) : Calls Try.prog 22 #[.pointer (some ⟨g, 0, none⟩), .int .i64 n] w fun e w' => e = .returned (.int .i64 8) ∧ w' = w := by
  have HM : Hid (Calls Try.prog 35 #[.pointer (some ⟨g, 0, none⟩)] w _) := made_calls g b c0 c1 (.bool true) w h
  have x2 : w.cell? ⟨g, 2, none⟩ = some (.bool true) := h.cell 2
  clear h
  go_enter Try.func22, Try.ntmps22
  go_wp2_with fail
  refine HM.out.mono ?_
  rintro e w1 ⟨rfl, hw⟩
  have hw' := hw.symm
  subst hw'
  clear hw HM
  go_wp2_with fail
  go_ret
  exact ⟨rfl, rfl⟩
theorem fuse_calls (g b : Nat) (c0 c1 : Value) (n : Int) (hn : ¬ n < 0) (w : World) (h : Bk w g #[c0, c1, .bool false, .map (some b)] 57) : Calls Try.prog 22 #[.pointer (some ⟨g, 0, none⟩), .int .i64 n] w fun e w' => e = .returned (.int .i64 0) ∧ w' = w.setCell ⟨g, 1, none⟩ (.int .i64 n) := by
  have HM : Hid (Calls Try.prog 35 #[.pointer (some ⟨g, 0, none⟩)] w _) := made_calls g b c0 c1 (.bool false) w h
  have x1 : w.cell? ⟨g, 1, none⟩ = some c1 := h.cell 1
  have x2 : w.cell? ⟨g, 2, none⟩ = some (.bool false) := h.cell 2
  have z1 := h.frozen 1
  clear h
  go_enter Try.func22, Try.ntmps22
  go_wp2_with fail
  refine HM.out.mono ?_
  rintro e w1 ⟨rfl, hw⟩
  have hw' := hw.symm
  subst hw'
  clear hw HM
  go_wp2_with fail
  go_ret
  exact ⟨rfl, rfl⟩
theorem room_bad (g b : Nat) (c0 c1 c2 : Value) (n : Int) (hn : ¬ (0 ≤ n ∧ n ≤ 16777216)) (w : World) (h : Bk w g #[c0, c1, c2, .map (some b)] 57) : Calls Try.prog 24 #[.pointer (some ⟨g, 0, none⟩), .int .i64 n] w fun e w' => e = .returned (.int .i64 1) ∧ w' = w := by
  have HM : Hid (Calls Try.prog 35 #[.pointer (some ⟨g, 0, none⟩)] w _) := made_calls g b c0 c1 c2 w h
  have HR : Hid (Calls Try.prog 26 #[.int .i64 n] w fun e w' => e = .returned (.bool false) ∧ w' = w) := (isRoom_calls n w).mono fun e w' ⟨h1, h2⟩ => ⟨by rw [h1, decide_eq_false hn], h2⟩
  clear h hn
  go_enter Try.func24, Try.ntmps24
  go_wp2_with fail
  refine HM.out.mono ?_
  rintro e w1 ⟨rfl, hw⟩
  have hw' := hw.symm
  subst hw'
  clear hw HM
  go_wp2_with fail
  refine HR.out.mono ?_
  rintro e w1 ⟨rfl, hw⟩
  have hw' := hw.symm
  subst hw'
  clear hw HR
  go_wp2_with fail
  go_ret
  exact ⟨rfl, rfl⟩
theorem room_dead (g b : Nat) (c0 c1 : Value) (n : Int) (hn : 0 ≤ n ∧ n ≤ 16777216) (w : World) (h : Bk w g #[c0, c1, .bool true, .map (some b)] 57) : Calls Try.prog 24 #[.pointer (some ⟨g, 0, none⟩), .int .i64 n] w fun e w' => e = .returned (.int .i64 8) ∧ w' = w := by
  have HM : Hid (Calls Try.prog 35 #[.pointer (some ⟨g, 0, none⟩)] w _) := made_calls g b c0 c1 (.bool true) w h
  have HR : Hid (Calls Try.prog 26 #[.int .i64 n] w fun e w' => e = .returned (.bool true) ∧ w' = w) := (isRoom_calls n w).mono fun e w' ⟨h1, h2⟩ => ⟨by rw [h1, decide_eq_true hn], h2⟩
  have x2 : w.cell? ⟨g, 2, none⟩ = some (.bool true) := h.cell 2
  clear h hn
  go_enter Try.func24, Try.ntmps24
  go_wp2_with fail
  refine HM.out.mono ?_
  rintro e w1 ⟨rfl, hw⟩
  have hw' := hw.symm
  subst hw'
  clear hw HM
  go_wp2_with fail
  refine HR.out.mono ?_
  rintro e w1 ⟨rfl, hw⟩
  have hw' := hw.symm
  subst hw'
  clear hw HR
  go_wp2_with fail
  go_ret
  exact ⟨rfl, rfl⟩
theorem room_calls (g b : Nat) (c0 c1 : Value) (n : Int) (hn : 0 ≤ n ∧ n ≤ 16777216) (w : World) (h : Bk w g #[c0, c1, .bool false, .map (some b)] 57) : Calls Try.prog 24 #[.pointer (some ⟨g, 0, none⟩), .int .i64 n] w fun e w' => e = .returned (.int .i64 0) ∧ w' = w.setCell ⟨g, 0, none⟩ (.int .i64 n) := by
  have HM : Hid (Calls Try.prog 35 #[.pointer (some ⟨g, 0, none⟩)] w _) := made_calls g b c0 c1 (.bool false) w h
  have HR : Hid (Calls Try.prog 26 #[.int .i64 n] w fun e w' => e = .returned (.bool true) ∧ w' = w) := (isRoom_calls n w).mono fun e w' ⟨h1, h2⟩ => ⟨by rw [h1, decide_eq_true hn], h2⟩
  have x0 : w.cell? ⟨g, 0, none⟩ = some c0 := h.cell 0
  have x2 : w.cell? ⟨g, 2, none⟩ = some (.bool false) := h.cell 2
  have z0 := h.frozen 0
  clear h hn
  go_enter Try.func24, Try.ntmps24
  go_wp2_with fail
  refine HM.out.mono ?_
  rintro e w1 ⟨rfl, hw⟩
  have hw' := hw.symm
  subst hw'
  clear hw HM
  go_wp2_with fail
  refine HR.out.mono ?_
  rintro e w1 ⟨rfl, hw⟩
  have hw' := hw.symm
  subst hw'
  clear hw HR
  go_wp2_with fail
  go_ret
  exact ⟨rfl, rfl⟩
end Go.Proofs.Ytfjcjaojbdcpeaa
