/- The contracts of change. -/
import Derived.Test.YtfjcjaojbdcpeaaNE
import Derived.Laws.EntriesVeiled
namespace Go.Proofs.Ytfjcjaojbdcpeaa
open Go.ChangeShapes Go.WideShapes Go.ChangeAt Go.RowKit Go.Maps
theorem change_app0 (g : Nat) (c0 c2 c3 : Value) (p0 p1 p2 : Value) (w : World) (h : Bk w g #[c0, .int .i64 0, c2, c3] 57) : Calls Try.prog 40 #[.pointer (some ⟨g, 0, none⟩), .func (.func 41) #[] #[p0, p1, p2]] w fun e w' => e = .returned (.int .i64 8) ∧ w' = w.setCell ⟨g, 2, none⟩ (.bool true) := by
  have x1 : w.cell? ⟨g, 1, none⟩ = some (.int .i64 0) := h.cell 1
  have x2 : w.cell? ⟨g, 2, none⟩ = some c2 := h.cell 2
  have z2 := h.frozen 2
  clear h
  go_enter Try.func40, Try.ntmps40
  go_wp2_with fail
  go_ret
  exact ⟨rfl, rfl⟩
theorem change_appF (g : Nat) (c0 c2 c3 : Value) (p0 p1 p2 : Value) (w : World) (Q : World → Prop) (h : Bk w g #[c0, .int .i64 (-1), c2, c3] 57) (hq : Calls Try.prog 41 #[p0, p1, p2] w fun e w' => e = .returned (.tuple #[]) ∧ Q w') : Calls Try.prog 40 #[.pointer (some ⟨g, 0, none⟩), .func (.func 41) #[] #[p0, p1, p2]] w fun e w' => e = .returned (.int .i64 0) ∧ Q w' := by
  have x1 : w.cell? ⟨g, 1, none⟩ = some (.int .i64 (-1)) := h.cell 1
  have HQ : Hid (Calls Try.prog 41 #[p0, p1, p2] w fun e w' => e = .returned (.tuple #[]) ∧ Q w') := hq
  clear h hq
  go_enter Try.func40, Try.ntmps40
  go_wp2_with fail
  refine HQ.out.mono ?_
  rintro e w1 ⟨rfl, hw⟩
  have HW : Hid (Q w1) := hw
  clear hw
  go_wp2_with fail
  go_ret
  exact ⟨rfl, HW.out⟩
theorem change_appN (g : Nat) (c0 c2 c3 : Value) (f : Int) (h0 : 0 < f) (h1 : f ≤ 9223372036854775807) (p0 p1 p2 : Value) (w : World) (Q : World → Prop) (h : Bk w g #[c0, .int .i64 f, c2, c3] 57) (hq : Calls Try.prog 41 #[p0, p1, p2] (w.setCell ⟨g, 1, none⟩ (.int .i64 (f - 1))) fun e w' => e = .returned (.tuple #[]) ∧ Q w') : Calls Try.prog 40 #[.pointer (some ⟨g, 0, none⟩), .func (.func 41) #[] #[p0, p1, p2]] w fun e w' => e = .returned (.int .i64 0) ∧ Q w' := by
  have x1 : w.cell? ⟨g, 1, none⟩ = some (.int .i64 f) := h.cell 1
  have z1 := h.frozen 1
  have f0 : (f == 0) = false := by simp; omega
  have f1 : (f != -1) = true := by simp; omega
  have HWr : wrap64 (f - 1) = f - 1 := by unfold wrap64; omega
  rw [← HWr] at hq
  have HQ : Hid (Calls Try.prog 41 #[p0, p1, p2] (w.setCell ⟨g, 1, none⟩ (.int .i64 (wrap64 (f - 1)))) fun e w' => e = .returned (.tuple #[]) ∧ Q w') := hq
  clear h hq h0 h1 HWr
  go_enter Try.func40, Try.ntmps40
  go_wp2_with fail
  refine HQ.out.mono ?_
  rintro e w1 ⟨rfl, hw⟩
  have HW : Hid (Q w1) := hw
  clear hw
  go_wp2_with fail
  go_ret
  exact ⟨rfl, HW.out⟩
theorem change_sec0 (g : Nat) (c0 c2 c3 : Value) (p0 : Value) (w : World) (h : Bk w g #[c0, .int .i64 0, c2, c3] 57) : Calls Try.prog 40 #[.pointer (some ⟨g, 0, none⟩), .func (.func 43) #[p0] #[]] w fun e w' => e = .returned (.int .i64 8) ∧ w' = w.setCell ⟨g, 2, none⟩ (.bool true) := by
  have x1 : w.cell? ⟨g, 1, none⟩ = some (.int .i64 0) := h.cell 1
  have x2 : w.cell? ⟨g, 2, none⟩ = some c2 := h.cell 2
  have z2 := h.frozen 2
  clear h
  go_enter Try.func40, Try.ntmps40
  go_wp2_with fail
  go_ret
  exact ⟨rfl, rfl⟩
theorem change_secF (g : Nat) (c0 c2 c3 : Value) (p0 : Value) (w : World) (Q : World → Prop) (h : Bk w g #[c0, .int .i64 (-1), c2, c3] 57) (hq : Calls Try.prog 43 #[p0] w fun e w' => e = .returned (.tuple #[]) ∧ Q w') : Calls Try.prog 40 #[.pointer (some ⟨g, 0, none⟩), .func (.func 43) #[p0] #[]] w fun e w' => e = .returned (.int .i64 0) ∧ Q w' := by
  have x1 : w.cell? ⟨g, 1, none⟩ = some (.int .i64 (-1)) := h.cell 1
  have HQ : Hid (Calls Try.prog 43 #[p0] w fun e w' => e = .returned (.tuple #[]) ∧ Q w') := hq
  clear h hq
  go_enter Try.func40, Try.ntmps40
  go_wp2_with fail
  refine HQ.out.mono ?_
  rintro e w1 ⟨rfl, hw⟩
  have HW : Hid (Q w1) := hw
  clear hw
  go_wp2_with fail
  go_ret
  exact ⟨rfl, HW.out⟩
theorem change_secN (g : Nat) (c0 c2 c3 : Value) (f : Int) (h0 : 0 < f) (h1 : f ≤ 9223372036854775807) (p0 : Value) (w : World) (Q : World → Prop) (h : Bk w g #[c0, .int .i64 f, c2, c3] 57) (hq : Calls Try.prog 43 #[p0] (w.setCell ⟨g, 1, none⟩ (.int .i64 (f - 1))) fun e w' => e = .returned (.tuple #[]) ∧ Q w') : Calls Try.prog 40 #[.pointer (some ⟨g, 0, none⟩), .func (.func 43) #[p0] #[]] w fun e w' => e = .returned (.int .i64 0) ∧ Q w' := by
  have x1 : w.cell? ⟨g, 1, none⟩ = some (.int .i64 f) := h.cell 1
  have z1 := h.frozen 1
  have f0 : (f == 0) = false := by simp; omega
  have f1 : (f != -1) = true := by simp; omega
  have HWr : wrap64 (f - 1) = f - 1 := by unfold wrap64; omega
  rw [← HWr] at hq
  have HQ : Hid (Calls Try.prog 43 #[p0] (w.setCell ⟨g, 1, none⟩ (.int .i64 (wrap64 (f - 1)))) fun e w' => e = .returned (.tuple #[]) ∧ Q w') := hq
  clear h hq h0 h1 HWr
  go_enter Try.func40, Try.ntmps40
  go_wp2_with fail
  refine HQ.out.mono ?_
  rintro e w1 ⟨rfl, hw⟩
  have HW : Hid (Q w1) := hw
  clear hw
  go_wp2_with fail
  go_ret
  exact ⟨rfl, HW.out⟩
theorem change_cut0 (g : Nat) (c0 c2 c3 : Value) (p0 p1 p2 : Value) (w : World) (h : Bk w g #[c0, .int .i64 0, c2, c3] 57) : Calls Try.prog 40 #[.pointer (some ⟨g, 0, none⟩), .func (.func 47) #[] #[p0, p1, p2]] w fun e w' => e = .returned (.int .i64 8) ∧ w' = w.setCell ⟨g, 2, none⟩ (.bool true) := by
  have x1 : w.cell? ⟨g, 1, none⟩ = some (.int .i64 0) := h.cell 1
  have x2 : w.cell? ⟨g, 2, none⟩ = some c2 := h.cell 2
  have z2 := h.frozen 2
  clear h
  go_enter Try.func40, Try.ntmps40
  go_wp2_with fail
  go_ret
  exact ⟨rfl, rfl⟩
theorem change_cutF (g : Nat) (c0 c2 c3 : Value) (p0 p1 p2 : Value) (w : World) (Q : World → Prop) (h : Bk w g #[c0, .int .i64 (-1), c2, c3] 57) (hq : Calls Try.prog 47 #[p0, p1, p2] w fun e w' => e = .returned (.tuple #[]) ∧ Q w') : Calls Try.prog 40 #[.pointer (some ⟨g, 0, none⟩), .func (.func 47) #[] #[p0, p1, p2]] w fun e w' => e = .returned (.int .i64 0) ∧ Q w' := by
  have x1 : w.cell? ⟨g, 1, none⟩ = some (.int .i64 (-1)) := h.cell 1
  have HQ : Hid (Calls Try.prog 47 #[p0, p1, p2] w fun e w' => e = .returned (.tuple #[]) ∧ Q w') := hq
  clear h hq
  go_enter Try.func40, Try.ntmps40
  go_wp2_with fail
  refine HQ.out.mono ?_
  rintro e w1 ⟨rfl, hw⟩
  have HW : Hid (Q w1) := hw
  clear hw
  go_wp2_with fail
  go_ret
  exact ⟨rfl, HW.out⟩
theorem change_cutN (g : Nat) (c0 c2 c3 : Value) (f : Int) (h0 : 0 < f) (h1 : f ≤ 9223372036854775807) (p0 p1 p2 : Value) (w : World) (Q : World → Prop) (h : Bk w g #[c0, .int .i64 f, c2, c3] 57) (hq : Calls Try.prog 47 #[p0, p1, p2] (w.setCell ⟨g, 1, none⟩ (.int .i64 (f - 1))) fun e w' => e = .returned (.tuple #[]) ∧ Q w') : Calls Try.prog 40 #[.pointer (some ⟨g, 0, none⟩), .func (.func 47) #[] #[p0, p1, p2]] w fun e w' => e = .returned (.int .i64 0) ∧ Q w' := by
  have x1 : w.cell? ⟨g, 1, none⟩ = some (.int .i64 f) := h.cell 1
  have z1 := h.frozen 1
  have f0 : (f == 0) = false := by simp; omega
  have f1 : (f != -1) = true := by simp; omega
  have HWr : wrap64 (f - 1) = f - 1 := by unfold wrap64; omega
  rw [← HWr] at hq
  have HQ : Hid (Calls Try.prog 47 #[p0, p1, p2] (w.setCell ⟨g, 1, none⟩ (.int .i64 (wrap64 (f - 1)))) fun e w' => e = .returned (.tuple #[]) ∧ Q w') := hq
  clear h hq h0 h1 HWr
  go_enter Try.func40, Try.ntmps40
  go_wp2_with fail
  refine HQ.out.mono ?_
  rintro e w1 ⟨rfl, hw⟩
  have HW : Hid (Q w1) := hw
  clear hw
  go_wp2_with fail
  go_ret
  exact ⟨rfl, HW.out⟩
end Go.Proofs.Ytfjcjaojbdcpeaa
