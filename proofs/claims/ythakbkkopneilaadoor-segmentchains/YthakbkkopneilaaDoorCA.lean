/- The contracts of behind and follows. -/
import Derived.Test.YthakbkkopneilaaDoorBH
import Derived.Deep.RegionHeld3
namespace Go.Proofs.YthakbkkopneilaaDoor
open Go.ChangeShapes Go.WideShapes Go.ChangeAt Go.RowKit
theorem wrap_whole (x : Int) (h : -9223372036854775808 ≤ x) (h2 : x ≤ 9223372036854775807) : IntKind.i64.wrap x = x := by
  have e : (2 : Int) ^ 64 = 18446744073709551616 := by decide
  have e2 : (2 : Int) ^ 63 = 9223372036854775808 := by decide
  simp only [IntKind.wrap, IntKind.signed, IntKind.bits, Bool.true_and, decide_eq_true_eq, e, show (64 - 1 : Nat) = 63 from rfl, e2]
  split <;> omega
/-- How many records a log has behind a segment, and whether there is such a number. -/
def bh (f : Int) (n : Nat) : Int × Bool := if 9223372036854775807 - (n : Int) < f then (9223372036854775807, false) else (f + n, true)
set_option maxHeartbeats 1000000 in
set_option maxRecDepth 100000 in
theorem behind_calls (B o : Nat) (f : Int) (ra : Option Addr) (rn rc : Nat) (w : World) (h1 : w.cell? ⟨B, o + 1, none⟩ = some (.int .i64 f)) (h4 : w.cell? ⟨B, o + 4, none⟩ = some (.slice ra rn rc)) (hn : rn ≤ 9223372036854775807) (hf : -9223372036854775808 ≤ f) (hf2 : f ≤ 9223372036854775807) :
    Calls Tryd.prog 42 #[.pointer (some ⟨B, o, none⟩)] w fun e w' => e = .returned (.tuple #[.int .i64 (bh f rn).1, .bool (bh f rn).2]) ∧ Below w.heap.size w w' := by
  obtain ⟨D, hD⟩ : ∃ D : Int, D = 9223372036854775807 - (rn : Int) := ⟨_, rfl⟩
  have hw : IntKind.i64.wrap (9223372036854775807 - (rn : Int)) = D := by rw [hD]; exact wrap_whole _ (by omega) (by omega)
  by_cases hb : D < f
  · have d : decide (D < f) = true := decide_eq_true hb
    have HR : Hid (bh f rn = (9223372036854775807, false)) := by show _ = _; unfold bh; rw [if_pos (by omega)]
    clear hn hf hf2 hD hb
    go_enter Tryd.func42, Tryd.ntmps42
    go_wp2_with fail
    go_region_held3 (fun w' => w'.cell? ⟨B, o + 1, none⟩ = some (.int .i64 f) ∧ w'.cell? ⟨B, o + 4, none⟩ = some (.slice ra rn rc)) (go_keep) (fail)
    go_wp2_with fail
    go_ret2
    rw [HR.out]
    exact ⟨rfl, (Below.refl _ _).drew⟩
  · have d : decide (D < f) = false := decide_eq_false hb
    have HR : Hid (bh f rn = (f + (rn : Int), true)) := by show _ = _; unfold bh; rw [if_neg (by omega)]
    have hw3 : IntKind.i64.wrap (f + (rn : Int)) = f + (rn : Int) := wrap_whole _ (by omega) (by omega)
    have h1' : w.drew.cell? ⟨B, o + 1, none⟩ = some (.int .i64 f) := h1
    have h4' : w.drew.cell? ⟨B, o + 4, none⟩ = some (.slice ra rn rc) := h4
    clear hn hf hf2 hD hb
    go_enter Tryd.func42, Tryd.ntmps42
    go_wp2_with fail
    go_region_held3 (fun w' => w'.cell? ⟨B, o + 1, none⟩ = some (.int .i64 f) ∧ w'.cell? ⟨B, o + 4, none⟩ = some (.slice ra rn rc)) (go_keep) (fail)
    go_wp2_with fail
    go_region_held3 (fun w' => w'.cell? ⟨B, o + 1, none⟩ = some (.int .i64 f) ∧ w'.cell? ⟨B, o + 4, none⟩ = some (.slice ra rn rc)) (go_keep) (fail)
    go_wp2_with fail
    go_ret2
    rw [HR.out]
    exact ⟨rfl, (Below.refl _ _).drew.drew⟩
end Go.Proofs.YthakbkkopneilaaDoor
