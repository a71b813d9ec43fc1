/- The walk of PolicyDelays. -/
import Derived.Test.YtlpfdilnoglgcaaD
import Derived.Test.YtlpfdilnoglgcaaO
import Derived.Deep.RegionHeld3
namespace Go.Proofs.Ytlpfdilnoglgcaa
open Go.ChangeShapes Go.WideShapes Go.ChangeAt Go.RowKit
open FM
/-- The box of a policy. -/
def Bx (w : World) (g : Nat) (f : Int) (c : Nat) (m : Int) : Prop := w.cell? ⟨g, 0, none⟩ = some (.int .i64 f) ∧ w.cell? ⟨g, 1, none⟩ = some (.int .u64 (c : Int)) ∧ w.cell? ⟨g, 2, none⟩ = some (.int .i64 m)
theorem ce_beq (b : Bool) : (ce b == ce b) = true := by simp
set_option maxHeartbeats 2000000 in
theorem delays_walk (f : Int) (c : Nat) (m a : Int) (hc : c < 18446744073709551616) (w : World) :
    Calls Try.prog 3 #[.agg #[.int .i64 f, .int .u64 (c : Int), .int .i64 m], .int .i64 a] w fun e w' => e = .returned (.bool true) ∧ Below w.heap.size w w' := by
  have HC : Hid (c < 18446744073709551616) := hc
  clear hc
  have C1 : Hid (∀ W, _) := fun W => check_calls f c m HC.out W
  have C2 : Hid (∀ W, _) := fun W => refCheck_calls f c m W
  have C3 : Hid (∀ W, _) := fun W => delay_calls f c m a HC.out W
  have C4 : Hid (∀ W, _) := fun W => refDelay_calls f c m a W
  generalize ce (may f c m) = E at C1 C2
  generalize dlA f c m a = D at C3 C4
  go_enter Try.func3, Try.ntmps3
  go_wp2_with fail
  obtain ⟨k0, k1, k2⟩ := box3 w (.int .i64 f) (.int .u64 (c : Int)) (.int .i64 m) 24
  have B0 : Hid (Below w.heap.size w (w.alloc (.cells #[.int .i64 f, .int .u64 (c : Int), .int .i64 m] 24))) := bel1 _ _
  generalize w.alloc (.cells #[.int .i64 f, .int .u64 (c : Int), .int .i64 m] 24) = w0 at *
  go_region_held3 (fun w' => w'.cell? ⟨w.heap.size, 0, none⟩ = some (.int .i64 f) ∧ w'.cell? ⟨w.heap.size, 1, none⟩ = some (.int .u64 (c : Int)) ∧ w'.cell? ⟨w.heap.size, 2, none⟩ = some (.int .i64 m)) (go_keep) (first
    | (go_at_call 7; refine (C1.out _).mono ?_; rintro e w1 ⟨rfl, hb1⟩; have B1 : Hid (Below w.heap.size w w1) := (by first | exact bel2 B0.out hb1 | exact bel2 B0.out.drew hb1); obtain ⟨y0, y1, y2⟩ := cells3 hb1 ⟨by assumption, by assumption, by assumption⟩; clear hb1)
    | (go_at_call 8; refine (C2.out _).mono ?_; rintro e w2 ⟨rfl, hb1⟩; have B2 : Hid (Below w.heap.size w w2) := (by first | exact bel2 B1.out hb1 | exact bel2 B1.out.drew hb1); obtain ⟨z0, z1, z2⟩ := cells3 hb1 ⟨by assumption, by assumption, by assumption⟩; clear hb1)
    | (go_at_call 9; refine (C3.out _).mono ?_; rintro e w3 ⟨rfl, hb1⟩; have B3 : Hid (Below w.heap.size w w3) := (by first | exact bel2 B2.out hb1 | exact bel2 B2.out.drew hb1); obtain ⟨u0, u1, u2⟩ := cells3 hb1 ⟨by assumption, by assumption, by assumption⟩; clear hb1)
    | (go_at_call 10; refine (C4.out _).mono ?_; rintro e w4 ⟨rfl, hb1⟩; have B4 : Hid (Below w.heap.size w w4) := (by first | exact bel2 B3.out hb1 | exact bel2 B3.out.drew hb1); obtain ⟨v0, v1, v2⟩ := cells3 hb1 ⟨by assumption, by assumption, by assumption⟩; clear hb1)
    | (go_at_call 11; refine (awake_calls _).mono ?_; rintro e w5 ⟨rfl, hb1⟩; have B5 : Hid (Below w.heap.size w w5) := (by first | exact bel2 B4.out hb1 | exact bel2 B4.out.drew hb1); obtain ⟨t0, t1, t2⟩ := cells3 hb1 ⟨by assumption, by assumption, by assumption⟩; clear hb1))
  go_wp2_with fail
  go_ret
  exact ⟨rfl, B5.out⟩
end Go.Proofs.Ytlpfdilnoglgcaa
