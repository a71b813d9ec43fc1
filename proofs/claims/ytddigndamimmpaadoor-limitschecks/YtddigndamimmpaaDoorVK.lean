/- The contract of Check: OK of a value that may be, else ErrArg. -/
import Derived.Test.YtddigndamimmpaaDoorVI
namespace Go.Proofs.YtddigndamimmpaaDoor
open Go.ChangeShapes Go.WideShapes Go.ChangeAt Go.RowKit
/-- A value may be. -/
def May (n : Nat) (t : Tv) : Prop := ShapeT n 4 t ∧ (bytesT n t).length ≤ 1000
set_option maxHeartbeats 2000000 in
theorem check_calls (n : Nat) (v : Value) (t : Tv) (w : World) (h : Is w n v t) :
    Calls Tryd.prog 16 #[v] w fun e w' => (∃ r : Int, e = .returned (.int .i64 r) ∧ (May n t → r = 0) ∧ (¬ May n t → r = 1)) ∧ Below w.heap.size w w' := by
  have CW := fun W (hB : Below w.heap.size w W) => write_calls n v t w W 4 [] (.slice none 0 0) h hB (World.ownsRow_nil _ _ _ _) (by omega) (by simp)
  obtain ⟨k', x', b', s', a', m', c', rfl⟩ : ∃ k x b s a m c, v = .agg #[.int .i64 k, .int .i64 x, .int .u64 b, .string s, .slice a m c] := by
    cases n with
    | zero => exact h.elim
    | succ n => obtain ⟨k, x, b, s, l⟩ := t; obtain ⟨a, c, rfl, _⟩ := h; exact ⟨_, _, _, _, _, _, _, rfl⟩
  simp only [List.nil_append] at CW
  clear h
  go_enter Tryd.func16, Tryd.ntmps16
  go_wp2_with fail
  refine Calls.mono (CW _ (bel1 _ _)) ?_
  rintro e w1 ⟨o1, r1, rfl, hr1, _, _, hb1⟩
  have HB1 : Hid (Below w.heap.size w w1) := hb1
  have HR1 : Hid (r1 = true ↔ May n t) := hr1
  clear hr1 hb1 CW
  cases r1 with
  | false =>
    go_wp2_with fail
    go_ret
    exact ⟨⟨1, rfl, (fun h => absurd (HR1.out.2 h) (by decide)), fun _ => rfl⟩, HB1.out⟩
  | true =>
    go_wp2_with fail
    go_ret
    exact ⟨⟨0, rfl, (fun _ => rfl), fun h => absurd (HR1.out.1 (by simp)) h⟩, HB1.out⟩
end Go.Proofs.YtddigndamimmpaaDoor
