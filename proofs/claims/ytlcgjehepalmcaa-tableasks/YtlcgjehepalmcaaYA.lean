/- The contract of the reference's shape: where its first test says no. -/
import Derived.Test.YtlcgjehepalmcaaVK
import Derived.Test.YtlcgjehepalmcaaVB
import Derived.Deep.DeepCutAuto
namespace Go.Proofs.Ytlcgjehepalmcaa
open Go.ChangeShapes Go.WideShapes Go.ChangeAt Go.RowKit Go.BigFrame
def Pre1 (k x : Int) (b : Nat) (s : ByteArray) (n : Nat) : Prop := 0 ≤ k ∧ k ≤ 4 ∧ (k = 1 ∨ x = 0) ∧ (k = 2 ∨ b = 0) ∧ (k = 3 ∨ s.toList = []) ∧ (k = 4 ∨ n = 0)
theorem no_n {k : Int} {N : Nat} (h : (0 ≤ k ∧ k ≤ 4) ∧ ((k != 4) = false ∨ ¬ 0 < N)) (h4 : ¬ k = 4) : N = 0 := by
  rcases h.2 with h | h
  · exact absurd (by simpa using h) h4
  · omega
set_option maxHeartbeats 2000000 in
set_option maxRecDepth 100000 in
theorem shape_no1 (k x : Int) (b : Nat) (s : ByteArray) (a : Option Addr) (N c : Nat) (d : Int) (w : World) (p : Prop) (hp : ¬ p) (h : ¬ Pre1 k x b s N) :
    Calls Try.prog 63 #[.agg #[.int .i64 k, .int .i64 x, .int .u64 (b : Int), .string s, .slice a N c], .int .i64 d] w (FP p w) := by
  have HP : Hid (¬ p) := hp
  have HQ : Hid (¬ Pre1 k x b s N) := h
  clear hp h
  go_enter Try.func63, Try.ntmps63
  go_wp2_with fail
  all_goals first
    | (go_ret; exact FP.no HP.out (bel1 _ _))
    | (refine absurd ⟨by assumption, by assumption, by first | exact .inl (by assumption) | exact .inr (by assumption), by first | exact .inl (by assumption) | exact .inr (by assumption), by first | exact .inl (by assumption) | exact .inr (by assumption), by first | exact .inl (by assumption) | exact .inr (by omega) | exact .inr (no_n (by assumption) (by assumption))⟩ HQ.out)
end Go.Proofs.Ytlcgjehepalmcaa
