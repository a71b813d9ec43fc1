/- The contracts of pack's Num, Int, Bits, Flag, Text: what stands behind any bytes. Condition: these have at most 2^47 bytes. -/
import Derived.Test.YtkaaddahegkmgaaGreatPW
import Derived.Laws.IdiomStrings
import Derived.Laws.BitsAllLaws
namespace Go.Proofs.YtkaaddahegkmgaaGreat
open Go.ChangeShapes Go.WideShapes Go.ChangeAt Go.RowKit
theorem enc_length (n : Nat) (h : n < 9223372036854775808) : (enc n).length ≤ 9 := by
  unfold enc
  split
  · simp
  · rename_i h0
    have := (nb_bounds n (by omega) h).2
    simp [be_length]; omega
theorem number_calls (n : Int) (hn : n < 9223372036854775808) (w : World) : Calls Tryz.prog 80 #[.int .i64 n] w (NB w (enc n.toNat)) := by
  by_cases h : n < 240
  · exact number_small n w h
  · obtain ⟨m, rfl⟩ := Int.eq_ofNat_of_zero_le (show 0 ≤ n by omega)
    exact number_big m w (by omega) (by omega)
theorem num_calls (v : Value) (l : List UInt8) (n : Int) (hn : n < 9223372036854775808) (w : World) (hv : Lib.HoldsBytes w v l) (hl : l.length ≤ 140737488355328) :
    Calls Tryz.prog 57 #[v, .int .i64 n] w (NB w (l ++ enc n.toNat)) := by
  have HV : Hid (Lib.HoldsBytes w v l) := hv
  have HN : Hid (n < 9223372036854775808) := hn
  obtain ⟨L, hL⟩ : ∃ L, L = l ++ enc n.toNat := ⟨_, rfl⟩
  have HL : Hid (L = l ++ enc n.toNat) := hL
  rw [← hL]
  have he := enc_length n.toNat (by omega)
  have HT : Hid (l.length + (enc n.toNat).length ≤ 281474976710656) := by show l.length + (enc n.toNat).length ≤ 281474976710656; omega
  obtain ⟨p, cap, rfl, h1, h2⟩ := hv
  clear hn hL he hl h1 h2
  go_enter Tryz.func57, Tryz.ntmps57
  go_wp2_with fail
  refine (number_calls _ HN.out _).mono ?_
  intro e w1 hN
  obtain ⟨g, g1, rfl, g3, g4⟩ := hN
  have G1 : Hid (w.heap.size ≤ g) := g1
  have G3 : Hid (Lib.HoldsBytes w1 (.slice (some ⟨g, 0, none⟩) (enc n.toNat).length (enc n.toNat).length) (enc n.toNat)) := g3
  have G4 : Hid (Below w.heap.size w w1) := g4
  clear g1 g3 g4
  go_wp2_with fail
  refine (join_two _ _ rfl _ _ _ _ (holds_below HV.out G4.out) G3.out HT.out).mono ?_
  intro e w2 hN
  rw [← HL.out] at hN
  obtain ⟨g', k1, rfl, k3, k4⟩ := nb_step G4.out hN
  go_wp2
  go_ret
  exact ⟨g', k1, rfl, k3, k4⟩
/-- The bits of a whole number with its highest bit turned. -/
def tn (n : Int) : Nat := (n + 9223372036854775808).toNat
theorem xor_low (a : Nat) (h : a < 2 ^ 63) : a ^^^ 2 ^ 63 = 2 ^ 63 + a := by
  apply Nat.eq_of_testBit_eq
  intro i
  rw [Nat.testBit_xor, Nat.testBit_two_pow]
  by_cases h1 : i = 63
  · subst h1
    rw [Nat.testBit_two_pow_add_eq]
    simp
  · by_cases h2 : i < 63
    · rw [Nat.testBit_two_pow_add_gt h2]
      have : ¬ 63 = i := by omega
      simp [this]
    · have p : 2 ^ 64 ≤ 2 ^ i := Nat.pow_le_pow_right (by decide) (by omega)
      rw [Nat.testBit_lt_two_pow (by omega), Nat.testBit_lt_two_pow (by omega)]
      have : ¬ 63 = i := by omega
      simp [this]
theorem xor_high (a : Nat) (h : a < 2 ^ 63) : (2 ^ 63 + a) ^^^ 2 ^ 63 = a := by
  rw [← xor_low a h, Nat.xor_assoc, Nat.xor_self, Nat.xor_zero]
theorem turn_top (n : Int) (h : (Lit.int .i64 n).wf = true) : bits BinOp.xor IntKind.u64 (IntKind.u64.wrap n) 9223372036854775808 = (tn n : Nat) := by
  simp only [Lit.wf, IntKind.min, IntKind.max, IntKind.signed, IntKind.bits, Bool.and_eq_true, decide_eq_true_eq, if_true] at h
  rw [IntKind.wrap_u64, u64_xor _ _ (by omega) (by omega) (by omega) (by omega)]
  unfold tn
  have e : (9223372036854775808 : Int).toNat = 2 ^ 63 := by decide +kernel
  rw [e]
  by_cases h0 : 0 ≤ n
  · have e1 : (n % 18446744073709551616).toNat = n.toNat := by omega
    rw [e1, xor_low _ (by omega)]
    omega
  · have e1 : (n % 18446744073709551616).toNat = 2 ^ 63 + (n + 9223372036854775808).toNat := by omega
    rw [e1, xor_high _ (by omega)]
/-- A flag's byte. -/
def fb (y : Bool) : UInt8 := if y then 1 else 0
end Go.Proofs.YtkaaddahegkmgaaGreat
