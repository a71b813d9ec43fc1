/- The contracts of pack's Num, Int, Bits, Flag, Text: what stands behind any bytes. Condition: these have at most 2^47 bytes. -/
import Derived.Test.YthakbkkopneilaaDoorQW
import Derived.Laws.IdiomStrings
import Derived.Laws.BitsAllLaws
namespace Go.Proofs.YthakbkkopneilaaDoor.PK
open Go.ChangeShapes Go.WideShapes Go.ChangeAt Go.RowKit
theorem enc_length (n : Nat) (h : n < 9223372036854775808) : (enc n).length ≤ 9 := by
  unfold enc
  split
  · simp
  · rename_i h0
    have := (nb_bounds n (by omega) h).2
    simp [be_length]; omega
theorem number_calls (n : Int) (hn : n < 9223372036854775808) (w : World) : Calls Tryd.prog 48 #[.int .i64 n] w (NB w (enc n.toNat)) := by
  by_cases h : n < 240
  · exact number_small n w h
  · obtain ⟨m, rfl⟩ := Int.eq_ofNat_of_zero_le (show 0 ≤ n by omega)
    exact number_big m w (by omega) (by omega)
theorem num_calls (v : Value) (l : List UInt8) (n : Int) (hn : n < 9223372036854775808) (w : World) (hv : Lib.HoldsBytes w v l) (hl : l.length ≤ 140737488355328) :
    Calls Tryd.prog 27 #[v, .int .i64 n] w (NB w (l ++ enc n.toNat)) := by
  have HV : Hid (Lib.HoldsBytes w v l) := hv
  have HN : Hid (n < 9223372036854775808) := hn
  obtain ⟨L, hL⟩ : ∃ L, L = l ++ enc n.toNat := ⟨_, rfl⟩
  have HL : Hid (L = l ++ enc n.toNat) := hL
  rw [← hL]
  have he := enc_length n.toNat (by omega)
  have HT : Hid (l.length + (enc n.toNat).length ≤ 281474976710656) := by show l.length + (enc n.toNat).length ≤ 281474976710656; omega
  obtain ⟨p, cap, rfl, h1, h2⟩ := hv
  clear hn hL he hl h1 h2
  go_enter Tryd.func27, Tryd.ntmps27
  go_wp2_with fail
  refine (number_calls _ HN.out _).mono ?_
  intro e w1 hN
  obtain ⟨g, g1, rfl, g3, g4⟩ := hN
  have G1 : Hid (w.heap.size ≤ g) := g1
  have G3 : Hid (Lib.HoldsBytes w1 (.slice (some ⟨g, 0, none⟩) (enc n.toNat).length (enc n.toNat).length) (enc n.toNat)) := g3
  have G4 : Hid (Below w.heap.size w w1) := g4
  clear g1 g3 g4
  go_wp2_with fail
  refine (join_two _ _ rfl _ _ _ _ (holds_below HV.out G4.out) G3.out HT.out).mono ?_
  intro e w2 hN
  rw [← HL.out] at hN
  obtain ⟨g', k1, rfl, k3, k4⟩ := nb_step G4.out hN
  go_wp2
  go_ret
  exact ⟨g', k1, rfl, k3, k4⟩
end Go.Proofs.YthakbkkopneilaaDoor.PK
