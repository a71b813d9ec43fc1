/- Num, Int, Bits, Flag, Text; bytes.Equal -/
import Derived.Test.YtacmlholbnddpaaPW
import Derived.Laws.IdiomStrings
import Derived.Laws.BitsAllLaws
import Derived.Shelf.Bytes.SlEqualAll
namespace Go.Proofs.Ytacmlholbnddpaa
open Go.ChangeShapes Go.WideShapes Go.ChangeAt Go.RowKit
theorem enc_length (n : Nat) (h : n < 9223372036854775808) : (enc n).length ≤ 9 := by
  unfold enc
  split
  · simp
  · rename_i h0
    have := (nb_bounds n (by omega) h).2
    simp [be_length]; omega
theorem number_calls (n : Int) (hn : n < 9223372036854775808) (w : World) : Calls Try.prog 44 #[.int .i64 n] w (NB w (enc n.toNat)) := by
  by_cases h : n < 240
  · exact number_small n w h
  · obtain ⟨m, rfl⟩ := Int.eq_ofNat_of_zero_le (show 0 ≤ n by omega)
    exact number_big m w (by omega) (by omega)
theorem num_calls (v : Value) (l : List UInt8) (n : Int) (hn : n < 9223372036854775808) (w : World) (hv : Lib.HoldsBytes w v l) (hl : l.length ≤ 140737488355328) :
    Calls Try.prog 26 #[v, .int .i64 n] w (NB w (l ++ enc n.toNat)) := by
  have HV : Hid (Lib.HoldsBytes w v l) := hv
  have HN : Hid (n < 9223372036854775808) := hn
  obtain ⟨L, hL⟩ : ∃ L, L = l ++ enc n.toNat := ⟨_, rfl⟩
  have HL : Hid (L = l ++ enc n.toNat) := hL
  rw [← hL]
  have he := enc_length n.toNat (by omega)
  have HT : Hid (l.length + (enc n.toNat).length ≤ 281474976710656) := by show l.length + (enc n.toNat).length ≤ 281474976710656; omega
  obtain ⟨p, cap, rfl, h1, h2⟩ := hv
  clear hn hL he hl h1 h2
  go_enter Try.func26, Try.ntmps26
  go_wp2_with fail
  refine (number_calls _ HN.out _).mono ?_
  intro e w1 hN
  obtain ⟨g, g1, rfl, g3, g4⟩ := hN
  have G1 : Hid (w.heap.size ≤ g) := g1
  have G3 : Hid (Lib.HoldsBytes w1 (.slice (some ⟨g, 0, none⟩) (enc n.toNat).length (enc n.toNat).length) (enc n.toNat)) := g3
  have G4 : Hid (Below w.heap.size w w1) := g4
  clear g1 g3 g4
  go_wp2_with fail
  refine (join_two _ _ rfl _ _ _ _ (holds_below HV.out G4.out) G3.out HT.out).mono ?_
  intro e w2 hN
  rw [← HL.out] at hN
  obtain ⟨g', k1, rfl, k3, k4⟩ := nb_step G4.out hN
  go_wp2
  go_ret
  exact ⟨g', k1, rfl, k3, k4⟩
theorem bits_calls (v : Value) (l : List UInt8) (x : Nat) (w : World) (hv : Lib.HoldsBytes w v l) (hl : l.length ≤ 140737488355328) :
    Calls Try.prog 47 #[v, .int .u64 (x : Int)] w (NB w (l ++ be x 8)) := by
  have HV : Hid (Lib.HoldsBytes w v l) := hv
  obtain ⟨L, hL⟩ : ∃ L, L = l ++ be x 8 := ⟨_, rfl⟩
  have HL : Hid (L = l ++ be x 8) := hL
  rw [← hL]
  have HT : Hid (l.length + (be x 8).length ≤ 281474976710656) := by show l.length + (be x 8).length ≤ 281474976710656; rw [be_length]; omega
  have P1 : Hid (Lib.HoldsBytes (w.alloc (.cells (bval (be x 8)).toArray 5)) (.slice (some ⟨w.heap.size, 0, none⟩) 8 8) (be x 8)) := by
    have := holds_bval w (be x 8)
    rw [be_length] at this
    exact this
  obtain ⟨p, cap, rfl, h1, h2⟩ := hv
  clear hL hl h1 h2
  go_enter Try.func47, Try.ntmps47
  go_wp2_with fail
  refine (highFirst_calls x 8 (by omega) _).mono ?_
  rintro e w1 ⟨rfl, rfl⟩
  go_wp2_with fail
  refine (join_two _ _ (by simp) _ _ _ _ (holds_below HV.out (below_alloc w _)) P1.out HT.out).mono ?_
  intro e w2 hN
  rw [← HL.out] at hN
  obtain ⟨g', k1, rfl, k3, k4⟩ := nb_step (below_alloc w _) hN
  go_wp2
  go_ret
  exact ⟨g', k1, rfl, k3, k4⟩
/-- The bits of a whole number with its highest bit turned. -/
def tn (n : Int) : Nat := (n + 9223372036854775808).toNat
theorem xor_low (a : Nat) (h : a < 2 ^ 63) : a ^^^ 2 ^ 63 = 2 ^ 63 + a := by
  apply Nat.eq_of_testBit_eq
  intro i
  rw [Nat.testBit_xor, Nat.testBit_two_pow]
  by_cases h1 : i = 63
  · subst h1
    rw [Nat.testBit_two_pow_add_eq]
    simp
  · by_cases h2 : i < 63
    · rw [Nat.testBit_two_pow_add_gt h2]
      have : ¬ 63 = i := by omega
      simp [this]
    · have p : 2 ^ 64 ≤ 2 ^ i := Nat.pow_le_pow_right (by decide) (by omega)
      rw [Nat.testBit_lt_two_pow (by omega), Nat.testBit_lt_two_pow (by omega)]
      have : ¬ 63 = i := by omega
      simp [this]
theorem xor_high (a : Nat) (h : a < 2 ^ 63) : (2 ^ 63 + a) ^^^ 2 ^ 63 = a := by
  rw [← xor_low a h, Nat.xor_assoc, Nat.xor_self, Nat.xor_zero]
theorem turn_top (n : Int) (h : (Lit.int .i64 n).wf = true) : bits BinOp.xor IntKind.u64 (IntKind.u64.wrap n) 9223372036854775808 = (tn n : Nat) := by
  simp only [Lit.wf, IntKind.min, IntKind.max, IntKind.signed, IntKind.bits, Bool.and_eq_true, decide_eq_true_eq, if_true] at h
  rw [IntKind.wrap_u64, u64_xor _ _ (by omega) (by omega) (by omega) (by omega)]
  unfold tn
  have e : (9223372036854775808 : Int).toNat = 2 ^ 63 := by decide +kernel
  rw [e]
  by_cases h0 : 0 ≤ n
  · have e1 : (n % 18446744073709551616).toNat = n.toNat := by omega
    rw [e1, xor_low _ (by omega)]
    omega
  · have e1 : (n % 18446744073709551616).toNat = 2 ^ 63 + (n + 9223372036854775808).toNat := by omega
    rw [e1, xor_high _ (by omega)]
theorem int_calls (v : Value) (l : List UInt8) (n : Int) (hn : (Lit.int .i64 n).wf = true) (w : World) (hv : Lib.HoldsBytes w v l) (hl : l.length ≤ 140737488355328) :
    Calls Try.prog 59 #[v, .int .i64 n] w (NB w (l ++ be (tn n) 8)) := by
  have HV : Hid (Lib.HoldsBytes w v l) := hv
  obtain ⟨L, hL⟩ : ∃ L, L = l ++ be (tn n) 8 := ⟨_, rfl⟩
  have HL : Hid (L = l ++ be (tn n) 8) := hL
  rw [← hL]
  have HT : Hid (l.length + (be (tn n) 8).length ≤ 281474976710656) := by show l.length + (be (tn n) 8).length ≤ 281474976710656; rw [be_length]; omega
  have P1 : Hid (Lib.HoldsBytes (w.alloc (.cells (bval (be (tn n) 8)).toArray 5)) (.slice (some ⟨w.heap.size, 0, none⟩) 8 8) (be (tn n) 8)) := by
    have := holds_bval w (be (tn n) 8)
    rw [be_length] at this
    exact this
  obtain ⟨p, cap, rfl, h1, h2⟩ := hv
  clear hL hl h1 h2
  have ht := turn_top n hn
  clear hn
  go_enter Try.func59, Try.ntmps59
  go_wp2_with fail
  refine (highFirst_calls (tn n) 8 (by omega) _).mono ?_
  rintro e w1 ⟨rfl, rfl⟩
  go_wp2_with fail
  refine (join_two _ _ (by simp) _ _ _ _ (holds_below HV.out (below_alloc w _)) P1.out HT.out).mono ?_
  intro e w2 hN
  rw [← HL.out] at hN
  obtain ⟨g', k1, rfl, k3, k4⟩ := nb_step (below_alloc w _) hN
  go_wp2
  go_ret
  exact ⟨g', k1, rfl, k3, k4⟩
/-- A flag's byte. -/
def fb (y : Bool) : UInt8 := if y then 1 else 0
end Go.Proofs.Ytacmlholbnddpaa
namespace Go.Proofs.Ytacmlholbnddpaa
open Go.ChangeShapes Go.WideShapes Go.ChangeAt Go.RowKit
theorem parts_three (w : World) (v0 v1 v2 : Value) (l0 l1 l2 : List UInt8) (h0 : Lib.HoldsBytes w v0 l0) (h1 : Lib.HoldsBytes w v1 l1) (h2 : Lib.HoldsBytes w v2 l2) :
    Lib.PartsAt (w.alloc (.cells #[v0, v1, v2] 44)) ⟨w.heap.size, 0, none⟩ [v0, v1, v2] [l0, l1, l2] := by
  refine ⟨rfl, ?_, ?_⟩
  · intro i v hv
    rw [add_plain, Nat.zero_add]
    match i, hv with
    | 0, hv => simp at hv; subst hv; simp
    | 1, hv => simp at hv; subst hv; simp
    | 2, hv => simp at hv; subst hv; simp
    | i + 3, hv => simp at hv
  · intro i v l hv hl
    match i, hv, hl with
    | 0, hv, hl => simp at hv hl; subst hv hl; exact holds_below h0 (below_alloc w _)
    | 1, hv, hl => simp at hv hl; subst hv hl; exact holds_below h1 (below_alloc w _)
    | 2, hv, hl => simp at hv hl; subst hv hl; exact holds_below h2 (below_alloc w _)
    | i + 3, hv, hl => simp at hv
theorem join_three (w : World) (g : Nat) (hg : w.heap.size = g) (v0 v1 v2 : Value) (l0 l1 l2 : List UInt8) (h0 : Lib.HoldsBytes w v0 l0) (h1 : Lib.HoldsBytes w v1 l1) (h2 : Lib.HoldsBytes w v2 l2) (hlen : l0.length + l1.length + l2.length ≤ 281474976710656) :
    Calls Try.prog 39 #[.slice (some ⟨g, 0, none⟩) 3 3] (w.alloc (.cells #[v0, v1, v2] 44)) (NB w (l0 ++ l1 ++ l2)) := by
  subst hg
  refine (join_calls w.heap.size 0 3 3 [v0, v1, v2] [l0, l1, l2] _ rfl (parts_three w v0 v1 v2 l0 l1 l2 h0 h1 h2) (by omega) _ rfl (by simp [Lib.lens]; omega)).mono ?_
  rintro e w' ⟨rfl, hb⟩
  refine nb_step (w0 := w.alloc (.cells #[v0, v1, v2] 44)) (below_alloc w _) ?_
  have e1 : [l0, l1, l2].flatten = l0 ++ l1 ++ l2 := by simp
  rw [e1] at hb
  exact nb_buf (by simp [Lib.lens]) hb
theorem parts_one (w : World) (v0 : Value) (l0 : List UInt8) (h0 : Lib.HoldsBytes w v0 l0) :
    Lib.PartsAt (w.alloc (.cells #[v0] 44)) ⟨w.heap.size, 0, none⟩ [v0] [l0] := by
  refine ⟨rfl, ?_, ?_⟩
  · intro i v hv
    rw [add_plain, Nat.zero_add]
    match i, hv with
    | 0, hv => simp at hv; subst hv; simp
    | i + 1, hv => simp at hv
  · intro i v l hv hl
    match i, hv, hl with
    | 0, hv, hl => simp at hv hl; subst hv hl; exact holds_below h0 (below_alloc w _)
    | i + 1, hv, hl => simp at hv
theorem join_one (w : World) (g : Nat) (hg : w.heap.size = g) (v0 : Value) (l0 : List UInt8) (h0 : Lib.HoldsBytes w v0 l0) (hlen : l0.length ≤ 281474976710656) :
    Calls Try.prog 39 #[.slice (some ⟨g, 0, none⟩) 1 1] (w.alloc (.cells #[v0] 44)) (NB w l0) := by
  subst hg
  refine (join_calls w.heap.size 0 1 1 [v0] [l0] _ rfl (parts_one w v0 l0 h0) (by omega) _ rfl (by simp [Lib.lens]; omega)).mono ?_
  rintro e w' ⟨rfl, hb⟩
  refine nb_step (w0 := w.alloc (.cells #[v0] 44)) (below_alloc w _) ?_
  have e1 : [l0].flatten = l0 := by simp
  rw [e1] at hb
  exact nb_buf (by simp [Lib.lens]) hb
theorem str_len (s : ByteArray) : s.data.toList.length = s.size := Array.length_toList
theorem conv_bytes (s : ByteArray) (w : World) : ∃ cap w', (convert 9 44 (.string s)).run Try.prog w = .ok (.slice (some ⟨w.heap.size, 0, none⟩) s.size cap) w' ∧
    Lib.HoldsBytes w' (.slice (some ⟨w.heap.size, 0, none⟩) s.size cap) s.data.toList ∧ Below w.heap.size w w' := by
  refine ⟨_, _, run_bytes_of_string (P := Try.prog) w 9 44 5 s Try.underlying9 Try.underlying44 Try.underlying5, ?_, ?_⟩
  · refine ⟨some ⟨w.heap.size, 0, none⟩, _, by rw [str_len], (fun h => by cases h), ?_⟩
    intro a ha i x hx
    cases ha
    rw [add_plain, Nat.zero_add]
    have := World.cell?_alloc_mark w.drew (bytesRow s (grownCap w s.size 0 5)) 5 ((bytesRow s (grownCap w s.size 0 5)).size, (bytesRow s (grownCap w s.size 0 5)).size + 1) i
    rw [show w.drew.heap.size = w.heap.size from rfl] at this
    rw [this]
    have hi : i < s.data.size := by
      have := (List.getElem?_eq_some_iff.1 hx).1
      simpa using this
    unfold bytesRow
    rw [Array.getElem?_append_left (by simpa using hi)]
    simp at hx
    simp [hx]
  · exact ((Below.refl _ w).drew).alloc (Nat.le_refl _) _
theorem text_calls (v : Value) (l : List UInt8) (s : ByteArray) (w : World) (hv : Lib.HoldsBytes w v l) (hs : s.size ≤ 140737488351232) (ht : l.length + s.size + 9 ≤ 281474976710656) :
    Calls Try.prog 27 #[v, .string s] w (NB w (l ++ enc s.size ++ s.data.toList)) := by
  have HV : Hid (Lib.HoldsBytes w v l) := hv
  obtain ⟨L, hL⟩ : ∃ L, L = l ++ enc s.size ++ s.data.toList := ⟨_, rfl⟩
  have HL : Hid (L = l ++ enc s.size ++ s.data.toList) := hL
  rw [← hL]
  have he := enc_length s.size (by omega)
  have HT : Hid (l.length + (enc s.size).length + s.data.toList.length ≤ 281474976710656) := by
    show l.length + (enc s.size).length + s.data.toList.length ≤ 281474976710656
    have := str_len s
    omega
  have HN : Hid ((s.size : Int) < 9223372036854775808) := by show (s.size : Int) < 9223372036854775808; omega
  have NC := number_calls (s.size : Int) HN.out w
  rw [Int.toNat_natCast] at NC
  have HC : Hid (Calls Try.prog 44 #[.int .i64 (s.size : Int)] w (NB w (enc s.size))) := NC
  obtain ⟨p, cap, rfl, h1, h2⟩ := hv
  clear hL h1 h2 he ht hs NC
  go_enter Try.func27, Try.ntmps27
  go_wp2_with fail
  refine HC.out.mono ?_
  intro e w1 hN
  obtain ⟨g, g1, rfl, g3, g4⟩ := hN
  have G1 : Hid (w.heap.size ≤ g) := g1
  have G3 : Hid (Lib.HoldsBytes w1 (.slice (some ⟨g, 0, none⟩) (enc s.size).length (enc s.size).length) (enc s.size)) := g3
  have G4 : Hid (Below w.heap.size w w1) := g4
  clear g1 g3 g4
  obtain ⟨c2, w2, hcv, q1, q2⟩ := conv_bytes s w1
  have Q1 : Hid (Lib.HoldsBytes w2 (.slice (some ⟨w1.heap.size, 0, none⟩) s.size c2) s.data.toList) := q1
  have Q2 : Hid (Below w1.heap.size w1 w2) := q2
  clear q1 q2
  go_wp2_with fail
  have B2 : Below w.heap.size w w2 := G4.out.trans (Q2.out.mono G4.out.size)
  refine (join_three _ _ rfl _ _ _ _ _ _ (holds_below HV.out B2) (holds_below G3.out Q2.out) Q1.out HT.out).mono ?_
  intro e w3 hN
  rw [← HL.out] at hN
  obtain ⟨g', k1, rfl, k3, k4⟩ := nb_step B2 hN
  go_wp2
  go_ret
  exact ⟨g', k1, rfl, k3, k4⟩
end Go.Proofs.Ytacmlholbnddpaa
namespace Go.Proofs.Ytacmlholbnddpaa
open Go.ChangeShapes Go.WideShapes Go.ChangeAt Go.RowKit
theorem conv_string (w : World) (p : Option Addr) (c : Nat) (l : List UInt8) (h : Lib.HoldsBytes w (.slice p l.length c) l) : (convert 44 9 (.slice p l.length c)).run Try.prog w = .ok (.string (strOfNums (Lib.numsL l))) w := by
  obtain ⟨p', c', e, h1, h2⟩ := h
  cases e
  have hb : Lib.BytesIn w p l.length (Lib.numsL l) := by
    cases p with
    | none =>
      have : l = [] := h1 rfl
      subst this
      exact Lib.BytesIn.nil w none _
    | some a =>
      refine Lib.BytesIn.of_cells (fun i hi => ?_)
      have := h2 a rfl i l[i] (List.getElem?_eq_getElem hi)
      rw [this]
      simp [Lib.numsL, List.getD, List.getElem?_eq_getElem hi]
  exact hb.convert (P := Try.prog) (Lib.numsL_length l) c 44 5 9 Try.underlying44 Try.underlying5 Try.underlying9
theorem holds_nil (w : World) : Lib.HoldsBytes w (.slice none 0 0) [] := ⟨none, 0, rfl, fun _ => rfl, fun a ha => by cases ha⟩
end Go.Proofs.Ytacmlholbnddpaa
