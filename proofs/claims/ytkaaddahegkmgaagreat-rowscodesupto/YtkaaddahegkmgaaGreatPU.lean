/- The contract of pack's Text: how many bytes, and these. Condition: together at most 2^48 bytes. And join of one part. -/
import Derived.Test.YtkaaddahegkmgaaGreatPV
namespace Go.Proofs.YtkaaddahegkmgaaGreat
open Go.ChangeShapes Go.WideShapes Go.ChangeAt Go.RowKit
theorem parts_three (w : World) (v0 v1 v2 : Value) (l0 l1 l2 : List UInt8) (h0 : Lib.HoldsBytes w v0 l0) (h1 : Lib.HoldsBytes w v1 l1) (h2 : Lib.HoldsBytes w v2 l2) :
    Lib.PartsAt (w.alloc (.cells #[v0, v1, v2] 26)) ⟨w.heap.size, 0, none⟩ [v0, v1, v2] [l0, l1, l2] := by
  refine ⟨rfl, ?_, ?_⟩
  · intro i v hv
    rw [add_plain, Nat.zero_add]
    match i, hv with
    | 0, hv => simp at hv; subst hv; simp
    | 1, hv => simp at hv; subst hv; simp
    | 2, hv => simp at hv; subst hv; simp
    | i + 3, hv => simp at hv
  · intro i v l hv hl
    match i, hv, hl with
    | 0, hv, hl => simp at hv hl; subst hv hl; exact holds_below h0 (below_alloc w _)
    | 1, hv, hl => simp at hv hl; subst hv hl; exact holds_below h1 (below_alloc w _)
    | 2, hv, hl => simp at hv hl; subst hv hl; exact holds_below h2 (below_alloc w _)
    | i + 3, hv, hl => simp at hv
theorem join_three (w : World) (g : Nat) (hg : w.heap.size = g) (v0 v1 v2 : Value) (l0 l1 l2 : List UInt8) (h0 : Lib.HoldsBytes w v0 l0) (h1 : Lib.HoldsBytes w v1 l1) (h2 : Lib.HoldsBytes w v2 l2) (hlen : l0.length + l1.length + l2.length ≤ 281474976710656) :
    Calls Tryz.prog 39 #[.slice (some ⟨g, 0, none⟩) 3 3] (w.alloc (.cells #[v0, v1, v2] 26)) (NB w (l0 ++ l1 ++ l2)) := by
  subst hg
  refine (join_calls w.heap.size 0 3 3 [v0, v1, v2] [l0, l1, l2] _ rfl (parts_three w v0 v1 v2 l0 l1 l2 h0 h1 h2) (by omega) _ rfl (by simp [Lib.lens]; omega)).mono ?_
  rintro e w' ⟨rfl, hb⟩
  refine nb_step (w0 := w.alloc (.cells #[v0, v1, v2] 26)) (below_alloc w _) ?_
  have e1 : [l0, l1, l2].flatten = l0 ++ l1 ++ l2 := by simp
  rw [e1] at hb
  exact nb_buf (by simp [Lib.lens]) hb
theorem parts_one (w : World) (v0 : Value) (l0 : List UInt8) (h0 : Lib.HoldsBytes w v0 l0) :
    Lib.PartsAt (w.alloc (.cells #[v0] 26)) ⟨w.heap.size, 0, none⟩ [v0] [l0] := by
  refine ⟨rfl, ?_, ?_⟩
  · intro i v hv
    rw [add_plain, Nat.zero_add]
    match i, hv with
    | 0, hv => simp at hv; subst hv; simp
    | i + 1, hv => simp at hv
  · intro i v l hv hl
    match i, hv, hl with
    | 0, hv, hl => simp at hv hl; subst hv hl; exact holds_below h0 (below_alloc w _)
    | i + 1, hv, hl => simp at hv
theorem join_one (w : World) (g : Nat) (hg : w.heap.size = g) (v0 : Value) (l0 : List UInt8) (h0 : Lib.HoldsBytes w v0 l0) (hlen : l0.length ≤ 281474976710656) :
    Calls Tryz.prog 39 #[.slice (some ⟨g, 0, none⟩) 1 1] (w.alloc (.cells #[v0] 26)) (NB w l0) := by
  subst hg
  refine (join_calls w.heap.size 0 1 1 [v0] [l0] _ rfl (parts_one w v0 l0 h0) (by omega) _ rfl (by simp [Lib.lens]; omega)).mono ?_
  rintro e w' ⟨rfl, hb⟩
  refine nb_step (w0 := w.alloc (.cells #[v0] 26)) (below_alloc w _) ?_
  have e1 : [l0].flatten = l0 := by simp
  rw [e1] at hb
  exact nb_buf (by simp [Lib.lens]) hb
theorem str_len (s : ByteArray) : s.data.toList.length = s.size := Array.length_toList
theorem conv_bytes (s : ByteArray) (w : World) : ∃ cap w', (convert 9 26 (.string s)).run Tryz.prog w = .ok (.slice (some ⟨w.heap.size, 0, none⟩) s.size cap) w' ∧
    Lib.HoldsBytes w' (.slice (some ⟨w.heap.size, 0, none⟩) s.size cap) s.data.toList ∧ Below w.heap.size w w' := by
  refine ⟨_, _, run_bytes_of_string (P := Tryz.prog) w 9 26 5 s Tryz.underlying9 Tryz.underlying26 Tryz.underlying5, ?_, ?_⟩
  · refine ⟨some ⟨w.heap.size, 0, none⟩, _, by rw [str_len], (fun h => by cases h), ?_⟩
    intro a ha i x hx
    cases ha
    rw [add_plain, Nat.zero_add]
    have := World.cell?_alloc_mark w.drew (bytesRow s (grownCap w s.size 0 5)) 5 ((bytesRow s (grownCap w s.size 0 5)).size, (bytesRow s (grownCap w s.size 0 5)).size + 1) i
    rw [show w.drew.heap.size = w.heap.size from rfl] at this
    rw [this]
    have hi : i < s.data.size := by
      have := (List.getElem?_eq_some_iff.1 hx).1
      simpa using this
    unfold bytesRow
    rw [Array.getElem?_append_left (by simpa using hi)]
    simp at hx
    simp [hx]
  · exact ((Below.refl _ w).drew).alloc (Nat.le_refl _) _
theorem text_calls (v : Value) (l : List UInt8) (s : ByteArray) (w : World) (hv : Lib.HoldsBytes w v l) (hs : s.size ≤ 140737488351232) (ht : l.length + s.size + 9 ≤ 281474976710656) :
    Calls Tryz.prog 81 #[v, .string s] w (NB w (l ++ enc s.size ++ s.data.toList)) := by
  have HV : Hid (Lib.HoldsBytes w v l) := hv
  obtain ⟨L, hL⟩ : ∃ L, L = l ++ enc s.size ++ s.data.toList := ⟨_, rfl⟩
  have HL : Hid (L = l ++ enc s.size ++ s.data.toList) := hL
  rw [← hL]
  have he := enc_length s.size (by omega)
  have HT : Hid (l.length + (enc s.size).length + s.data.toList.length ≤ 281474976710656) := by
    show l.length + (enc s.size).length + s.data.toList.length ≤ 281474976710656
    have := str_len s
    omega
  have HN : Hid ((s.size : Int) < 9223372036854775808) := by show (s.size : Int) < 9223372036854775808; omega
  have NC := number_calls (s.size : Int) HN.out w
  rw [Int.toNat_natCast] at NC
  have HC : Hid (Calls Tryz.prog 80 #[.int .i64 (s.size : Int)] w (NB w (enc s.size))) := NC
  obtain ⟨p, cap, rfl, h1, h2⟩ := hv
  clear hL h1 h2 he ht hs NC
  go_enter Tryz.func81, Tryz.ntmps81
  go_wp2_with fail
  refine HC.out.mono ?_
  intro e w1 hN
  obtain ⟨g, g1, rfl, g3, g4⟩ := hN
  have G1 : Hid (w.heap.size ≤ g) := g1
  have G3 : Hid (Lib.HoldsBytes w1 (.slice (some ⟨g, 0, none⟩) (enc s.size).length (enc s.size).length) (enc s.size)) := g3
  have G4 : Hid (Below w.heap.size w w1) := g4
  clear g1 g3 g4
  obtain ⟨c2, w2, hcv, q1, q2⟩ := conv_bytes s w1
  have Q1 : Hid (Lib.HoldsBytes w2 (.slice (some ⟨w1.heap.size, 0, none⟩) s.size c2) s.data.toList) := q1
  have Q2 : Hid (Below w1.heap.size w1 w2) := q2
  clear q1 q2
  go_wp2_with fail
  have B2 : Below w.heap.size w w2 := G4.out.trans (Q2.out.mono G4.out.size)
  refine (join_three _ _ rfl _ _ _ _ _ _ (holds_below HV.out B2) (holds_below G3.out Q2.out) Q1.out HT.out).mono ?_
  intro e w3 hN
  rw [← HL.out] at hN
  obtain ⟨g', k1, rfl, k3, k4⟩ := nb_step B2 hN
  go_wp2
  go_ret
  exact ⟨g', k1, rfl, k3, k4⟩
end Go.Proofs.YtkaaddahegkmgaaGreat
