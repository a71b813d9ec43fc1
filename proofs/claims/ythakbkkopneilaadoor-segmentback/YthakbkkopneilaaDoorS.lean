/- The contracts of Head, the program's and the reference's. -/
import Derived.Test.YthakbkkopneilaaDoorR
namespace Go.Proofs.YthakbkkopneilaaDoor
open Go.ChangeShapes Go.WideShapes Go.ChangeAt Go.RowKit
theorem Hb.shape {w : World} {v : Value} {l : List UInt8} (h : Hb w v l) : ∃ a n c, v = .slice a n c := by obtain ⟨a, c, h, _⟩ := h; exact ⟨_, _, _, h⟩
theorem Own.lower {B B' : Nat} {w : World} {v : Value} {l : List UInt8} (h : Own B w v l) (hB : B' ≤ B) : Own B' w v l := h.other (fun _ _ => rfl) hB
set_option maxHeartbeats 400000 in
theorem head_calls (n f : Int) (hn : n < 9223372036854775808) (hf : f < 9223372036854775808) (w : World) (ht : Tb w) : Calls Tryd.prog 8 #[.int .i64 n, .int .i64 f] w (NB w (headL n f)) := by
  have HT : Hid (Tb w) := ht
  have HN : Hid (n < 9223372036854775808 ∧ f < 9223372036854775808) := ⟨hn, hf⟩
  clear ht hn hf
  go_enter Tryd.func8, Tryd.ntmps8
  go_wp2_with fail
  refine (PK.num_calls (.slice none 0 0) [] n HN.out.1 w (holds_nil w) (by simp)).mono ?_
  intro e w1 h1
  rw [List.nil_append] at h1
  obtain ⟨v1, rfl, hv1, hb1⟩ := pk_hb h1
  have V1 : Hid (Hb w1 v1 (PK.enc n.toNat)) := hv1
  have B1 : Hid (Below w.heap.size w w1) := hb1
  obtain ⟨a1, n1, c1, rfl⟩ := hv1.shape
  clear hv1
  clear h1 hb1
  go_wp2_with fail
  refine (PK.num_calls _ (PK.enc n.toNat) f HN.out.2 w1 V1.out.holds (by have := PK.enc_length n.toNat (by have := HN.out.1; omega); omega)).mono ?_
  intro e w2 h2
  obtain ⟨v2, rfl, hv2, hb2⟩ := pk_hb h2
  have B2 : Hid (Below w.heap.size w w2) := B1.out.trans (hb2.mono B1.out.size)
  have hlen := headP_length n f HN.out.1 HN.out.2
  have C : Hid (Calls Tryd.prog 26 #[.int .i64 1, v2] w2 (NB w2 (headL n f))) := by
    have := seal_calls 1 v2 (headP n f) w2 hv2 (HT.out.below B2.out) (by omega)
    rwa [kb1] at this
  obtain ⟨a2, n2, c2, rfl⟩ := hv2.shape
  clear hv2
  clear h2 hb2 hlen
  go_wp2_with fail
  refine C.out.mono ?_
  rintro e w3 ⟨u, rfl, ho, hb⟩
  have O : Hid (Own w.heap.size w3 u (headL n f)) := by show Own _ _ _ _; exact Own.lower ho B2.out.size
  have B : Hid (Below w.heap.size w w3) := B2.out.trans (hb.mono B2.out.size)
  clear ho hb
  go_wp2_with fail
  go_ret
  exact ⟨_, rfl, O.out, B.out⟩
set_option maxHeartbeats 400000 in
theorem rhead_calls (n f : Int) (hn : n < 9223372036854775808) (hf : f < 9223372036854775808) (w : World) : Calls Tryd.prog 9 #[.int .i64 n, .int .i64 f] w (NB w (headL n f)) := by
  have HN : Hid (n < 9223372036854775808 ∧ f < 9223372036854775808) := ⟨hn, hf⟩
  clear hn hf
  go_enter Tryd.func9, Tryd.ntmps9
  go_wp2_with fail
  refine (refNum_any (.slice none 0 0) [] n HN.out.1 w (holds_nil w) (by simp)).mono ?_
  intro e w1 h1
  rw [List.nil_append] at h1
  obtain ⟨v1, rfl, hv1, hb1⟩ := rb_hb h1
  have V1 : Hid (Hb w1 v1 (PK.enc n.toNat)) := hv1
  have B1 : Hid (Below w.heap.size w w1) := hb1
  obtain ⟨a1, n1, c1, rfl⟩ := hv1.shape
  clear hv1
  clear h1 hb1
  go_wp2_with fail
  refine (refNum_any _ (PK.enc n.toNat) f HN.out.2 w1 V1.out.holds (by have := PK.enc_length n.toNat (by have := HN.out.1; omega); omega)).mono ?_
  intro e w2 h2
  obtain ⟨v2, rfl, hv2, hb2⟩ := rb_hb h2
  have B2 : Hid (Below w.heap.size w w2) := B1.out.trans (hb2.mono B1.out.size)
  have hlen := headP_length n f HN.out.1 HN.out.2
  have C : Hid (Calls Tryd.prog 28 #[.int .i64 1, v2] w2 (NB w2 (headL n f))) := by
    have := rseal_calls 1 v2 (headP n f) w2 hv2 (by omega)
    rwa [kb1] at this
  obtain ⟨a2, n2, c2, rfl⟩ := hv2.shape
  clear hv2
  clear h2 hb2 hlen
  go_wp2_with fail
  refine C.out.mono ?_
  rintro e w3 ⟨u, rfl, ho, hb⟩
  have O : Hid (Own w.heap.size w3 u (headL n f)) := by show Own _ _ _ _; exact Own.lower ho B2.out.size
  have B : Hid (Below w.heap.size w w3) := B2.out.trans (hb.mono B2.out.size)
  clear ho hb
  go_wp2_with fail
  go_ret
  exact ⟨_, rfl, O.out, B.out⟩
end Go.Proofs.YthakbkkopneilaaDoor
