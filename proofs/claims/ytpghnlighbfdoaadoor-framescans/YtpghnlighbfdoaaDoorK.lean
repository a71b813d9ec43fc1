/- Next of a sealed frame, whatever stands behind it; the contract of awake. -/
import Derived.Test.YtpghnlighbfdoaaDoorJ
import Derived.Lib.SlBytesConst
namespace Go.Proofs.YtpghnlighbfdoaaDoor
open Go.ChangeShapes Go.WideShapes Go.ChangeAt Go.RowKit
theorem num4_be4 (n : Nat) (hn : n < 4294967296) (t : List UInt8) : num4 (be4 n ++ t) = n := by
  simp only [be4, List.cons_append, List.nil_append, num4, UInt8.toNat_ofNat']
  omega
theorem nextL_seal (k : UInt8) (l t : List UInt8) (hl : l.length ≤ 1048576) : nextL (sealL k l ++ t) = .ok k l := by
  have hm := more_lt 0 (k :: l) (by omega)
  have e0 : sealL k l ++ t = be4 l.length ++ (be4 (more 0 (k :: l)) ++ (k :: l ++ t)) := by simp [sealL]
  have n0 : num4 (sealL k l ++ t) = l.length := by rw [e0]; exact num4_be4 _ (by omega) _
  have d4 : (sealL k l ++ t).drop 4 = be4 (more 0 (k :: l)) ++ (k :: l ++ t) := by rw [e0]; simp [be4]
  have n1 : num4 ((sealL k l ++ t).drop 4) = more 0 (k :: l) := by rw [d4]; exact num4_be4 _ hm _
  have hlen : (sealL k l ++ t).length = 9 + l.length + t.length := by rw [List.length_append, sealL_length]
  have t8 : ((sealL k l ++ t).take (9 + l.length)).drop 8 = k :: l := by
    rw [List.take_append_of_le_length (by rw [sealL_length]; omega), List.take_of_length_le (by rw [sealL_length]; omega)]
    simp [sealL, be4]
  have g8 : (sealL k l ++ t).getD 8 0 = k := by simp [sealL, be4]
  have d9 : ((sealL k l ++ t).drop 9).take l.length = l := by
    have : (sealL k l ++ t).drop 9 = l ++ t := by simp [sealL, be4]
    rw [this]
    exact List.take_left
  unfold nextL
  rw [if_neg (by omega), n0, if_neg (by omega), if_neg (by omega), n1, t8, if_neg (by simp), g8, d9]
theorem seal_a : (sealL 1 [97]).length = 10 := by rw [sealL_length]; rfl
set_option maxHeartbeats 4000000 in
set_option maxRecDepth 100000 in
theorem awake_calls (w : World) (ht : Tb w) : Calls Tryd.prog 11 #[] w fun e w' => e = .returned (.bool true) ∧ Below w.heap.size w w' := by
  have SC : Hid (Calls Tryd.prog 7 #[.int .i64 1, .slice (some ⟨w.heap.size, 0, none⟩) 1 1] (w.alloc (.cells #[.int .u8 97] 5 (1, 2))) (NB (w.alloc (.cells #[.int .u8 97] 5 (1, 2))) (sealL 1 [97]))) := by
    have hv : Hb (w.alloc (.cells #[.int .u8 97] 5 (1, 2))) (.slice (some ⟨w.heap.size, 0, none⟩) 1 1) [97] := Hb.of rfl (Nat.le_refl _) (fun i x hx => by
      match i, hx with
      | 0, hx => cases hx; rw [Nat.add_zero, World.cell?_alloc_mark]; rfl
      | i + 1, hx => simp at hx)
    exact seal_calls 1 _ [97] _ hv (ht.below (below_alloc w _)) (by simp)
  have HT : Hid (Tb w) := ht
  clear ht
  have cv : (convert 22 22 (.slice (some ⟨w.heap.size, 0, none⟩) 1 1)).run Tryd.prog (w.alloc (.cells #[.int .u8 97] 5)) = .ok (.slice (some ⟨w.heap.size, 0, none⟩) 1 1) (w.alloc (.cells #[.int .u8 97] 5 (1, 2))) := Lib.run_convert_bytes_const (P := Tryd.prog) w 22 5 #[.int .u8 97] 1 1 Tryd.underlying22 Tryd.underlying5
  go_enter Tryd.func11, Tryd.ntmps11
  go_wp2_with fail
  refine SC.out.mono ?_
  rintro e w1 ⟨v1, rfl, ho1, hb1⟩
  have B1 : Hid (Below w.heap.size w w1) := (below_alloc w _).trans (hb1.mono (by simp))
  have NC : Hid (Calls Tryd.prog 12 #[v1] w1 (NX w1 (.ok 1 [97]))) := by
    have := next_calls v1 (sealL 1 [97]) w1 ho1.hb (HT.out.below B1.out) (by rw [seal_a]; omega)
    have e := nextL_seal 1 [97] [] (by simp)
    rw [List.append_nil] at e
    rwa [e] at this
  obtain ⟨p1, c1, rfl, _, _⟩ := ho1.hb
  rw [seal_a] at NC ⊢
  clear ho1 hb1
  go_wp2_with fail
  refine NC.out.mono ?_
  rintro e w2 ⟨v2, rfl, ho2, hb2⟩
  have B2 : Hid (Below w.heap.size w w2) := B1.out.trans (hb2.mono B1.out.size)
  obtain ⟨p2, c2, rfl, hc2, hh2⟩ := ho2.hb
  have cs := conv_string (w2.alloc (.cells #[.int .i64 1, .slice p2 [(97 : UInt8)].length c2] 29)) p2 c2 [97] (holds_below hh2 (below_alloc w2 _))
  have cs' : (convert 22 9 (.slice p2 1 c2)).run Tryd.prog (w2.alloc (.cells #[.int .i64 1, .slice p2 1 c2] 29)) = .ok (.string ⟨#[97]⟩) (w2.alloc (.cells #[.int .i64 1, .slice p2 1 c2] 29)) := by
    have e : strOfNums (Lib.numsL [97]) = ⟨#[97]⟩ := by decide +kernel
    rw [e] at cs
    exact cs
  clear ho2 hb2 hh2 cs
  go_wp2_with fail
  go_ret
  exact ⟨rfl, B2.out.alloc B2.out.size _⟩
end Go.Proofs.YtpghnlighbfdoaaDoor
