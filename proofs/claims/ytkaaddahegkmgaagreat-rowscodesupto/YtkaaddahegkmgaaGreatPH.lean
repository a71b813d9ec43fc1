/- The contracts of pack's reader, in whatever state: Int, Bits, Text, Flag, Open. -/
import Derived.Test.YtkaaddahegkmgaaGreatPIx
namespace Go.Proofs.YtkaaddahegkmgaaGreat
open Go.ChangeShapes Go.WideShapes Go.ChangeAt Go.RowKit
theorem turn_back (x : Nat) (h : x < 18446744073709551616) : wrap64 (bits BinOp.xor IntKind.u64 (x : Int) 9223372036854775808) = (x : Int) - 9223372036854775808 := by
  rw [u64_xor _ _ (by omega) (by omega) (by omega) (by omega)]
  have e : (9223372036854775808 : Int).toNat = 2 ^ 63 := by decide +kernel
  rw [e, Int.toNat_natCast]
  by_cases h0 : x < 2 ^ 63
  · rw [xor_low x h0]; unfold wrap64; omega
  · have e1 : x = 2 ^ 63 + (x - 2 ^ 63) := by omega
    rw [e1, xor_high _ (by omega)]; unfold wrap64; omega
theorem val8_lt (l : List UInt8) : valB (l.take 8) < 18446744073709551616 := by
  have h := valB_lt (l.take 8)
  have h2 : (256 : Nat) ^ (l.take 8).length ≤ 256 ^ 8 := Nat.pow_le_pow_right (by decide) (by rw [List.length_take]; omega)
  have e : (256 : Nat) ^ 8 = 18446744073709551616 := by decide +kernel
  omega
/-- What Int reads; what Bits reads. -/
def sInt (l : List UInt8) (e : Int) : Int × List UInt8 × Int :=
  if e = 0 then (if l.length < 8 then (0, [], 4) else ((valB (l.take 8) : Int) - 9223372036854775808, l.drop 8, 0)) else (0, l, e)
def sBits (l : List UInt8) (e : Int) : Nat × List UInt8 × Int :=
  if e = 0 then (if l.length < 8 then (0, [], 4) else (valB (l.take 8), l.drop 8, 0)) else (0, l, e)
/-- What Flag reads. -/
def sFlag (l : List UInt8) (e : Int) : Bool × List UInt8 × Int :=
  if e = 0 then (match l with | [] => (false, [], 4) | b :: t => if 1 < b.toNat then (false, [], 3) else ((b.toNat : Int) == 1, t, 0)) else (false, l, e)
/-- What Text reads. -/
def sText (m : Int) (l : List UInt8) (e : Int) : List UInt8 × List UInt8 × Int :=
  if (sNum m l e).2.2 = 0 then (if (sNum m l e).2.1.length < (sNum m l e).1.toNat then ([], [], 4) else ((sNum m l e).2.1.take (sNum m l e).1.toNat, (sNum m l e).2.1.drop (sNum m l e).1.toNat, 0)) else ([], (sNum m l e).2.1, (sNum m l e).2.2)
theorem sNum_nat (m : Int) (l : List UInt8) (e : Int) : 0 ≤ (sNum m l e).1 := by
  unfold sNum
  split
  · split
    · split <;> simp
    · simp
  · simp
theorem sNum_zero (m : Int) (l : List UInt8) (e : Int) (h : (sNum m l e).2.2 ≠ 0) : (sNum m l e).1 = 0 := by
  revert h
  unfold sNum
  split
  · split
    · split
      · intro _; rfl
      · intro h; exact absurd rfl h
    · intro _; rfl
  · intro _; rfl
/-- A string of these bytes. -/
def str (l : List UInt8) : ByteArray := ⟨l.toArray⟩
theorem str_nums (l : List UInt8) : strOfNums (Lib.numsL l) = str l := by
  apply ByteArray.ext
  apply Array.ext'
  rw [strOfNums_data]
  have := Lib.bytesOf_numsL l
  simpa [Lib.bytesOf, str] using this
theorem text_st (w : World) (g h : Nat) (l : List UInt8) (e m : Int) (r : St w g h l e) :
    Calls Tryz.prog 73 #[.pointer (some ⟨g, 0, none⟩), .int .i64 m] w (Rs w g h (.string (str (sText m l e).1)) (sText m l e).2.1 (sText m l e).2.2) := by
  have NC := num_st w g h l e m r
  have n0 := sNum_nat m l e
  have nz := sNum_zero m l e
  unfold sText
  generalize (sNum m l e).1 = n at NC n0 nz ⊢
  generalize (sNum m l e).2.1 = l1 at NC ⊢
  generalize (sNum m l e).2.2 = e1 at NC nz ⊢
  obtain ⟨k, rfl⟩ := Int.eq_ofNat_of_zero_le n0
  rw [Int.toNat_natCast]
  have HN : Hid (Calls _ _ _ _ _) := NC
  clear NC n0 r
  rcases Classical.em (e1 = 0) with h0 | h0
  · subst h0
    rw [if_pos rfl]
    by_cases hk : l1.length < k
    · rw [if_pos hk]
      dsimp only
      have hcv : ∀ w, (convert 26 9 (.slice none 0 0)).run Tryz.prog w = .ok (.string (str [])) w := fun w => conv_string w none 0 [] (holds_nil w)
      clear nz
      go_enter Tryz.func73, Tryz.ntmps73
      go_wp2_with fail
      refine Calls.mono HN.out ?_
      rintro e w1 ⟨rfl, h1, h2⟩
      obtain ⟨p1, c1, r1⟩ := st_live h1
      have R1 : Hid (Rd w1 g h p1 c1 l1) := r1
      have H2 : Hid (KB g w w1) := h2
      clear h1 h2 r1
      go_wp2_with fail
      refine (take_short w1 g h c1 p1 l1 k hk R1.out).mono ?_
      rintro e w2 ⟨rfl, h1, h2⟩
      have H4 : Hid (St _ _ _ _ _) := h1
      have H5 : Hid (KB _ _ _) := h2
      clear h1 h2
      go_wp2
      go_ret
      exact ⟨rfl, H4.out, H2.out.trans H5.out⟩
    · rw [if_neg hk]
      dsimp only
      clear nz
      go_enter Tryz.func73, Tryz.ntmps73
      go_wp2_with fail
      refine Calls.mono HN.out ?_
      rintro e w1 ⟨rfl, h1, h2⟩
      obtain ⟨p1, c1, r1⟩ := st_live h1
      have R1 : Hid (Rd w1 g h p1 c1 l1) := r1
      have H2 : Hid (KB g w w1) := h2
      clear h1 h2 r1
      go_wp2_with fail
      refine (take_live w1 g h c1 p1 l1 k (by omega) R1.out).mono ?_
      rintro e w2 ⟨q, rfl, h1, hh, h2⟩
      have H4 : Hid (St _ _ _ _ _) := h1
      have H5 : Hid (KB _ _ _) := h2
      have hlen : (l1.take k).length = k := by rw [List.length_take]; omega
      have hcv := conv_string w2 q k (l1.take k) (hh.holds k)
      rw [hlen, str_nums] at hcv
      clear h1 h2 hh hlen
      go_wp2
      go_ret
      exact ⟨rfl, H4.out, H2.out.trans H5.out⟩
  · rw [if_neg h0]
    dsimp only
    have hk0 : k = 0 := by have := nz h0; omega
    subst hk0
    have HE : Hid ((e1 != 0) = true) := by show (e1 != 0) = true; simpa using h0
    have hcv : ∀ w, (convert 26 9 (.slice none 0 0)).run Tryz.prog w = .ok (.string (str [])) w := fun w => conv_string w none 0 [] (holds_nil w)
    clear nz h0
    go_enter Tryz.func73, Tryz.ntmps73
    go_wp2_with fail
    refine Calls.mono HN.out ?_
    rintro e w1 ⟨rfl, h1, h2⟩
    have H1 : Hid (St w1 g h l1 e1) := h1
    have H2 : Hid (KB g w w1) := h2
    clear h1 h2
    go_wp2_with fail
    refine (take_dead _ e1 w1 (err_st H1.out) HE.out 0).mono ?_
    rintro e w2 ⟨rfl, hw1⟩
    have hw2 := hw1.symm
    subst hw2
    go_wp2
    go_ret
    exact ⟨rfl, H1.out, H2.out⟩
theorem join_one' (w : World) (g : Nat) (hg : w.heap.size = g) (v0 : Value) (l0 : List UInt8) (h0 : Lib.HoldsBytes w v0 l0) (hlen : l0.length ≤ 281474976710656) :
    Calls Tryz.prog 39 #[.slice (some ⟨g, 0, none⟩) 1 1] (w.alloc (.cells #[v0] 26)) fun e w' => NB w l0 e w' ∧ w.heap.size < w'.heap.size := by
  subst hg
  refine (join_calls w.heap.size 0 1 1 [v0] [l0] _ rfl (parts_one w v0 l0 h0) (by omega) _ rfl (by simp [Lib.lens]; omega)).mono ?_
  rintro e w' ⟨rfl, hb⟩
  have hs := hb.below.size
  refine ⟨nb_step (w0 := w.alloc (.cells #[v0] 26)) (below_alloc w _) ?_, by simp at hs; omega⟩
  have e1 : [l0].flatten = l0 := by simp
  rw [e1] at hb
  exact nb_buf (by simp [Lib.lens]) hb
theorem open_world (w w1 : World) (hh : Nat) (l : List UInt8) (h3 : Lib.HoldsBytes w1 (.slice (some ⟨hh, 0, none⟩) l.length l.length) l) (h1 : w.heap.size ≤ hh) (hs : w.heap.size < w1.heap.size) :
    ∃ h, w.heap.size ≤ h ∧ h < w1.heap.size ∧ St (w1.alloc (.cells #[.bool true, .slice (some ⟨hh, 0, none⟩) l.length l.length, .int .i64 0] 75)) w1.heap.size h l 0 := by
  have hb := below_alloc w1 (.cells #[.bool true, .slice (some ⟨hh, 0, none⟩) l.length l.length, .int .i64 0] 75)
  have cells : ∀ h, h < w1.heap.size → HBk (w1.alloc (.cells #[.bool true, .slice (some ⟨hh, 0, none⟩) l.length l.length, .int .i64 0] 75)) h (some ⟨hh, 0, none⟩) l → St (w1.alloc (.cells #[.bool true, .slice (some ⟨hh, 0, none⟩) l.length l.length, .int .i64 0] 75)) w1.heap.size h l 0 := by
    intro h hlt hk
    refine .inl ⟨rfl, some ⟨hh, 0, none⟩, l.length, ?_, ?_, ?_, ?_, ?_, Nat.le_refl _, by omega, hk⟩
    all_goals simp
  rcases Classical.em (l = []) with hl | hl
  · refine ⟨w.heap.size, Nat.le_refl _, hs, cells _ hs ?_⟩
    rw [hl]
    exact HBk.nil _ _ _
  · obtain ⟨p, c, e, _, hc⟩ := h3
    cases e
    have hcell : ∀ (i : Nat) x, l[i]? = some x → w1.cell? ⟨hh, 0 + i, none⟩ = some (.int .u8 (x.toNat : Int)) := fun i x hx => by
      have := hc _ rfl i x hx
      rwa [add_plain] at this
    have hlt : hh < w1.heap.size := by
      obtain ⟨b, t, rfl⟩ := List.exists_cons_of_ne_nil hl
      exact World.block_lt_of_cell? w1 _ (hcell 0 b rfl)
    exact ⟨hh, h1, hlt, cells _ hlt (fun _ => ⟨0, rfl, fun i x hx => Lib.Below.cellOf hb (hcell i x hx) (Nat.le_refl _)⟩)⟩
/-- Open: a reader of the bytes as they are now. -/
theorem open_calls (v : Value) (l : List UInt8) (w : World) (hv : Lib.HoldsBytes w v l) (hl : l.length ≤ 281474976710656) :
    Calls Tryz.prog 15 #[v] w fun e w' => ∃ g h, e = .returned (.pointer (some ⟨g, 0, none⟩)) ∧ w.heap.size ≤ h ∧ h < g ∧ g < w'.heap.size ∧ St w' g h l 0 ∧ Below w.heap.size w w' := by
  have HV : Hid (Lib.HoldsBytes w v l) := hv
  have HL : Hid (l.length ≤ 281474976710656) := hl
  obtain ⟨p, cap, rfl, q1, q2⟩ := hv
  clear q1 q2 hl
  go_enter Tryz.func15, Tryz.ntmps15
  go_wp2_with fail
  refine (join_one' _ _ rfl _ _ HV.out HL.out).mono ?_
  rintro e w1 ⟨hN, hs⟩
  obtain ⟨hh, h1, rfl, h3, h4⟩ := hN
  obtain ⟨h, k1, k2, k3⟩ := open_world w w1 hh l h3 h1 hs
  have K1 : Hid (w.heap.size ≤ h) := k1
  have K2 : Hid (h < w1.heap.size) := k2
  have K3 : Hid (St _ _ _ _ _) := k3
  have H4 : Hid (Below w.heap.size w w1) := h4
  clear h1 h3 h4 k1 k2 k3 hs
  go_wp2
  go_ret
  exact ⟨_, h, rfl, K1.out, K2.out, by simp, K3.out, H4.out.alloc H4.out.size _⟩
end Go.Proofs.YtkaaddahegkmgaaGreat
