/- The contracts of Seal, the program's and the reference's. -/
import Derived.Test.YthakbkkopneilaaDoorG
import Derived.Laws.CopyOwn
import Derived.Deep.WholeRow
import Derived.Deep.RegionHeld3
import Derived.Deep.QuietTactic
namespace Go.Proofs.YthakbkkopneilaaDoor
open Go.ChangeShapes Go.WideShapes Go.ChangeAt Go.RowKit
/-- A kind's lowest byte. -/
def kb (k : Int) : UInt8 := UInt8.ofNat (k % 256).toNat
theorem kb_val (k : Int) : ((kb k).toNat : Int) = k % 256 := by unfold kb; rw [UInt8.toNat_ofNat']; omega
/-- The frame of a payload. -/
def sealL (k : UInt8) (l : List UInt8) : List UInt8 := be4 l.length ++ (be4 (more 0 (k :: l)) ++ k :: l)
theorem sealL_length (k : UInt8) (l : List UInt8) : (sealL k l).length = 9 + l.length := by simp [sealL, be4]; omega
/-- What a call that makes bytes of its own leaves. -/
def NB (w : World) (l : List UInt8) (e : Ending) (w' : World) : Prop := ∃ v, e = .returned v ∧ Own w.heap.size w' v l ∧ Below w.heap.size w w'
theorem heap_last (w : World) (o : Obj) : (w.alloc o).heap[w.heap.size]? = some o := heap_alloc_last w o
theorem own_made (w : World) (N : Nat) (hN : N ≤ 281474976710656) : Own w.heap.size (w.alloc (.cells (zeros N).toArray 5)) (.slice (some ⟨w.heap.size, 0, none⟩) N N) (List.replicate N 0) := by
  unfold Own
  rw [bval_zeros, List.length_replicate]
  refine ⟨by simp [zeros], .inr ⟨_, N, (zeros N).toArray, rfl, Nat.le_refl _, heap_last w _, Nat.le_refl _, by unfold maxLen; omega, by simp [zeros], ?_⟩⟩
  exact List.take_of_length_le (by simp [zeros])
theorem own_bval (w : World) (l : List UInt8) (hl : l.length ≤ 281474976710656) : Own w.heap.size (w.alloc (.cells (bval l).toArray 5)) (.slice (some ⟨w.heap.size, 0, none⟩) l.length l.length) l := by
  refine ⟨by simp [bval], .inr ⟨_, l.length, (bval l).toArray, rfl, Nat.le_refl _, heap_last w _, Nat.le_refl _, by unfold maxLen; omega, by simp [bval], ?_⟩⟩
  exact List.take_of_length_le (by simp [bval])
/-- copy(b[o:], x) into bytes of the call's own that x fills to the end. -/
theorem own_copy {B : Nat} {w0 w : World} {g N o : Nat} {l m : List UInt8} {x : Value} (ho : Own B w (.slice (some ⟨g, 0, none⟩) N N) l) (hN : N = l.length) (hx : Lib.HoldsBytes w x m) (hB : w0.heap.size ≤ g) (hb : Below w0.heap.size w0 w) (hom : o + m.length = N) :
    ∃ w', (∀ ty, (Builtin.copy_ #[22, 22] ty #[Lib.tailV g N o, x]).run Tryd.prog w = .ok (.int .i64 (m.length : Int)) w') ∧ Own B w' (.slice (some ⟨g, 0, none⟩) N N) (l.take o ++ m) ∧ Below w0.heap.size w0 w' := by
  subst hN
  obtain ⟨p, cap, rfl, h1, h2⟩ := hx
  by_cases hm : m = []
  · subst hm
    refine ⟨w, fun ty => ?_, ?_, hb⟩
    · exact run_copy_none (P := Tryd.prog) w 22 22 ty 5 _ p _ _ 0 cap Tryd.underlying22 size5 (by simp)
    · have : l.take o = l := List.take_of_length_le (by simp at hom; omega)
      rw [this, List.append_nil]
      exact ho
  · have hpos : 0 < m.length := List.length_pos_iff.2 hm
    obtain ⟨a, rfl⟩ : ∃ a, p = some a := by
      cases p with
      | none => exact absurd (h1 rfl) hm
      | some a => exact ⟨a, rfl⟩
    obtain ⟨q1, ⟨h', _⟩ | ⟨g', cap', cur, h', hBg, hg, hnc, hcm, hcs, ht⟩⟩ := ho
    · simp at h'
    · simp only [Value.slice.injEq, Option.some.injEq, Addr.mk.injEq, and_true, true_and] at h'
      obtain ⟨rfl, rfl⟩ := h'
      rw [Nat.mul_one] at ht hcs
      have hcur : cur.toList = bval l := by rw [← ht]; exact (List.take_of_length_le (by simp [hcs])).symm
      have hr := fun ty => run_copy_row (P := Tryd.prog) w 22 22 ty 5 g o (l.length - o) (l.length - o) a m.length cap cur 5 (bval m) Tryd.underlying22 size5 hg (by rw [bval_length]; exact (Nat.min_eq_left (by omega)).symm)
        (fun j u hj => by obtain ⟨y, hy, rfl⟩ := bval_at hj; exact h2 a rfl j y hy) (by rw [bval_length, hcs]; omega) (bval_one m)
      have e : (cur.toList.take o ++ bval m ++ cur.toList.drop (o + (bval m).length)) = bval (l.take o ++ m) := by
        rw [hcur, bval_append, bval_length, List.drop_of_length_le (by rw [bval_length]; omega), List.append_nil]
        simp [bval]
      have hlen : (l.take o ++ m).length = l.length := by simp; omega
      refine ⟨w.setRow g (bval (l.take o ++ m)).toArray, fun ty => ?_, ?_, below_setRow hb hB _⟩
      · unfold Lib.tailV
        rw [if_neg (by omega), hr ty, e, bval_length]
        rfl
      · unfold Own
        rw [hlen]
        refine ⟨by rw [bval_length, hlen, Nat.mul_one], .inr ⟨g, l.length, _, rfl, hBg, setRow_heap w g cur _ 5 _ hg, Nat.le_refl _, hcm, by simp [bval_length, hlen], ?_⟩⟩
        exact List.take_of_length_le (by simp [bval_length, hlen])
theorem Tb.below {w w' : World} (h : Tb w) (hb : Below w.heap.size w w') : Tb w' := fun i hi => Lib.Below.cellOf hb (h i hi) (Nat.le_refl _)
theorem lay1 (n : Nat) (b : UInt8) (l : List UInt8) : ((List.replicate (9 + n) 0).set 8 b).take 9 ++ l = List.replicate 8 0 ++ b :: l := by
  rw [Nat.add_comm]
  simp [List.replicate_succ]
theorem lay2 (n : Nat) (b : UInt8) (l : List UInt8) : (List.replicate 8 0 ++ b :: l).take 0 ++ (be4 n ++ (List.replicate 8 0 ++ b :: l).drop (0 + 4)) = be4 n ++ (List.replicate 4 0 ++ b :: l) := by
  simp [be4, List.replicate_succ]
theorem lay3 (n m : Nat) (b : UInt8) (l : List UInt8) : (be4 n ++ (List.replicate 4 0 ++ b :: l)).take 4 ++ (be4 m ++ (be4 n ++ (List.replicate 4 0 ++ b :: l)).drop (4 + 4)) = be4 n ++ (be4 m ++ b :: l) := by
  simp [be4, List.replicate_succ]
theorem lay4 (n : Nat) (b : UInt8) (l : List UInt8) : (be4 n ++ (List.replicate 4 0 ++ b :: l)).drop 8 = b :: l := by
  simp [be4, List.replicate_succ]
theorem tail_at {g N o : Nat} (h : o < N) : Lib.tailV g N o = .slice (some ⟨g, o, none⟩) (N - o) (N - o) := by
  unfold Lib.tailV
  rw [if_neg (by omega)]
set_option maxHeartbeats 4000000 in
set_option maxRecDepth 100000 in
theorem seal_calls (k : Int) (v : Value) (l : List UInt8) (w : World) (hv : Hb w v l) (ht : Tb w) (hl : l.length ≤ 1048576) : Calls Tryd.prog 26 #[.int .i64 k, v] w (NB w (sealL (kb k) l)) := by
  obtain ⟨N, hN⟩ : ∃ N, N = 9 + l.length := ⟨_, rfl⟩
  have SZ : ∀ W, Calls Tryd.prog 44 #[.int .i64 (l.length : Int)] W fun e w' => e = .returned (.int .i64 (N : Int)) ∧ w' = W := fun W => by
    have := size_calls (l.length : Int) W
    rwa [if_neg (by omega), show (9 + (l.length : Int)) = (N : Int) by omega] at this
  have hmk := make_bytes N (by omega)
  have hd0 : ((N : Int) == 0) = false := by simp; omega
  have hz : (zeros N)[8]? = some (.int .u8 0) := by unfold zeros; rw [List.getElem?_replicate, if_pos (by omega)]
  have H9 : ∀ W, (Instr.slice 22 (.slice (some ⟨w.heap.size, 0, none⟩) N N) (some (.int .i64 9)) none none).run Tryd.prog W = .ok (Lib.tailV w.heap.size N 9) W := fun W => Lib.run_slice_tailV (P := Tryd.prog) W 22 5 Tryd.underlying22 z5 w.heap.size N 9 (by omega)
  have H4 : ∀ W, (Instr.slice 22 (.slice (some ⟨w.heap.size, 0, none⟩) N N) (some (.int .i64 4)) none none).run Tryd.prog W = .ok (Lib.tailV w.heap.size N 4) W := fun W => Lib.run_slice_tailV (P := Tryd.prog) W 22 5 Tryd.underlying22 z5 w.heap.size N 4 (by omega)
  have H8 : ∀ W, (Instr.slice 22 (.slice (some ⟨w.heap.size, 0, none⟩) N N) (some (.int .i64 8)) none none).run Tryd.prog W = .ok (Lib.tailV w.heap.size N 8) W := fun W => Lib.run_slice_tailV (P := Tryd.prog) W 22 5 Tryd.underlying22 z5 w.heap.size N 8 (by omega)
  rw [tail_at (show 4 < N by omega)] at H4
  rw [tail_at (show 8 < N by omega)] at H8
  obtain ⟨b, hb⟩ : ∃ b, b = kb k := ⟨_, rfl⟩
  have hbv : (b.toNat : Int) = k % 256 := by rw [hb]; exact kb_val k
  rw [← hb]
  have HO0 : Own w.heap.size (w.alloc (.cells ((zeros N).set 8 (.int .u8 (k % 256))).toArray 5)) (.slice (some ⟨w.heap.size, 0, none⟩) N N) ((List.replicate N 0).set 8 b) := by
    have e : bval ((List.replicate N 0).set 8 b) = (zeros N).set 8 (.int .u8 (k % 256)) := by rw [← bval_zeros, bval, List.map_set, ← hbv]; rfl
    have := own_bval w ((List.replicate N 0).set 8 b) (by simp; omega)
    rw [e] at this
    simpa using this
  have HB0 : Below w.heap.size w (w.alloc (.cells ((zeros N).set 8 (.int .u8 (k % 256))).toArray 5)) := below_alloc w _
  obtain ⟨w2, hcp, ho2, hb2⟩ := own_copy (o := 9) HO0 (by simp) (holds_below hv.holds HB0) (Nat.le_refl _) HB0 (by omega)
  rw [hN, lay1, ← hN] at ho2
  have hlb : (l.length : Int) ≤ 1048576 := by omega
  have h8N : (8 : Int) < (N : Int) := by omega
  obtain ⟨p, c, rfl, hc, hv'⟩ := hv
  clear hv'
  have PW1 := putWord_calls w.heap.size w2 w.heap.size 0 N N N N _ l.length (by omega) ho2 (by simp; omega) (by omega) (by omega)
  rw [lay2] at PW1
  have HSum : ∀ W, Own w.heap.size W (.slice (some ⟨w.heap.size, 0, none⟩) N N) (be4 l.length ++ (List.replicate 4 0 ++ b :: l)) → Tb W → Calls Tryd.prog 46 #[.slice (some ⟨w.heap.size, 8, none⟩) (N - 8) (N - 8)] W fun e w' => e = .returned (.int .u32 ((more 0 (b :: l) : Nat) : Int)) ∧ w' = W := fun W hW hT => by
    refine sum_calls _ (b :: l) W ?_ hT (by simp; omega)
    have hh := hW.hb
    obtain ⟨v', e, q⟩ := cut_l 8 hh (by simp [be4])
    have := q W hh
    rw [lay4] at this
    have e2 := (e W).symm.trans (H8 W)
    cases e2
    exact this.holds
  have HPW2 : ∀ W, Own w.heap.size W (.slice (some ⟨w.heap.size, 0, none⟩) N N) (be4 l.length ++ (List.replicate 4 0 ++ b :: l)) → Calls Tryd.prog 45 #[.slice (some ⟨w.heap.size, 4, none⟩) (N - 4) (N - 4), .int .u32 ((more 0 (b :: l) : Nat) : Int)] W fun e w' => e = .returned (.tuple #[]) ∧ Own w.heap.size w' (.slice (some ⟨w.heap.size, 0, none⟩) N N) (sealL b l) ∧ Below w.heap.size W w' := fun W hW => by
    have := putWord_calls w.heap.size W w.heap.size 4 (N - 4) (N - 4) N N _ (more 0 (b :: l)) (more_lt 0 _ (by omega)) hW (by simp [be4]; omega) (by omega) (by omega)
    rw [lay3] at this
    exact this
  have HTb : Hid (∀ W, Below w.heap.size w W → Tb W) := fun W hW => ht.below hW
  have HPW1 : Hid (Calls _ _ _ _ _) := PW1
  have HS : Hid (∀ W, _ → _ → _) := HSum
  have HP2 : Hid (∀ W, _ → _) := HPW2
  have HB2 : Hid (Below w.heap.size w w2) := hb2
  have HSZ : Hid (∀ W, _) := SZ
  obtain ⟨sm, hsm⟩ : ∃ sm, sm = more 0 (b :: l) := ⟨_, rfl⟩
  rw [← hsm] at HS HP2
  clear HSum HPW2 PW1 HO0 HB0 ho2 hb2 ht hb hbv hN SZ hsm
  go_enter Tryd.func26, Tryd.ntmps26
  go_wp2_with fail
  refine (HSZ.out _).mono ?_
  rintro e w1 ⟨rfl, hw1⟩
  have hw2 := hw1.symm
  subst hw2
  clear hw1
  go_wp2_with (at_builtin; refine Lib.wpList_copy_run _ rfl _ _ 22 22 rfl _ _ rfl rfl (hcp _) ?_)
  refine HPW1.out.mono ?_
  rintro e w3 ⟨rfl, ho3, hb3⟩
  have HO3 : Hid (Own w.heap.size w3 _ _) := ho3
  have HB3 : Hid (Below w.heap.size w w3) := HB2.out.trans hb3
  clear ho3 hb3
  go_wp2_with fail
  go_region_held3 (fun _ => True) (go_keep) (first | (go_at_call 46; refine (HS.out w3.drew HO3.out (HTb.out w3.drew HB3.out.drew)).mono ?_; rintro e w4 ⟨rfl, hw4⟩; have hw5 := hw4.symm; subst hw5; clear hw4) | (go_at_call 45; refine (HP2.out w3.drew HO3.out).mono ?_; rintro e w5 ⟨rfl, ho5, hb5⟩; have HO5 : Hid (Own w.heap.size w5 _ _) := ho5; have HB5 : Hid (Below w.heap.size w w5) := HB3.out.drew.trans hb5; clear ho5 hb5))
  all_goals go_wp2_with fail
  all_goals go_ret
  all_goals exact ⟨_, rfl, HO5.out, HB5.out⟩
theorem seal_long (k : Int) (v : Value) (l : List UInt8) (w : World) (hv : Hb w v l) (hl : 1048576 < l.length) (hl2 : l.length ≤ 9223372036854775807) : Calls Tryd.prog 26 #[.int .i64 k, v] w fun e w' => e = .returned (.slice none 0 0) ∧ w' = w := by
  have SZ : ∀ W, Calls Tryd.prog 44 #[.int .i64 (l.length : Int)] W fun e w' => e = .returned (.int .i64 0) ∧ w' = W := fun W => by
    have := size_calls (l.length : Int) W
    rwa [if_pos (by omega)] at this
  have HSZ : Hid (∀ W, _) := SZ
  obtain ⟨p, c, rfl, hc, hv'⟩ := hv
  clear hv' SZ
  go_enter Tryd.func26, Tryd.ntmps26
  go_wp2_with fail
  refine (HSZ.out _).mono ?_
  rintro e w1 ⟨rfl, rfl⟩
  go_wp2
  go_ret
  exact ⟨rfl, rfl⟩
theorem rsum2_calls (b : UInt8) (v : Value) (l : List UInt8) (w : World) (hv : Lib.HoldsBytes w v l) (hl : l.length ≤ 1048576) : Calls Tryd.prog 50 #[.int .u8 (b.toNat : Int), v] w fun e w' => e = .returned (.int .u32 ((more 0 (b :: l) : Nat) : Int)) ∧ Below w.heap.size w w' := by
  have HO0 := own_bval w [b] (by simp)
  have HB0 := below_alloc w (.cells (bval [b]).toArray 5)
  obtain ⟨v', w', hr, ho, hb⟩ := app_run HO0 (holds_below hv HB0) (by simp) (by simp; omega)
  have RS : Hid (Calls Tryd.prog 64 #[v'] w' fun e w'' => e = .returned (.int .u32 ((more 0 (b :: l) : Nat) : Int)) ∧ w'' = w') := rsum_calls v' (b :: l) w' ho.holds (by simp; omega)
  have HB : Hid (Below w.heap.size w w') := HB0.trans hb
  have hr' : ∀ ty, (Builtin.append_ #[22, 22] ty #[.slice (some ⟨w.heap.size, 0, none⟩) 1 1, v]).run Tryd.prog (w.alloc (.cells #[.int .u8 (b.toNat : Int)] 5)) = .ok v' w' := hr
  obtain ⟨p, c, rfl, hv1, hv2⟩ := hv
  clear ho hb HB0 HO0 hr hv1 hv2
  go_enter Tryd.func50, Tryd.ntmps50
  go_wp2_with (at_builtin; refine Lib.wpList_append_run _ rfl _ _ 22 22 rfl _ _ rfl rfl _ _ (hr' _) ?_)
  refine RS.out.mono ?_
  rintro e w2 ⟨rfl, hw⟩
  have hw2 := hw.symm
  subst hw2
  clear hw
  go_wp2
  go_ret
  exact ⟨rfl, HB.out⟩
end Go.Proofs.YthakbkkopneilaaDoor
