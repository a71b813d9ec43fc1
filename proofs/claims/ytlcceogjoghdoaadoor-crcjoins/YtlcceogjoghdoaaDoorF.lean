/- The contracts of the program's Zeros and Join. -/
import Derived.Test.YtlcceogjoghdoaaDoorE
import Derived.Lib.SlBytesConst
namespace Go.Proofs.YtlcceogjoghdoaaDoor
open Go.ChangeShapes Go.WideShapes Go.ChangeAt Go.RowKit
/-- What a bit alone becomes behind p bytes 0. -/
def col (p : Nat) (i : Nat) : Nat := B (8 * p) (2 ^ (i % 32))
theorem col_lt (p i : Nat) : col p i < 4294967296 := B_lt _ _ (by
  have := Nat.pow_lt_pow_right (a := 2) (by decide) (Nat.mod_lt i (show 32 > 0 by decide))
  simpa using this)
theorem ofN_congr (f g : Nat → Nat) (r k : Nat) (h : ∀ i, i < k → f i = g i) : ofN f r k = ofN g r k := by
  induction k with
  | zero => rfl
  | succ k ih => rw [ofN, ofN, ih (fun i hi => h i (by omega)), h k (by omega)]
theorem col_of (p r : Nat) (hr : r < 4294967296) : ofN (col p) r 32 = B (8 * p) r := by
  rw [ofN_congr (col p) (fun i => B (8 * p) (2 ^ i)) r 32 (fun i hi => by show B _ (2 ^ (i % 32)) = B _ (2 ^ i); rw [Nat.mod_eq_of_lt hi]), ofN_B _ _ hr]
theorem col_twice (p i : Nat) : col (2 * p) i = ofN (col p) (col p i) 32 := by
  rw [col_of p _ (col_lt p i)]
  unfold col
  rw [← B_add]
  congr 1
  omega
theorem cl_congr (f g : Nat → Nat) (h : ∀ i, i < 32 → f i = g i) : cl f 32 = cl g 32 := by
  unfold cl
  apply List.map_congr_left
  intro i hi
  rw [h i (by simpa using hi)]
theorem oneByte_col (w : World) : Calls Tryd.prog 18 #[] w (Gives w (col 1)) := by
  have h := oneByte_calls w (fun i => B 8 (2 ^ i)) (fun _ => rfl)
  have e : cl (fun i => B 8 (2 ^ i)) 32 = cl (col 1) 32 := cl_congr _ _ (fun i hi => by show B 8 (2 ^ i) = B 8 (2 ^ (i % 32)); rw [Nat.mod_eq_of_lt hi])
  unfold Gives at h ⊢
  rw [e] at h
  exact h
theorem act_put (a : Act) : a.put none undef = a := rfl
theorem half (q : Nat) (h : 0 < q) : (intOf (.int .i64 ((q / 2 : Nat) : Int))).toNat < (intOf (.int .i64 (q : Int))).toNat := by simp [intOf]; omega
theorem and1_i64 (q : Nat) (hq : q < 9223372036854775808) : bits BinOp.and IntKind.i64 (q : Int) 1 = ((q % 2 : Nat) : Int) := by
  have h1 : (BitVec.ofInt 64 1).toNat = 2 ^ 1 - 1 := by decide
  have key : (BitVec.ofInt 64 (q : Int) &&& BitVec.ofInt 64 1).toNat = ((q : Int) % ((2 ^ 64 : Nat) : Int)).toNat % 2 ^ 1 := by
    rw [BitVec.toNat_and, BitVec.toNat_ofInt, h1, Nat.and_two_pow_sub_one_eq_mod]
  show IntKind.i64.wrap ((BitVec.ofInt 64 (q : Int) &&& BitVec.ofInt 64 1).toNat : Nat) = _
  rw [key, IntKind.wrap_i64]
  omega
theorem zeros_in (s : Nat) (hs : s < 4294967296) (m : Nat) (hm : m ≤ 1048576) (w : World) :
    Calls Tryd.prog 12 #[.int .u32 (s : Int), .int .i64 (m : Int)] w fun e w' => e = .returned (.int .u32 ((B (8 * m) s : Nat) : Int)) ∧ Below w.heap.size w w' := by
  have d1 : decide ((m : Int) < 0) = false := decide_eq_false (by omega)
  have d2 : decide (1048576 < (m : Int)) = false := decide_eq_false (by omega)
  have HM : Hid (m ≤ 1048576) := hm
  clear hm
  go_enter Tryd.func12, Tryd.ntmps12
  go_wp2_with fail
  refine Calls.mono (oneByte_col w) ?_
  rintro e w1 ⟨rfl, hb1⟩
  have HB1 : Hid (Below w.heap.size w w1) := hb1
  clear hb1
  go_wp2_with (first
    | refine wpList_store_row rfl 39 _ _ rfl w1.heap.size (cl (col 1) 32).toArray rfl rfl 39 _ (row_last _ _) (hi39 _ _) (by simp [cl_length]) (cl_one (col 1) 32) ?_)
  rw [World.setRow_alloc_new, act_put]
  have hy : Way (w1.alloc (.cells (cl (col 1) 32).toArray 39)) w1.heap.size (col 1) := row_last _ _
  have hb2 : Below w.heap.size w (w1.alloc (.cells (cl (col 1) 32).toArray 39)) := HB1.out.alloc HB1.out.size _
  have HG : Hid (w.heap.size ≤ w1.heap.size) := HB1.out.size
  generalize w1.heap.size = g at hy HG
  generalize w1.alloc (.cells (cl (col 1) 32).toArray 39) = w2 at hy hb2
  have HY : Hid (Way w2 g (col 1)) := hy
  have HB2 : Hid (Below w.heap.size w w2) := hb2
  clear hy hb2 HB1 d1 d2
  go_loopw [0, 1] (fun x n wr => ∃ p q y : Nat, n = .int .i64 q ∧ x = .int .u32 y ∧ y < 4294967296 ∧ Hid (q ≤ 1048576) ∧ Hid (B (8 * (p * q)) y = B (8 * m) s) ∧ Hid (Way wr g (col p)) ∧ Hid (Below w.heap.size w wr)) (fun _ n _ => (intOf n).toNat)
  case atStart => exact ⟨1, m, s, rfl, rfl, hs, HM, by show B (8 * (1 * m)) s = _; rw [Nat.one_mul], HY, HB2⟩
  case round =>
    obtain ⟨p, q, y, rfl, rfl, hy, HQ, HE, HW, HB⟩ := hrel
    by_cases hq : 0 < q
    · have ha := and1_i64 q (Nat.lt_of_le_of_lt HQ.out (by omega))
      have TW : Hid (Calls Tryd.prog 20 #[.pointer (some ⟨g, 0, none⟩)] wr (Gives wr (col (2 * p)))) := twice_calls wr g (col p) (col (2 * p)) (col_lt p) (col_twice p) HW.out
      have HQ2 : Hid (q / 2 ≤ 1048576) := Nat.le_trans (Nat.div_le_self _ _) HQ.out
      by_cases h1 : q % 2 = 1
      · have hb : (bits BinOp.and IntKind.i64 (q : Int) 1 == 1) = true := by rw [ha, h1]; rfl
        have OF : Hid (Calls _ _ _ _ _) := of_calls wr g y (col p) hy (col_lt p) HW.out
        rw [col_of p y hy] at OF
        have HE2 : Hid (B (8 * (2 * p * (q / 2))) (B (8 * p) y) = B (8 * m) s) := by
          show _ = _
          rw [← HE.out, ← B_add]
          congr 1
          have e := Nat.div_add_mod q 2
          rw [h1] at e
          have e2 : p * q = 2 * p * (q / 2) + p := by
            calc p * q = p * (2 * (q / 2) + 1) := by rw [e]
              _ = 2 * p * (q / 2) + p := by rw [Nat.mul_add, Nat.mul_one, ← Nat.mul_assoc, Nat.mul_comm p 2]
          omega
        have hy2 := B_lt (8 * p) y hy
        generalize B (8 * p) y = z at OF HE2 hy2
        clear ha h1 HE
        go_wp2_with fail
        refine Calls.mono OF.out ?_
        rintro e w3 ⟨rfl, hw3⟩
        have hw4 := hw3.symm
        subst hw4
        go_wp2_with fail
        refine Calls.mono TW.out ?_
        rintro e w3 ⟨rfl, hb3⟩
        have HW3 : Hid (Way w3 g (col p)) := by
          show w3.heap[g]? = _
          rw [hb3.block g (Array.getElem?_eq_some_iff.1 HW.out).1]
          exact HW.out
        have HB3 : Hid (Below w.heap.size w (w3.setRow g (cl (col (2 * p)) 32).toArray)) := below_setRow (HB.out.trans (hb3.mono HB.out.size)) HG.out _
        have HW4 : Hid (Way (w3.setRow g (cl (col (2 * p)) 32).toArray) g (col (2 * p))) := setRow_heap w3 g _ _ _ _ HW3.out
        clear hb3
        go_wp2_with (first
          | refine wpList_store_row rfl 39 _ _ rfl g (cl (col (2 * p)) 32).toArray rfl rfl 39 _ HW3.out (hi39 _ _) (by simp [cl_length]) (cl_one (col (2 * p)) 32) ?_)
        go_roundw
        case rel => exact ⟨2 * p, q / 2, z, rfl, rfl, hy2, HQ2, HE2, HW4, HB3⟩
        case measure => exact half q hq
      · have hb : (bits BinOp.and IntKind.i64 (q : Int) 1 == 1) = false := by rw [ha, show q % 2 = 0 by omega]; rfl
        have HE2 : Hid (B (8 * (2 * p * (q / 2))) y = B (8 * m) s) := by
          show _ = _
          rw [← HE.out]
          congr 1
          have e := Nat.div_add_mod q 2
          rw [show q % 2 = 0 by omega] at e
          have e2 : p * q = 2 * p * (q / 2) := by
            calc p * q = p * (2 * (q / 2) + 0) := by rw [e]
              _ = 2 * p * (q / 2) := by rw [Nat.add_zero, ← Nat.mul_assoc, Nat.mul_comm p 2]
          omega
        clear ha h1 HE
        go_wp2_with fail
        refine Calls.mono TW.out ?_
        rintro e w3 ⟨rfl, hb3⟩
        have HW3 : Hid (Way w3 g (col p)) := by
          show w3.heap[g]? = _
          rw [hb3.block g (Array.getElem?_eq_some_iff.1 HW.out).1]
          exact HW.out
        have HB3 : Hid (Below w.heap.size w (w3.setRow g (cl (col (2 * p)) 32).toArray)) := below_setRow (HB.out.trans (hb3.mono HB.out.size)) HG.out _
        have HW4 : Hid (Way (w3.setRow g (cl (col (2 * p)) 32).toArray) g (col (2 * p))) := setRow_heap w3 g _ _ _ _ HW3.out
        clear hb3
        go_wp2_with (first
          | refine wpList_store_row rfl 39 _ _ rfl g (cl (col (2 * p)) 32).toArray rfl rfl 39 _ HW3.out (hi39 _ _) (by simp [cl_length]) (cl_one (col (2 * p)) 32) ?_)
        go_roundw
        case rel => exact ⟨2 * p, q / 2, y, rfl, rfl, hy, HQ2, HE2, HW4, HB3⟩
        case measure => exact half q hq
    · obtain rfl : q = 0 := by omega
      go_wp2
      go_ret
      exact ⟨by rw [← HE.out]; rfl, HB.out⟩
theorem zeros_calls (s : Nat) (hs : s < 4294967296) (n : Int) (w : World) :
    Calls Tryd.prog 12 #[.int .u32 (s : Int), .int .i64 n] w fun e w' => e = .returned (.int .u32 ((zer s n : Nat) : Int)) ∧ Below w.heap.size w w' := by
  by_cases h1 : n < 0
  · rw [zer_out s n (Or.inl h1)]
    go_enter Tryd.func12, Tryd.ntmps12
    go_wp2
    go_ret
    exact ⟨rfl, Below.refl _ _⟩
  by_cases h2 : 1048576 < n
  · rw [zer_out s n (Or.inr h2)]
    go_enter Tryd.func12, Tryd.ntmps12
    go_wp2
    go_ret
    exact ⟨rfl, Below.refl _ _⟩
  obtain ⟨m, rfl⟩ := Int.eq_ofNat_of_zero_le (show 0 ≤ n by omega)
  rw [zer_in s m (by omega)]
  exact zeros_in s hs m (by omega) w
theorem join_calls (s t : Nat) (hs : s < 4294967296) (ht : t < 4294967296) (n : Int) (w : World) :
    Calls Tryd.prog 14 #[.int .u32 (s : Int), .int .u32 (t : Int), .int .i64 n] w fun e w' => e = .returned (.int .u32 ((zer s n ^^^ t : Nat) : Int)) ∧ Below w.heap.size w w' := by
  have HC : Hid (Calls _ _ _ _ _) := zeros_calls s hs n w
  have HX := xorN (zer s n) t (zer_lt s n hs) ht
  go_enter Tryd.func14, Tryd.ntmps14
  go_wp2_with fail
  refine Calls.mono HC.out ?_
  rintro e w1 ⟨rfl, hb1⟩
  have HB : Hid (Below w.heap.size w w1) := hb1
  clear hb1
  go_wp2
  go_ret
  exact ⟨rfl, HB.out⟩
theorem Tb.below {w w' : World} {n : Nat} (h : Tb w) (hb : Below n w w') (hn : 0 < n) : Tb w' := fun i hi => by rw [hb.cell (p := ⟨0, i, none⟩) hn]; exact h i hi
theorem Tb.size {w : World} (h : Tb w) : 0 < w.heap.size := by
  have := h 0 (by omega)
  unfold World.cell? at this
  cases hq : w.heap[0]? with
  | none => simp [hq] at this
  | some o => exact (Array.getElem?_eq_some_iff.1 hq).1
theorem holds_mark (w : World) : Lib.HoldsBytes (w.alloc (.cells #[.int .u8 49, .int .u8 50, .int .u8 51, .int .u8 52, .int .u8 53, .int .u8 54, .int .u8 55, .int .u8 56, .int .u8 57] 5 (9, 10))) (.slice (some ⟨w.heap.size, 0, none⟩) 9 9) [49, 50, 51, 52, 53, 54, 55, 56, 57] := by
  refine ⟨some ⟨w.heap.size, 0, none⟩, 9, rfl, (fun h => by cases h), ?_⟩
  intro a ha i x hx
  cases ha
  rw [add_plain, Nat.zero_add, cell_of_row _ _ i _ 5 (9, 10) (row_last _ _)]
  match i, hx with
  | 0, hx => cases hx; rfl
  | 1, hx => cases hx; rfl
  | 2, hx => cases hx; rfl
  | 3, hx => cases hx; rfl
  | 4, hx => cases hx; rfl
  | 5, hx => cases hx; rfl
  | 6, hx => cases hx; rfl
  | 7, hx => cases hx; rfl
  | 8, hx => cases hx; rfl
  | i + 9, hx => simp at hx
theorem nine : more 0 [49, 50, 51, 52, 53, 54, 55, 56, 57] = 3808858755 := by decide +kernel
theorem awake_calls (w : World) (ht : Tb w) : Calls Tryd.prog 11 #[] w fun e w' => e = .returned (.bool true) ∧ Below w.heap.size w w' := by
  have kc := fun (w : World) (C : Array Value) (n c : Nat) => Lib.run_convert_bytes_const (P := Tryd.prog) w 22 5 C n c Tryd.underlying22 Tryd.underlying5
  have HB : Hid (∀ o, Below w.heap.size w (w.alloc o)) := fun o => (Below.refl _ w).alloc (Nat.le_refl _) _
  have HC : Hid (Calls _ _ _ _ _) := sum_calls _ _ _ (holds_mark w) (ht.below (HB.out _) ht.size) (by simp)
  rw [nine] at HC
  clear ht
  go_enter Tryd.func11, Tryd.ntmps11
  go_wp2_with fail
  refine Calls.mono HC.out ?_
  rintro e w1 ⟨rfl, hw1⟩
  have hw2 := hw1.symm
  subst hw2
  go_wp2
  go_ret
  exact ⟨rfl, HB.out _⟩
end Go.Proofs.YtlcceogjoghdoaaDoor
