/- The contracts of the reference: More, Sum, Zeros, Join; and of the program's Sum. -/
import Derived.Test.YthakbkkopneilaaDoorC
namespace Go.Proofs.YthakbkkopneilaaDoor
open Go.ChangeShapes Go.WideShapes Go.ChangeAt Go.RowKit
theorem rmore_calls (s : Nat) (hs : s < 4294967296) (v : Value) (l : List UInt8) (w : World) (hv : Lib.HoldsBytes w v l) (hl : l.length ≤ 9223372036854775807) :
    Calls Tryd.prog 70 #[.int .u32 (s : Int), v] w fun e w' => e = .returned (.int .u32 ((more s l : Nat) : Int)) ∧ w' = w := by
  obtain ⟨p, cap, rfl, h1, h2⟩ := hv
  have HN : bits BinOp.xor IntKind.u32 (s : Int) 4294967295 = ((s ^^^ 4294967295 : Nat) : Int) := xorN s 4294967295 hs (by omega)
  have h0 : s ^^^ 4294967295 < 4294967296 := Nat.xor_lt_two_pow (n := 32) hs (by omega)
  have HM : Hid (more s l = R (s ^^^ 4294967295) l ^^^ 4294967295) := (rfl : more s l = _)
  have HL : Hid (∀ j, R (s ^^^ 4294967295) (l.take j) < 4294967296) := fun j => R_lt _ _ h0
  generalize s ^^^ 4294967295 = s0 at HN h0 HM HL
  have HC : Hid (∀ (i : Nat) x, l[i]? = some x → ∃ a, p = some a ∧ w.cell? (a.add i) = some (.int .u8 (x.toNat : Int))) := by
    intro i x hx
    cases p with
    | none => rw [h1 rfl] at hx; cases hx
    | some a => exact ⟨a, rfl, h2 a rfl i x hx⟩
  have HG : Hid (l.length ≤ 9223372036854775807) := hl
  clear h1 h2 hl
  go_enter Tryd.func70, Tryd.ntmps70
  go_wp2
  go_loop [0, 5] (fun r i => ∃ j : Nat, j ≤ l.length ∧ i = .int .i64 j ∧ r = .int .u32 ((R s0 (l.take j) : Nat) : Int)) (fun _ i => l.length - (intOf i).toNat)
  case atStart => exact ⟨0, Nat.zero_le _, rfl, rfl⟩
  case round =>
    obtain ⟨j, hj, rfl, rfl⟩ := hrel
    by_cases hlt : j < l.length
    · have hx : l[j]? = some l[j] := List.getElem?_eq_getElem hlt
      generalize l[j] = b at hx
      obtain ⟨a, hp, hcell⟩ := HC.out j b hx
      subst hp
      have hr := HL.out j
      have HS : Hid (R s0 (l.take (j + 1)) = B 8 (R s0 (l.take j) ^^^ b.toNat)) := R_take s0 l j b hx
      generalize R s0 (l.take j) = r at hr HS
      have hb := b.toNat_lt
      have e1 : bits BinOp.xor IntKind.u32 (r : Int) (b.toNat : Int) = ((r ^^^ b.toNat : Nat) : Int) := xorN _ _ hr (by omega)
      have hx0 : r ^^^ b.toNat < 4294967296 := Nat.xor_lt_two_pow (n := 32) (by omega) (by omega)
      generalize r ^^^ b.toNat = x at e1 HS hx0
      have hg := HG.out
      have HJ : Hid (j < l.length) := hlt
      have hw : wrap64 ((j : Int) + 1) = (j : Int) + 1 := wrap_ok j (Nat.lt_of_lt_of_le hlt hg)
      clear hg
      go_wp2
      go_loop [0, 6] (fun y k => ∃ m : Nat, m ≤ 8 ∧ k = .int .i64 m ∧ y = .int .u32 ((B m x : Nat) : Int)) (fun _ k => 8 - (intOf k).toNat)
      case atStart => exact ⟨0, Nat.zero_le _, rfl, by first | rfl | (rw [e1]; rfl)⟩
      case round =>
        obtain ⟨m, hm, rfl, rfl⟩ := hrel
        by_cases hm8 : m < 8
        · have hB := B_lt m x hx0
          have HB : Hid (bitN (B m x) = B (m + 1) x) := (B_snoc m x).symm
          generalize B m x = y at hB HB
          go_wp2_with fail
          refine (bit_calls y hB _).mono ?_
          rintro e w1 ⟨rfl, hw1⟩
          have hw2 := hw1.symm
          subst hw2
          rw [HB.out]
          go_wp2
          go_round
          case rel => exact ⟨m + 1, hm8, rfl, rfl⟩
          case measure => exact meas _ _ hm8
        · obtain rfl : m = 8 := by omega
          rw [← HS.out]
          go_wp2
          go_round
          case rel => exact ⟨j + 1, HJ.out, by first | rfl | (rw [hw]; rfl), rfl⟩
          case measure => rw [hw]; exact meas _ _ HJ.out
    · obtain rfl : j = l.length := by omega
      have hr := HL.out l.length
      rw [List.take_length] at hr ⊢
      have h9 : bits BinOp.xor IntKind.u32 (R s0 l : Int) 4294967295 = ((R s0 l ^^^ 4294967295 : Nat) : Int) := xorN _ 4294967295 hr (by omega)
      rw [← HM.out] at h9
      go_wp2
      go_ret
      exact ⟨rfl, rfl⟩
theorem sum_calls (v : Value) (l : List UInt8) (w : World) (hv : Lib.HoldsBytes w v l) (ht : Tb w) (hl : l.length ≤ 9223372036854775807) :
    Calls Tryd.prog 46 #[v] w fun e w' => e = .returned (.int .u32 ((more 0 l : Nat) : Int)) ∧ w' = w := by
  have HC : Hid (Calls _ _ _ _ _) := more_calls 0 (by omega) v l w hv ht hl
  clear hv ht hl
  go_enter Tryd.func46, Tryd.ntmps46
  go_wp2_with fail
  refine Calls.mono HC.out ?_
  rintro e w1 ⟨rfl, hw1⟩
  have hw2 := hw1.symm
  subst hw2
  go_wp2
  go_ret
  exact ⟨rfl, rfl⟩
theorem rsum_calls (v : Value) (l : List UInt8) (w : World) (hv : Lib.HoldsBytes w v l) (hl : l.length ≤ 9223372036854775807) :
    Calls Tryd.prog 64 #[v] w fun e w' => e = .returned (.int .u32 ((more 0 l : Nat) : Int)) ∧ w' = w := by
  have HC : Hid (Calls _ _ _ _ _) := rmore_calls 0 (by omega) v l w hv hl
  clear hv hl
  go_enter Tryd.func64, Tryd.ntmps64
  go_wp2_with fail
  refine Calls.mono HC.out ?_
  rintro e w1 ⟨rfl, hw1⟩
  have hw2 := hw1.symm
  subst hw2
  go_wp2
  go_ret
  exact ⟨rfl, rfl⟩
end Go.Proofs.YthakbkkopneilaaDoor
