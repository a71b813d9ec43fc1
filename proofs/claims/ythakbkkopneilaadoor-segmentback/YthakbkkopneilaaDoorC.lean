/- The contracts of a bit's step, of eight of them, and of More, in both texts. -/
import Derived.Test.YthakbkkopneilaaDoorM
import Derived.WalkKit
import Derived.WalkLawsBesides
import Derived.WalkSpells
import Derived.ProofKit
import Derived.OpenShut
import Derived.Below
import Derived.Lib.SlBuf
import Derived.Deep.LoopGhost
namespace Go.Proofs.YthakbkkopneilaaDoor
open Go.ChangeShapes Go.WideShapes Go.ChangeAt Go.RowKit
theorem xorN (a b : Nat) (ha : a < 4294967296) (hb : b < 4294967296) : bits BinOp.xor IntKind.u32 (a : Int) (b : Int) = ((a ^^^ b : Nat) : Int) := by
  rw [u32_xor _ _ (by omega) (by omega) (by omega) (by omega)]; rfl
theorem and1 (r : Nat) (hr : r < 4294967296) : bits BinOp.and IntKind.u32 (r : Int) 1 = ((r % 2 : Nat) : Int) := by
  rw [u32_and _ _ (by omega) (by omega) (by omega) (by omega)]
  simp [Nat.and_one_is_mod]
theorem bit_calls (s : Nat) (h : s < 4294967296) (w : World) : Calls Tryd.prog 73 #[.int .u32 (s : Int)] w fun e w' => e = .returned (.int .u32 ((bitN s : Nat) : Int)) ∧ w' = w := by
  by_cases h1 : s % 2 = 1
  · have hx : bits BinOp.xor IntKind.u32 ((s : Int) / 2) 2197175160 = ((bitN s : Nat) : Int) := by
      have := xorN (s / 2) 2197175160 (by omega) (by omega)
      unfold bitN
      rw [if_pos h1, ← this]
      rfl
    have HX : Hid (bits BinOp.xor IntKind.u32 ((s : Int) / 2) 2197175160 = ((bitN s : Nat) : Int)) := hx
    clear hx
    go_enter Tryd.func73, Tryd.ntmps73
    go_wp2
    go_ret
    exact ⟨congrArg (fun z => Ending.returned (Value.int IntKind.u32 z)) HX.out, rfl⟩
  · have hx : (s : Int) / 2 = ((bitN s : Nat) : Int) := by
      unfold bitN
      rw [if_neg h1]
      omega
    have HX : Hid ((s : Int) / 2 = ((bitN s : Nat) : Int)) := hx
    clear hx
    go_enter Tryd.func73, Tryd.ntmps73
    go_wp2
    go_ret
    exact ⟨congrArg (fun z => Ending.returned (Value.int IntKind.u32 z)) HX.out, rfl⟩
/-- The table of halves lies where the program has it. -/
def Tb (w : World) : Prop := ∀ i : Nat, i < 16 → w.cell? ⟨0, i, none⟩ = some (.int .u32 ((B 4 i : Nat) : Int))
theorem not_bits (s : Nat) (hs : s < 4294967296) : bits BinOp.xor IntKind.u32 IntKind.u32.max (s : Int) = ((s ^^^ 4294967295 : Nat) : Int) := by
  have h : IntKind.u32.max = ((4294967295 : Nat) : Int) := by decide
  rw [h, xorN _ _ (by omega) hs, Nat.xor_comm]
theorem and15 (x : Nat) (hx : x < 4294967296) : bits BinOp.and IntKind.u32 (x : Int) 15 = ((x % 16 : Nat) : Int) := by
  rw [u32_and _ _ (by omega) (by omega) (by omega) (by omega)]
  have := Nat.and_two_pow_sub_one_eq_mod x 4
  exact congrArg _ this
/-- A round's two looks, as the walk meets them. -/
theorem looks (w : World) (ht : Tb w) (r : Nat) (b : UInt8) (hr : r < 4294967296) : ∃ x q t y q2 t2 : Nat,
    bits BinOp.xor IntKind.u32 (r : Int) ((b.toNat : Int) % 4294967296) = (x : Int) ∧ bits BinOp.and IntKind.u32 (x : Int) 15 = (q : Int) ∧ q < 16 ∧ w.cell? ⟨0, q, none⟩ = some (.int .u32 (t : Int)) ∧
    bits BinOp.xor IntKind.u32 ((x : Int) / 16) (t : Int) = (y : Int) ∧ bits BinOp.and IntKind.u32 (y : Int) 15 = (q2 : Int) ∧ q2 < 16 ∧ w.cell? ⟨0, q2, none⟩ = some (.int .u32 (t2 : Int)) ∧
    bits BinOp.xor IntKind.u32 ((y : Int) / 16) (t2 : Int) = ((B 8 (r ^^^ b.toNat) : Nat) : Int) ∧ x < 4294967296 ∧ y < 4294967296 := by
  have hb := b.toNat_lt
  have hx : r ^^^ b.toNat < 4294967296 := Nat.xor_lt_two_pow (n := 32) (by omega) (by omega)
  obtain ⟨x, hxe⟩ : ∃ x, x = r ^^^ b.toNat := ⟨_, rfl⟩
  rw [← hxe] at hx ⊢
  have hB : B 4 (x % 16) < 4294967296 := B_lt _ _ (by omega)
  have hy : x / 16 ^^^ B 4 (x % 16) < 4294967296 := Nat.xor_lt_two_pow (n := 32) (by omega) (by omega)
  have h8 := B8 x
  obtain ⟨y, hye⟩ : ∃ y, y = x / 16 ^^^ B 4 (x % 16) := ⟨_, rfl⟩
  rw [← hye] at hy h8
  have hB2 : B 4 (y % 16) < 4294967296 := B_lt _ _ (by omega)
  refine ⟨x, x % 16, B 4 (x % 16), y, y % 16, B 4 (y % 16), ?_, and15 x hx, by omega, ht _ (by omega), ?_, and15 y hy, by omega, ht _ (by omega), ?_, hx, hy⟩
  · rw [show (b.toNat : Int) % 4294967296 = (b.toNat : Int) by omega, xorN _ _ hr (by omega), hxe]
  · rw [show (x : Int) / 16 = ((x / 16 : Nat) : Int) by omega, xorN _ _ (by omega) hB, hye]
  · rw [show (y : Int) / 16 = ((y / 16 : Nat) : Int) by omega, xorN _ _ (by omega) hB2, h8]
theorem R_take (s : Nat) (l : List UInt8) (j : Nat) (b : UInt8) (h : l[j]? = some b) : R s (l.take (j + 1)) = B 8 (R s (l.take j) ^^^ b.toNat) := by
  rw [List.take_add_one, h]
  exact R_snoc _ _ _
theorem wrap_ok (n : Nat) (h : n < 9223372036854775807) : wrap64 ((n : Int) + 1) = (n : Int) + 1 := by unfold wrap64; omega
theorem meas (L j : Nat) (h : j < L) : L - (intOf (.int .i64 ((j : Int) + 1))).toNat < L - (intOf (.int .i64 (j : Int))).toNat := by simp [intOf]; omega
theorem more_calls (s : Nat) (hs : s < 4294967296) (v : Value) (l : List UInt8) (w : World) (hv : Lib.HoldsBytes w v l) (ht : Tb w) (hl : l.length ≤ 9223372036854775807) :
    Calls Tryd.prog 61 #[.int .u32 (s : Int), v] w fun e w' => e = .returned (.int .u32 ((more s l : Nat) : Int)) ∧ w' = w := by
  obtain ⟨p, cap, rfl, h1, h2⟩ := hv
  have HN := not_bits s hs
  have h0 : s ^^^ 4294967295 < 4294967296 := Nat.xor_lt_two_pow (n := 32) hs (by omega)
  have HM : Hid (more s l = R (s ^^^ 4294967295) l ^^^ 4294967295) := (rfl : more s l = _)
  have HL : Hid (∀ j, R (s ^^^ 4294967295) (l.take j) < 4294967296) := fun j => R_lt _ _ h0
  generalize s ^^^ 4294967295 = s0 at HN h0 HM HL
  have HC : Hid (∀ (i : Nat) x, l[i]? = some x → ∃ a, p = some a ∧ w.cell? (a.add i) = some (.int .u8 (x.toNat : Int))) := by
    intro i x hx
    cases p with
    | none => rw [h1 rfl] at hx; cases hx
    | some a => exact ⟨a, rfl, h2 a rfl i x hx⟩
  have HT : Hid (Tb w) := ht
  have HG : Hid (l.length ≤ 9223372036854775807) := hl
  clear h1 h2 ht hl
  go_enter Tryd.func61, Tryd.ntmps61
  go_wp2
  go_loop [5, 12] (fun r i => ∃ j : Nat, j ≤ l.length ∧ i = .int .i64 j ∧ r = .int .u32 ((R s0 (l.take j) : Nat) : Int)) (fun _ i => l.length - (intOf i).toNat)
  case atStart => exact ⟨0, Nat.zero_le _, rfl, rfl⟩
  case round =>
    obtain ⟨j, hj, rfl, rfl⟩ := hrel
    by_cases hlt : j < l.length
    · have hx : l[j]? = some l[j] := List.getElem?_eq_getElem hlt
      generalize l[j] = b at hx
      obtain ⟨a, hp, hcell⟩ := HC.out j b hx
      subst hp
      have hr := HL.out j
      have HS : Hid (R s0 (l.take (j + 1)) = B 8 (R s0 (l.take j) ^^^ b.toNat)) := R_take s0 l j b hx
      generalize R s0 (l.take j) = r at hr HS
      obtain ⟨x, q, t, y, q2, t2, e1, e2, e3, e4, e5, e6, e7, e8, e9, e10, e11⟩ := looks w HT.out r b hr
      rw [← HS.out] at e9
      clear HS
      have hg := HG.out
      have HJ : Hid (j < l.length) := hlt
      have hw : wrap64 ((j : Int) + 1) = (j : Int) + 1 := wrap_ok j (Nat.lt_of_lt_of_le hlt hg)
      clear hg
      go_wp2
      go_round
      case rel => exact ⟨j + 1, HJ.out, by first | rfl | (rw [hw]; rfl), rfl⟩
      case measure => rw [hw]; exact meas _ _ HJ.out
    · obtain rfl : j = l.length := by omega
      have hr := HL.out l.length
      rw [List.take_length] at hr ⊢
      have h9 := not_bits _ hr
      rw [← HM.out] at h9
      go_wp2
      go_ret
      exact ⟨rfl, rfl⟩
end Go.Proofs.YthakbkkopneilaaDoor
