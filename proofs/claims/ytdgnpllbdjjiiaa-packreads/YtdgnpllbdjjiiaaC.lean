/- The contracts of bytes.Compare and of cmp.Compare; the bytes of numbers stand in their order (plain facts). -/
import Derived.Test.YtdgnpllbdjjiiaaE
import Derived.Lib.BytesEntry
import Derived.Laws.Externs
namespace Go.Proofs.Ytdgnpllbdjjiiaa
open Go.ChangeShapes Go.WideShapes Go.ChangeAt Go.RowKit
theorem bytes_run (w : World) (v : Value) (l : List UInt8) (h : Lib.HoldsBytes w v l) : (Extern.Bytes.bytesOf v).run Try.prog w = .ok ⟨l.toArray⟩ w := by
  obtain ⟨p, cap, rfl, h1, h2⟩ := h
  cases p with
  | none =>
    have : l = [] := h1 rfl
    subst this
    rfl
  | some a =>
    have hr := Lib.run_loadBytesX (P := Try.prog) w (Lib.numsL l) a .empty (fun j x hx => by
      unfold Lib.numsL at hx
      rw [List.getElem?_map] at hx
      obtain ⟨y, hy, rfl⟩ := Option.map_eq_some_iff.1 hx
      exact h2 a rfl j y hy)
    rw [Lib.numsL_length, Lib.bytesOf_numsL] at hr
    show (Extern.Bytes.loadBytes a l.length .empty).run Try.prog w = _
    rw [hr]
    congr 1
    apply ByteArray.ext
    show (#[] : Array UInt8) ++ l.toArray = l.toArray
    simp
theorem compare_run (w : World) (v1 v2 : Value) (l1 l2 : List UInt8) (h1 : Lib.HoldsBytes w v1 l1) (h2 : Lib.HoldsBytes w v2 l2) :
    (callFunc 53 #[v1, v2]).run Try.prog w = .ok (.value (.int .i64 (Lib.compareBytes l1 l2))) w := by
  rw [run_callFunc_extern Try.func53 (by kernel_rfl) (by kernel_rfl) (by kernel_rfl) (e := Extern.BytealgCompare.compare) (by kernel_rfl)]
  have hr : (Extern.BytealgCompare.compare #[v1, v2]).run Try.prog w = .ok (.int .i64 (Lib.compareBytes l1 l2)) w := by
    change Sem.run Try.prog (do pure (goInt (Extern.BytealgCompare.cmp (← Extern.Bytes.bytesOf v1) (← Extern.Bytes.bytesOf v2)))) w = _
    simp only [Sem.run_bind, Sem.run_pure, bytes_run w v1 l1 h1, bytes_run w v2 l2 h2, Result.andThen]
    rw [Lib.cmp_eq]
    rfl
  rw [hr]
  rfl
theorem compare_calls (v1 v2 : Value) (l1 l2 : List UInt8) (w : World) (h1 : Lib.HoldsBytes w v1 l1) (h2 : Lib.HoldsBytes w v2 l2) :
    Calls Try.prog 41 #[v1, v2] w fun e w' => e = .returned (.int .i64 (Lib.compareBytes l1 l2)) ∧ w' = w := by
  have hr := compare_run w v1 v2 l1 l2 h1 h2
  obtain ⟨p1, c1, rfl, a1, b1⟩ := h1
  obtain ⟨p2, c2, rfl, a2, b2⟩ := h2
  clear a1 b1 a2 b2
  go_enter Try.func41, Try.ntmps41
  go_wp2
  go_ret
  exact ⟨rfl, rfl⟩
/-- -1, 0 or 1, as a stands to b. -/
def cp (a b : Int) : Int := if a < b then -1 else if b < a then 1 else 0
theorem cmp_calls (a b : Int) (w : World) : Calls Try.prog 42 #[.int .i64 a, .int .i64 b] w fun e w' => e = .returned (.int .i64 (cp a b)) ∧ w' = w := by
  by_cases h1 : a < b
  · have hk : cp a b = -1 := by unfold cp; rw [if_pos h1]
    rw [hk]
    go_enter Try.func42, Try.ntmps42
    go_wp2
    go_ret
    exact ⟨rfl, rfl⟩
  · by_cases h2 : b < a
    · have hk : cp a b = 1 := by unfold cp; rw [if_neg h1, if_pos h2]
      rw [hk]
      go_enter Try.func42, Try.ntmps42
      go_wp2
      go_ret
      exact ⟨rfl, rfl⟩
    · have hk : cp a b = 0 := by unfold cp; rw [if_neg h1, if_neg h2]
      rw [hk]
      go_enter Try.func42, Try.ntmps42
      go_wp2
      go_ret
      exact ⟨rfl, rfl⟩
theorem be_mod (x k j : Nat) (h : k ≤ j) : be (x % 2 ^ (8 * j)) k = be x k := by
  induction k with
  | zero => rfl
  | succ k ih =>
    unfold be
    rw [ih (by omega)]
    congr 1
    have e : (2 ^ (8 * j) : Nat) = 2 ^ (8 * k) * 2 ^ (8 * (j - k)) := by rw [← Nat.pow_add]; congr 1; omega
    have e2 : (2 ^ (8 * (j - k)) : Nat) = 256 * 2 ^ (8 * (j - k - 1)) := by
      rw [show (256 : Nat) = 2 ^ 8 from rfl, ← Nat.pow_add]; congr 1; omega
    rw [e, Nat.mod_mul_right_div_self, e2]
    apply UInt8.toNat.inj
    rw [UInt8.toNat_ofNat', UInt8.toNat_ofNat']
    exact Nat.mod_mul_right_mod _ _ _
theorem byte_lt (a b : Nat) (ha : a < 256) (hb : b < 256) : (UInt8.ofNat a < UInt8.ofNat b) ↔ a < b := by
  rw [UInt8.lt_iff_toNat_lt, UInt8.toNat_ofNat', UInt8.toNat_ofNat']
  omega
theorem be_cmp (k x y : Nat) (hx : x < 2 ^ (8 * k)) (hy : y < 2 ^ (8 * k)) : Lib.compareBytes (be x k) (be y k) = cp x y := by
  induction k generalizing x y with
  | zero =>
    have h1 : x = 0 := by simpa using hx
    have h2 : y = 0 := by simpa using hy
    subst h1 h2
    rfl
  | succ k ih =>
    unfold be Lib.compareBytes
    have hp : 0 < 2 ^ (8 * k) := Nat.two_pow_pos _
    have ep : (2 ^ (8 * (k + 1)) : Nat) = 256 * 2 ^ (8 * k) := by rw [show (256 : Nat) = 2 ^ 8 from rfl, ← Nat.pow_add]; congr 1; omega
    rw [ep] at hx hy
    have bx : x / 2 ^ (8 * k) < 256 := Nat.div_lt_of_lt_mul (by rw [Nat.mul_comm]; exact hx)
    have by' : y / 2 ^ (8 * k) < 256 := Nat.div_lt_of_lt_mul (by rw [Nat.mul_comm]; exact hy)
    have i := ih (x % 2 ^ (8 * k)) (y % 2 ^ (8 * k)) (Nat.mod_lt _ hp) (Nat.mod_lt _ hp)
    rw [be_mod x k k (Nat.le_refl _), be_mod y k k (Nat.le_refl _)] at i
    rw [i]
    have dx := Nat.div_add_mod x (2 ^ (8 * k))
    have dy := Nat.div_add_mod y (2 ^ (8 * k))
    have mx := Nat.mod_lt x hp
    have my := Nat.mod_lt y hp
    simp only [byte_lt _ _ bx by', byte_lt _ _ by' bx]
    generalize x / 2 ^ (8 * k) = a at *
    generalize y / 2 ^ (8 * k) = b at *
    generalize x % 2 ^ (8 * k) = c at *
    generalize y % 2 ^ (8 * k) = d at *
    generalize 2 ^ (8 * k) = P at *
    unfold cp
    by_cases h1 : a < b
    · have : P * a + P ≤ P * b := by rw [← Nat.mul_succ]; exact Nat.mul_le_mul_left P h1
      rw [if_pos h1, if_pos (by omega)]
    · by_cases h2 : b < a
      · have : P * b + P ≤ P * a := by rw [← Nat.mul_succ]; exact Nat.mul_le_mul_left P h2
        rw [if_neg h1, if_pos h2, if_neg (by omega), if_pos (by omega)]
      · obtain rfl : a = b := by omega
        rw [if_neg h1, if_neg h2]
        by_cases h3 : c < d
        · rw [if_pos (by omega), if_pos (by omega)]
        · by_cases h4 : d < c
          · rw [if_neg (by omega), if_pos (by omega), if_neg (by omega), if_pos (by omega)]
          · rw [if_neg (by omega), if_neg (by omega), if_neg (by omega), if_neg (by omega)]
end Go.Proofs.Ytdgnpllbdjjiiaa
