/- The remainder's arithmetic: a bit's step is linear, four steps by a table, powers by columns. -/
import Derived.Test.YthakbkkopneilaaDoorRows
namespace Go.Proofs.YthakbkkopneilaaDoor
/-- A remainder behind a bit 0. -/
def bitN (s : Nat) : Nat := if s % 2 = 1 then s / 2 ^^^ 2197175160 else s / 2
theorem bitN_lt (s : Nat) (h : s < 4294967296) : bitN s < 4294967296 := by
  unfold bitN
  split
  · exact Nat.xor_lt_two_pow (n := 32) (by omega) (by omega)
  · omega
theorem bitN_xor (a b : Nat) : bitN (a ^^^ b) = bitN a ^^^ bitN b := by
  have hm := Nat.xor_mod_two_eq_one (a := a) (b := b)
  have hd : (a ^^^ b) / 2 = a / 2 ^^^ b / 2 := by
    have := Nat.shiftRight_xor_distrib (a := a) (b := b) (i := 1)
    simpa [Nat.shiftRight_eq_div_pow] using this
  unfold bitN
  rw [hd]
  by_cases ha : a % 2 = 1 <;> by_cases hb : b % 2 = 1
  · rw [if_neg (by rw [hm]; simp [ha, hb]), if_pos ha, if_pos hb]
    rw [Nat.xor_assoc, Nat.xor_comm 2197175160, Nat.xor_assoc, Nat.xor_self, Nat.xor_zero]
  · rw [if_pos (by rw [hm]; simp [ha, hb]), if_pos ha, if_neg hb]
    rw [Nat.xor_assoc, Nat.xor_assoc, Nat.xor_comm (b / 2)]
  · rw [if_pos (by rw [hm]; simp [ha, hb]), if_neg ha, if_pos hb]
    rw [Nat.xor_assoc]
  · rw [if_neg (by rw [hm]; simp [ha, hb]), if_neg ha, if_neg hb]
theorem bitN_double (q : Nat) : bitN (2 * q) = q := by
  unfold bitN
  rw [if_neg (by omega)]
  omega
/-- Behind k bits 0. -/
def B : Nat → Nat → Nat
  | 0, s => s
  | k + 1, s => B k (bitN s)
theorem B_lt (k s : Nat) (h : s < 4294967296) : B k s < 4294967296 := by
  induction k generalizing s with
  | zero => exact h
  | succ k ih => exact ih _ (bitN_lt s h)
theorem B_xor (k a b : Nat) : B k (a ^^^ b) = B k a ^^^ B k b := by
  induction k generalizing a b with
  | zero => rfl
  | succ k ih => show B k (bitN (a ^^^ b)) = _; rw [bitN_xor, ih]; rfl
theorem B_add (j k s : Nat) : B (j + k) s = B k (B j s) := by
  induction j generalizing s with
  | zero => simp [B]
  | succ j ih => rw [show j + 1 + k = (j + k) + 1 by omega]; exact ih _
theorem B_snoc (k s : Nat) : B (k + 1) s = bitN (B k s) := by
  rw [B_add]; rfl
theorem B_zero (k : Nat) : B k 0 = 0 := by
  induction k with
  | zero => rfl
  | succ k ih => exact ih
/-- What the low four bits add. -/
def tab : List Int := [0, 274646895, 549293790, 820201905, 1098587580, 1361435347, 1640403810, 1905808397, 2197175160, 2460548119, 2722870694, 2987750089, 3280807620, 3553878443, 3811616794, 4084100981]
theorem tab_B : ∀ l : Nat, l < 16 → tab.getD l 0 = (B 4 l : Int) := by decide +kernel
theorem B4 (s : Nat) : B 4 s = s / 16 ^^^ B 4 (s % 16) := by
  have e : s = (2 * (2 * (2 * (2 * (s / 16))))) ^^^ (s % 16) := by
    have := Nat.shiftLeft_add_eq_or_of_lt (i := 4) (b := s % 16) (by omega) (s / 16)
    have h2 : (s / 16) <<< 4 ||| s % 16 = (s / 16) <<< 4 ^^^ s % 16 := by
      apply Nat.eq_of_testBit_eq
      intro i
      rw [Nat.testBit_or, Nat.testBit_xor, Nat.testBit_shiftLeft]
      by_cases hi : i < 4
      · rw [decide_eq_false (by omega)]; simp
      · have : (s % 16).testBit i = false := Nat.testBit_lt_two_pow (Nat.lt_of_lt_of_le (Nat.mod_lt s (by decide)) (by
          show 2 ^ 4 ≤ 2 ^ i
          exact Nat.pow_le_pow_right (by decide) (by omega)))
        rw [this]; simp
    rw [h2, Nat.shiftLeft_eq] at this
    rw [show 2 * (2 * (2 * (2 * (s / 16)))) = s / 16 * 2 ^ 4 by omega, ← this]
    omega
  have e2 : B 4 s = B 4 ((2 * (2 * (2 * (2 * (s / 16))))) ^^^ (s % 16)) := congrArg _ e
  rw [e2, B_xor]
  congr 1
  show bitN (bitN (bitN (bitN _))) = _
  simp only [bitN_double]
/-- One byte's step by the table is eight bits' steps. -/
theorem B8 (s : Nat) : (s / 16 ^^^ B 4 (s % 16)) / 16 ^^^ B 4 ((s / 16 ^^^ B 4 (s % 16)) % 16) = B 8 s := by
  rw [← B4 s, ← B4 (B 4 s), ← B_add]
/-- Behind bytes. -/
def R (s : Nat) (l : List UInt8) : Nat := l.foldl (fun a b => B 8 (a ^^^ b.toNat)) s
theorem R_lt (s : Nat) (l : List UInt8) (h : s < 4294967296) : R s l < 4294967296 := by
  induction l generalizing s with
  | nil => exact h
  | cons b r ih =>
    have hb := b.toNat_lt
    exact ih _ (B_lt _ _ (Nat.xor_lt_two_pow (n := 32) (by omega) (by omega)))
theorem R_snoc (s : Nat) (l : List UInt8) (b : UInt8) : R s (l ++ [b]) = B 8 (R s l ^^^ b.toNat) := by simp [R]
theorem R_append (s : Nat) (l m : List UInt8) : R s (l ++ m) = R (R s l) m := by simp [R]
theorem R_xor (a b : Nat) (l : List UInt8) : R (a ^^^ b) l = R a l ^^^ B (8 * l.length) b := by
  induction l generalizing a b with
  | nil => rfl
  | cons c r ih =>
    show R (B 8 (a ^^^ b ^^^ c.toNat)) r = R (B 8 (a ^^^ c.toNat)) r ^^^ _
    rw [show a ^^^ b ^^^ c.toNat = (a ^^^ c.toNat) ^^^ b by rw [Nat.xor_assoc, Nat.xor_comm b, Nat.xor_assoc], B_xor, ih, ← B_add]
    congr 2
    simp; omega
def more (s : Nat) (l : List UInt8) : Nat := R (s ^^^ 4294967295) l ^^^ 4294967295
theorem more_lt (s : Nat) (l : List UInt8) (h : s < 4294967296) : more s l < 4294967296 :=
  Nat.xor_lt_two_pow (n := 32) (R_lt _ _ (Nat.xor_lt_two_pow (n := 32) h (by omega))) (by omega)
theorem more_append (s : Nat) (l m : List UInt8) : more s (l ++ m) = more (more s l) m := by
  unfold more
  rw [R_append, Nat.xor_assoc, Nat.xor_self, Nat.xor_zero]
theorem join_sum (l m : List UInt8) : B (8 * m.length) (more 0 l) ^^^ more 0 m = more 0 (l ++ m) := by
  rw [more_append]
  show _ = R (more 0 l ^^^ 4294967295) m ^^^ 4294967295
  rw [Nat.xor_comm (more 0 l), R_xor, show more 0 m = R 4294967295 m ^^^ 4294967295 by simp [more]]
  rw [Nat.xor_comm (R 4294967295 m) (B _ _), Nat.xor_assoc]
theorem not_xor (s : Nat) (h : s < 4294967296) : s ^^^ 4294967295 = 4294967295 - s := by
  apply Nat.eq_of_testBit_eq
  intro i
  have h32 : s < 2 ^ 32 := by simpa using h
  have e1 := Nat.testBit_two_pow_sub_succ h32 i
  have e2 := Nat.testBit_two_pow_sub_one 32 i
  rw [show (4294967295 : Nat) - s = 2 ^ 32 - (s + 1) by omega, e1, Nat.testBit_xor, show (4294967295 : Nat) = 2 ^ 32 - 1 by rfl, e2]
  by_cases hi : i < 32
  · simp [hi]
  · have : s.testBit i = false := Nat.testBit_lt_two_pow (Nat.lt_of_lt_of_le h32 (Nat.pow_le_pow_right (by decide) (by omega)))
    simp [hi, this]
/-- A number by its bits, from the lowest on: the first k of them, each through f. -/
def ofN (f : Nat → Nat) (r : Nat) : Nat → Nat
  | 0 => 0
  | k + 1 => if r / 2 ^ k % 2 = 1 then ofN f r k ^^^ f k else ofN f r k
theorem ofN_lin (g : Nat → Nat) (hx : ∀ a b, g (a ^^^ b) = g a ^^^ g b) (h0 : g 0 = 0) (r k : Nat) : ofN (fun i => g (2 ^ i)) r k = g (r % 2 ^ k) := by
  induction k with
  | zero => simp [ofN, Nat.mod_one, h0]
  | succ k ih =>
    rw [ofN, ih]
    have e : r % 2 ^ (k + 1) = r % 2 ^ k + 2 ^ k * (r / 2 ^ k % 2) := by
      rw [Nat.pow_succ, Nat.mod_mul]
    have hlt : r % 2 ^ k < 2 ^ k := Nat.mod_lt _ (Nat.pow_pos (by decide))
    split
    · rename_i h
      rw [← hx]
      congr 1
      rw [e, h, Nat.mul_one]
      have h1 := Nat.two_pow_add_eq_or_of_lt hlt 1
      have h2 : 2 ^ k * 1 ||| r % 2 ^ k = 2 ^ k ^^^ r % 2 ^ k := by
        rw [Nat.mul_one]
        apply Nat.eq_of_testBit_eq
        intro i
        rw [Nat.testBit_or, Nat.testBit_xor, Nat.testBit_two_pow]
        by_cases hi : k = i
        · subst hi
          rw [Nat.testBit_lt_two_pow hlt]; simp
        · simp [hi]
      rw [Nat.xor_comm, ← h2, ← h1]
      omega
    · rename_i h
      rw [e, show r / 2 ^ k % 2 = 0 by omega]
      simp
theorem ofN_B (k r : Nat) (h : r < 4294967296) : ofN (fun i => B k (2 ^ i)) r 32 = B k r := by
  rw [ofN_lin (B k) (B_xor k) (B_zero k), Nat.mod_eq_of_lt (by simpa using h)]
theorem ofN_lt (f : Nat → Nat) (r : Nat) (k : Nat) (hf : ∀ i, i < k → f i < 4294967296) : ofN f r k < 4294967296 := by
  induction k with
  | zero => simp [ofN]
  | succ k ih =>
    rw [ofN]
    have := ih (fun i hi => hf i (by omega))
    split
    · exact Nat.xor_lt_two_pow (n := 32) (by omega) (hf k (by omega))
    · exact this
end Go.Proofs.YthakbkkopneilaaDoor
