/- The contracts of the keys: Row, Branch, digits, in both texts, and of awake. -/
import Derived.Test.YtglnklghhjdjbaaDoorB
import Derived.Test.YtglnklghhjdjbaaDoorShelf
namespace Go.Proofs.YtglnklghhjdjbaaDoor
open Go.ChangeShapes Go.WideShapes Go.ChangeAt Go.RowKit
theorem below_step {a b c : World} (h : Below a.heap.size a b) (k : Below b.heap.size b c) : Below a.heap.size a c := h.trans (k.mono h.size)
theorem below_more (w : World) (k : Nat) (os : Array Obj) : Below w.heap.size w (Go.Sort.grow (w.drewN k) os) :=
  ⟨rfl, rfl, rfl, by simp [Go.Sort.grow], fun i hi => by simp [Go.Sort.grow, Array.getElem?_append_left hi]⟩
/-- A number's digits, as a text. -/
def dg (n : Nat) : ByteArray := ⟨(Lib.decDigits n).toArray⟩
/-- The table of powers lies where the program has it. -/
def Tb (w : World) : Prop := Lib.TabIs Tryd.prog w "internal/strconv.uint64pow10" .u64 Lib.pow10Tab
theorem itoa_calls (n : Nat) (hn : n < 9223372036854775808) (w : World) (ht : Tb w) : Calls Tryd.prog 23 #[.int .i64 (n : Int)] w fun e w' => e = .returned (.string (dg n)) ∧ Below w.heap.size w w' := by
  refine (Tryd.strconv_Itoa (n : Int) (by omega) (by omega) w ht).mono ?_
  rintro e w' ⟨rfl, k, os, rfl⟩
  refine ⟨?_, below_more w k os⟩
  have : Lib.itoa (n : Int) = Lib.decDigits n := by unfold Lib.itoa; rw [if_neg (by omega)]; rfl
  rw [this]
  rfl
theorem itoa_small (n : Nat) (hn : n < 100) (w : World) : Calls Tryd.prog 23 #[.int .i64 (n : Int)] w fun e w' => e = .returned (.string (dg n)) ∧ w' = w := Tryd.strconv_Itoa_small n hn w
theorem row_calls (s : ByteArray) (hs : s.size ≤ 140737488351232) (w : World) : Calls Tryd.prog 12 #[.string s] w fun e w' => e = .returned (.string (⟨#[119, 47]⟩ ++ s)) ∧ w' = w := by
  go_enter Tryd.func12, Tryd.ntmps12
  go_wp2
  go_ret
  exact ⟨rfl, rfl⟩
theorem rrow_calls (s : ByteArray) (hs : s.size ≤ 140737488351232) (w : World) : Calls Tryd.prog 13 #[.string s] w fun e w' => e = .returned (.string (⟨#[119, 47]⟩ ++ s)) ∧ w' = w := by
  go_enter Tryd.func13, Tryd.ntmps13
  go_wp2
  go_ret
  exact ⟨rfl, rfl⟩
/-- The key of a run's history. -/
def br (s : ByteArray) (n : Nat) : ByteArray := ⟨#[104, 47]⟩ ++ s ++ ⟨#[47]⟩ ++ dg n
theorem dg_len (k n : Nat) (h : n < 10 ^ (k + 1)) : (Lib.decDigits n).length ≤ k + 1 := by
  induction k generalizing n with
  | zero =>
    rw [Lib.decDigits, dif_pos (by simpa using h)]
    simp
  | succ k ih =>
    rw [Lib.decDigits]
    split
    · simp
    · have hd : n / 10 < 10 ^ (k + 1) := by
        rw [Nat.pow_succ] at h
        exact Nat.div_lt_of_lt_mul (by rw [Nat.mul_comm]; exact h)
      have := ih (n / 10) hd
      simp
      omega
theorem dg_size (n : Nat) (h : n < 9223372036854775808) : (dg n).size ≤ 19 := by
  have := dg_len 18 n (by omega)
  show (Lib.decDigits n).toArray.size ≤ 19
  simpa using this
theorem branch_pos (s : ByteArray) (hs : s.size ≤ 140737488351232) (n : Nat) (hd : (dg n).size ≤ 19) (w : World) (P : Ending → World → Prop) (hc : Calls Tryd.prog 23 #[.int .i64 (n : Int)] w fun e w' => e = .returned (.string (dg n)) ∧ P (.returned (.string (br s n))) w') (m : Int) (hm : max m 0 = (n : Int)) :
    Calls Tryd.prog 14 #[.string s, .int .i64 m] w P := by
  have HC : Hid (Calls _ _ _ _ _) := hc
  have HR : Hid (br s n = ⟨#[104, 47]⟩ ++ s ++ ⟨#[47]⟩ ++ dg n) := (rfl : br s n = _)
  clear hc
  generalize dg n = d at hd HC HR
  have hs2 : ((⟨#[104, 47]⟩ : ByteArray) ++ s ++ ⟨#[47]⟩).size ≤ 140737488351300 := by
    rw [ByteArray.size_append, ByteArray.size_append]
    show 2 + s.size + 1 ≤ _
    omega
  generalize br s n = b at HC HR
  go_enter Tryd.func14, Tryd.ntmps14
  go_wp2_with fail
  refine Calls.mono HC.out ?_
  rintro e w1 ⟨rfl, hP⟩
  rw [HR.out] at hP
  have HP : Hid (P (.returned _) w1) := hP
  clear hP
  go_wp2
  exact HP.out
theorem branch_calls (s : ByteArray) (hs : s.size ≤ 140737488351232) (n : Nat) (hn : n < 9223372036854775808) (w : World) (ht : Tb w) (m : Int) (hm : max m 0 = (n : Int)) :
    Calls Tryd.prog 14 #[.string s, .int .i64 m] w fun e w' => e = .returned (.string (br s n)) ∧ Below w.heap.size w w' :=
  branch_pos s hs n (dg_size n hn) w _ ((itoa_calls n hn w ht).mono fun _ _ h => ⟨h.1, rfl, h.2⟩) m hm
theorem branch_small (s : ByteArray) (hs : s.size ≤ 140737488351232) (n : Nat) (hn : n < 100) (w : World) :
    Calls Tryd.prog 14 #[.string s, .int .i64 (n : Int)] w fun e w' => e = .returned (.string (br s n)) ∧ w' = w :=
  branch_pos s hs n (dg_size n (by omega)) w _ ((itoa_small n hn w).mono fun _ _ h => ⟨h.1, rfl, h.2⟩) n (by omega)
theorem one_byte (w : World) (c : Nat) (hc : c < 256) : (convert 40 9 (.slice (some ⟨w.heap.size, 0, none⟩) 1 1)).run Tryd.prog (w.alloc (.cells #[.int .u8 (c : Int)] 5)) = .ok (.string ⟨#[UInt8.ofNat c]⟩) (w.alloc (.cells #[.int .u8 (c : Int)] 5)) := by
  have h := run_convert_bytes_back (P := Tryd.prog) (w.alloc (.cells #[.int .u8 (c : Int)] 5)) 40 9 5 ⟨w.heap.size, 0, none⟩ 1 [UInt8.ofNat c] Tryd.underlying40 Tryd.underlying5 Tryd.underlying9 (fun j hj => by
    have h0 : j = 0 := by simpa using hj
    subst h0
    have hadd : (⟨w.heap.size, 0, none⟩ : Addr).add 0 = ⟨w.heap.size, 0, none⟩ := by unfold Addr.add; split <;> simp_all
    rw [hadd]
    simp
    omega)
  exact h
theorem digits_calls (n : Nat) : ∀ (w : World), n < 9223372036854775808 → Calls Tryd.prog 24 #[.int .i64 (n : Int)] w fun e w' => e = .returned (.string (dg n)) ∧ Below w.heap.size w w' := by
  induction n using Nat.strongRecOn with
  | ind n ih =>
    intro w hn
    have kc := one_byte w (48 + n % 10) (by omega)
    have ec : ((48 + n % 10 : Nat) : Int) = 48 + (n : Int) % 10 := by omega
    rw [ec] at kc
    have HB : Hid (Below w.heap.size w (w.alloc (.cells #[.int .u8 (48 + (n : Int) % 10)] 5))) := (Below.refl _ w).alloc (Nat.le_refl _) _
    by_cases h10 : n < 10
    · have HD : Hid (dg n = ⟨#[UInt8.ofNat (48 + n % 10)]⟩) := by
        show dg n = _
        unfold dg
        rw [Lib.decDigits, dif_pos h10, Nat.mod_eq_of_lt h10]
      have d1 : decide ((n : Int) < 10) = true := decide_eq_true (by omega)
      generalize UInt8.ofNat (48 + n % 10) = u at kc HD
      clear ih
      go_enter Tryd.func24, Tryd.ntmps24
      go_wp2
      go_ret
      exact ⟨by rw [HD.out]; rfl, HB.out⟩
    · have HD : Hid (dg n = dg (n / 10) ++ ⟨#[UInt8.ofNat (48 + n % 10)]⟩) := by
        show dg n = _
        unfold dg
        rw [Lib.decDigits, dif_neg h10]
        apply ByteArray.ext
        simp
      have IH : Hid (Calls _ _ _ _ _) := ih (n / 10) (by omega) (w.alloc (.cells #[.int .u8 (48 + (n : Int) % 10)] 5)) (by omega)
      have hsz := dg_size (n / 10) (by omega)
      have hdv : ((n / 10 : Nat) : Int) = (n : Int) / 10 := by omega
      rw [hdv] at IH
      generalize dg (n / 10) = d at IH HD hsz
      have d1 : decide ((n : Int) < 10) = false := decide_eq_false (by omega)
      generalize UInt8.ofNat (48 + n % 10) = u at kc HD
      clear ih
      go_enter Tryd.func24, Tryd.ntmps24
      go_wp2_with fail
      refine Calls.mono IH.out ?_
      rintro e w1 ⟨rfl, b1⟩
      have HB1 : Hid (Below w.heap.size w w1) := HB.out.trans (b1.mono HB.out.size)
      clear b1
      go_wp2
      go_ret
      exact ⟨by rw [HD.out]; rfl, HB1.out⟩
theorem rbranch_calls (s : ByteArray) (hs : s.size ≤ 140737488351232) (n : Nat) (hn : n < 9223372036854775808) (w : World) (m : Int) (hm : max m 0 = (n : Int)) :
    Calls Tryd.prog 15 #[.string s, .int .i64 m] w fun e w' => e = .returned (.string (br s n)) ∧ Below w.heap.size w w' := by
  have HC : Hid (Calls _ _ _ _ _) := digits_calls n w hn
  have HR : Hid (br s n = ⟨#[104, 47]⟩ ++ s ++ ⟨#[47]⟩ ++ dg n) := (rfl : br s n = _)
  have hd := dg_size n hn
  generalize dg n = d at hd HC HR
  generalize br s n = b at HR
  have hs2 : ((⟨#[104, 47]⟩ : ByteArray) ++ s ++ ⟨#[47]⟩).size ≤ 140737488351300 := by
    rw [ByteArray.size_append, ByteArray.size_append]
    show 2 + s.size + 1 ≤ _
    omega
  by_cases h0 : m < 0
  · have e0 : n = 0 := by omega
    subst e0
    have d0 : decide (m < 0) = true := decide_eq_true h0
    clear hm hn h0
    go_enter Tryd.func15, Tryd.ntmps15
    go_wp2_with fail
    refine Calls.mono HC.out ?_
    rintro e w1 ⟨rfl, b1⟩
    have HB : Hid (Below w.heap.size w w1) := b1
    clear b1
    go_wp2
    go_ret
    exact ⟨by rw [HR.out]; rfl, HB.out⟩
  · have e0 : m = (n : Int) := by omega
    subst e0
    have d0 : decide ((n : Int) < 0) = false := decide_eq_false h0
    clear hm hn h0
    go_enter Tryd.func15, Tryd.ntmps15
    go_wp2_with fail
    refine Calls.mono HC.out ?_
    rintro e w1 ⟨rfl, b1⟩
    have HB : Hid (Below w.heap.size w w1) := b1
    clear b1
    go_wp2
    go_ret
    exact ⟨by rw [HR.out]; rfl, HB.out⟩
theorem br_ten : br ⟨#[97, 46, 98]⟩ 10 = ⟨#[104, 47, 97, 46, 98, 47, 49, 48]⟩ := by decide +kernel
theorem nm_none : nmB ⟨#[]⟩ = false := by decide +kernel
theorem nm_a : nmB ⟨#[97]⟩ = true := by decide +kernel
theorem awake_calls (w : World) : Calls Tryd.prog 11 #[] w fun e w' => e = .returned (.bool true) ∧ w' = w := by
  have C1 : Hid (Calls _ _ _ _ _) := branch_small ⟨#[97, 46, 98]⟩ (by decide) 10 (by decide) w
  rw [br_ten] at C1
  have C2 : Hid (Calls _ _ _ _ _) := name_calls ⟨#[]⟩ w
  rw [nm_none] at C2
  have C3 : Hid (Calls _ _ _ _ _) := name_calls ⟨#[97]⟩ w
  rw [nm_a] at C3
  go_enter Tryd.func11, Tryd.ntmps11
  go_wp2_with fail
  refine Calls.mono C1.out ?_
  rintro e w1 ⟨rfl, hw1⟩
  have hw2 := hw1.symm
  subst hw2
  go_wp2_with fail
  refine Calls.mono C2.out ?_
  rintro e w1 ⟨rfl, hw1⟩
  have hw2 := hw1.symm
  subst hw2
  go_wp2_with fail
  refine Calls.mono C3.out ?_
  rintro e w1 ⟨rfl, hw1⟩
  have hw2 := hw1.symm
  subst hw2
  go_wp2
  go_ret
  exact ⟨rfl, rfl⟩
end Go.Proofs.YtglnklghhjdjbaaDoor
