/- Which events may be: parts, numLimits, within, isKind, numbersFit, nameFits, valueFits, policyFits, Check. -/
import Derived.Test.YtcdhlklmnnmpoaaGreatLA
import Derived.Test.YtcdhlklmnnmpoaaGreatMB
import Derived.Test.YtcdhlklmnnmpoaaGreatVK
namespace Go.Proofs.YtcdhlklmnnmpoaaGreat
open Go.ChangeShapes Go.WideShapes Go.ChangeAt Go.RowKit
/-- The bits of what a kind has. -/
def pt (k : Int) : Int := if k = 1 then 54 else if k = 7 ∨ k = 12 ∨ k = 13 then 20 else if k = 14 ∨ k = 15 then 16 else if k = 2 then 3 else if k = 3 then 2 else if k = 9 then 6 else if k = 10 ∨ k = 11 then 4 else if k = 5 then 9 else if k = 16 ∨ k = 18 then 8 else 0
theorem pt_set (k : Int) : pt k = 54 ∨ pt k = 20 ∨ pt k = 16 ∨ pt k = 3 ∨ pt k = 2 ∨ pt k = 6 ∨ pt k = 4 ∨ pt k = 9 ∨ pt k = 8 ∨ pt k = 0 := by
  unfold pt
  (repeat' split) <;> simp
def bt (p b : Int) : Bool := decide ((p / b) % 2 = 1)
def hN (k : Int) : Bool := bt (pt k) 1
theorem andN (k : Int) : bits BinOp.and IntKind.i64 (pt k) 1 = if hN k then 1 else 0 := by
  unfold hN
  rcases pt_set k with h | h | h | h | h | h | h | h | h | h <;> rw [h] <;> decide +kernel
def hD (k : Int) : Bool := bt (pt k) 2
theorem andD (k : Int) : bits BinOp.and IntKind.i64 (pt k) 2 = if hD k then 2 else 0 := by
  unfold hD
  rcases pt_set k with h | h | h | h | h | h | h | h | h | h <;> rw [h] <;> decide +kernel
def hM (k : Int) : Bool := bt (pt k) 4
theorem andM (k : Int) : bits BinOp.and IntKind.i64 (pt k) 4 = if hM k then 4 else 0 := by
  unfold hM
  rcases pt_set k with h | h | h | h | h | h | h | h | h | h <;> rw [h] <;> decide +kernel
def hT (k : Int) : Bool := bt (pt k) 8
theorem andT (k : Int) : bits BinOp.and IntKind.i64 (pt k) 8 = if hT k then 8 else 0 := by
  unfold hT
  rcases pt_set k with h | h | h | h | h | h | h | h | h | h <;> rw [h] <;> decide +kernel
def hV (k : Int) : Bool := bt (pt k) 16
theorem andV (k : Int) : bits BinOp.and IntKind.i64 (pt k) 16 = if hV k then 16 else 0 := by
  unfold hV
  rcases pt_set k with h | h | h | h | h | h | h | h | h | h <;> rw [h] <;> decide +kernel
def hP (k : Int) : Bool := bt (pt k) 32
theorem andP (k : Int) : bits BinOp.and IntKind.i64 (pt k) 32 = if hP k then 32 else 0 := by
  unfold hP
  rcases pt_set k with h | h | h | h | h | h | h | h | h | h <;> rw [h] <;> decide +kernel
theorem andMT (k : Int) : bits BinOp.and IntKind.i64 (pt k) 12 = (if hM k then 4 else 0) + (if hT k then 8 else 0) := by
  unfold hM hT
  rcases pt_set k with h | h | h | h | h | h | h | h | h | h <;> rw [h] <;> decide +kernel
theorem parts_1 (w : World) : Calls Tryz.prog 105 #[.int .i64 1] w fun e w' => e = .returned (.int .i64 54) ∧ w' = w := by
  go_enter Tryz.func105, Tryz.ntmps105
  go_wp2
  go_ret
  exact ⟨rfl, rfl⟩
theorem parts_7 (w : World) : Calls Tryz.prog 105 #[.int .i64 7] w fun e w' => e = .returned (.int .i64 20) ∧ w' = w := by
  go_enter Tryz.func105, Tryz.ntmps105
  go_wp2
  go_ret
  exact ⟨rfl, rfl⟩
theorem parts_12 (w : World) : Calls Tryz.prog 105 #[.int .i64 12] w fun e w' => e = .returned (.int .i64 20) ∧ w' = w := by
  go_enter Tryz.func105, Tryz.ntmps105
  go_wp2
  go_ret
  exact ⟨rfl, rfl⟩
theorem parts_13 (w : World) : Calls Tryz.prog 105 #[.int .i64 13] w fun e w' => e = .returned (.int .i64 20) ∧ w' = w := by
  go_enter Tryz.func105, Tryz.ntmps105
  go_wp2
  go_ret
  exact ⟨rfl, rfl⟩
theorem parts_14 (w : World) : Calls Tryz.prog 105 #[.int .i64 14] w fun e w' => e = .returned (.int .i64 16) ∧ w' = w := by
  go_enter Tryz.func105, Tryz.ntmps105
  go_wp2
  go_ret
  exact ⟨rfl, rfl⟩
theorem parts_15 (w : World) : Calls Tryz.prog 105 #[.int .i64 15] w fun e w' => e = .returned (.int .i64 16) ∧ w' = w := by
  go_enter Tryz.func105, Tryz.ntmps105
  go_wp2
  go_ret
  exact ⟨rfl, rfl⟩
theorem parts_2 (w : World) : Calls Tryz.prog 105 #[.int .i64 2] w fun e w' => e = .returned (.int .i64 3) ∧ w' = w := by
  go_enter Tryz.func105, Tryz.ntmps105
  go_wp2
  go_ret
  exact ⟨rfl, rfl⟩
theorem parts_3 (w : World) : Calls Tryz.prog 105 #[.int .i64 3] w fun e w' => e = .returned (.int .i64 2) ∧ w' = w := by
  go_enter Tryz.func105, Tryz.ntmps105
  go_wp2
  go_ret
  exact ⟨rfl, rfl⟩
theorem parts_9 (w : World) : Calls Tryz.prog 105 #[.int .i64 9] w fun e w' => e = .returned (.int .i64 6) ∧ w' = w := by
  go_enter Tryz.func105, Tryz.ntmps105
  go_wp2
  go_ret
  exact ⟨rfl, rfl⟩
theorem parts_10 (w : World) : Calls Tryz.prog 105 #[.int .i64 10] w fun e w' => e = .returned (.int .i64 4) ∧ w' = w := by
  go_enter Tryz.func105, Tryz.ntmps105
  go_wp2
  go_ret
  exact ⟨rfl, rfl⟩
theorem parts_11 (w : World) : Calls Tryz.prog 105 #[.int .i64 11] w fun e w' => e = .returned (.int .i64 4) ∧ w' = w := by
  go_enter Tryz.func105, Tryz.ntmps105
  go_wp2
  go_ret
  exact ⟨rfl, rfl⟩
theorem parts_5 (w : World) : Calls Tryz.prog 105 #[.int .i64 5] w fun e w' => e = .returned (.int .i64 9) ∧ w' = w := by
  go_enter Tryz.func105, Tryz.ntmps105
  go_wp2
  go_ret
  exact ⟨rfl, rfl⟩
theorem parts_16 (w : World) : Calls Tryz.prog 105 #[.int .i64 16] w fun e w' => e = .returned (.int .i64 8) ∧ w' = w := by
  go_enter Tryz.func105, Tryz.ntmps105
  go_wp2
  go_ret
  exact ⟨rfl, rfl⟩
theorem parts_18 (w : World) : Calls Tryz.prog 105 #[.int .i64 18] w fun e w' => e = .returned (.int .i64 8) ∧ w' = w := by
  go_enter Tryz.func105, Tryz.ntmps105
  go_wp2
  go_ret
  exact ⟨rfl, rfl⟩
theorem parts_no (k : Int) (h1 : k ≠ 1) (h7 : k ≠ 7) (h12 : k ≠ 12) (h13 : k ≠ 13) (h14 : k ≠ 14) (h15 : k ≠ 15) (h2 : k ≠ 2) (h3 : k ≠ 3) (h9 : k ≠ 9) (h10 : k ≠ 10) (h11 : k ≠ 11) (h5 : k ≠ 5) (h16 : k ≠ 16) (h18 : k ≠ 18) (w : World) : Calls Tryz.prog 105 #[.int .i64 k] w fun e w' => e = .returned (.int .i64 0) ∧ w' = w := by
  have d1 : (k == 1) = false := by simpa using h1
  have d7 : (k == 7) = false := by simpa using h7
  have d12 : (k == 12) = false := by simpa using h12
  have d13 : (k == 13) = false := by simpa using h13
  have d14 : (k == 14) = false := by simpa using h14
  have d15 : (k == 15) = false := by simpa using h15
  have d2 : (k == 2) = false := by simpa using h2
  have d3 : (k == 3) = false := by simpa using h3
  have d9 : (k == 9) = false := by simpa using h9
  have d10 : (k == 10) = false := by simpa using h10
  have d11 : (k == 11) = false := by simpa using h11
  have d5 : (k == 5) = false := by simpa using h5
  have d16 : (k == 16) = false := by simpa using h16
  have d18 : (k == 18) = false := by simpa using h18
  clear h1 h7 h12 h13 h14 h15 h2 h3 h9 h10 h11 h5 h16 h18
  go_enter Tryz.func105, Tryz.ntmps105
  go_wp2
  go_ret
  exact ⟨rfl, rfl⟩
theorem parts_calls (k : Int) (w : World) : Calls Tryz.prog 105 #[.int .i64 k] w fun e w' => e = .returned (.int .i64 (pt k)) ∧ w' = w := by
  by_cases h1 : k = 1
  · subst h1; exact parts_1 w
  by_cases h7 : k = 7
  · subst h7; exact parts_7 w
  by_cases h12 : k = 12
  · subst h12; exact parts_12 w
  by_cases h13 : k = 13
  · subst h13; exact parts_13 w
  by_cases h14 : k = 14
  · subst h14; exact parts_14 w
  by_cases h15 : k = 15
  · subst h15; exact parts_15 w
  by_cases h2 : k = 2
  · subst h2; exact parts_2 w
  by_cases h3 : k = 3
  · subst h3; exact parts_3 w
  by_cases h9 : k = 9
  · subst h9; exact parts_9 w
  by_cases h10 : k = 10
  · subst h10; exact parts_10 w
  by_cases h11 : k = 11
  · subst h11; exact parts_11 w
  by_cases h5 : k = 5
  · subst h5; exact parts_5 w
  by_cases h16 : k = 16
  · subst h16; exact parts_16 w
  by_cases h18 : k = 18
  · subst h18; exact parts_18 w
  have e : pt k = 0 := by unfold pt; simp [h1, h7, h12, h13, h14, h15, h2, h3, h9, h10, h11, h5, h16, h18]
  rw [e]
  exact parts_no k h1 h7 h12 h13 h14 h15 h2 h3 h9 h10 h11 h5 h16 h18 w
/-- The least and the greatest Num of a kind. -/
def nl (k : Int) : Int := if k = 2 then 1 else 0
def nm (k : Int) : Int := if k = 2 then 2147483648 else if k = 5 then 10 else 0
theorem numLimits_calls (k : Int) (w : World) : Calls Tryz.prog 104 #[.int .i64 k] w fun e w' => e = .returned (.tuple #[.int .i64 (nl k), .int .i64 (nm k)]) ∧ w' = w := by
  by_cases h2 : k = 2
  · subst h2
    rw [show nl 2 = 1 from rfl, show nm 2 = 2147483648 from rfl]
    go_enter Tryz.func104, Tryz.ntmps104
    go_wp2
    go_ret2
    exact ⟨rfl, rfl⟩
  · by_cases h5 : k = 5
    · subst h5
      rw [show nl 5 = 0 from rfl, show nm 5 = 10 from rfl]
      go_enter Tryz.func104, Tryz.ntmps104
      go_wp2
      go_ret2
      exact ⟨rfl, rfl⟩
    · have e1 : nl k = 0 := by unfold nl; simp [h2]
      have e2 : nm k = 0 := by unfold nm; simp [h2, h5]
      have d2 : (k == 2) = false := by simpa using h2
      have d5 : (k == 5) = false := by simpa using h5
      rw [e1, e2]
      clear e1 e2 h2 h5
      go_enter Tryz.func104, Tryz.ntmps104
      go_wp2
      go_ret2
      exact ⟨rfl, rfl⟩
def wi (n a b : Int) : Bool := decide (a ≤ n) && decide (n ≤ b)
theorem within_calls (n a b : Int) (w : World) : Calls Tryz.prog 106 #[.int .i64 n, .int .i64 a, .int .i64 b] w fun e w' => e = .returned (.bool (wi n a b)) ∧ w' = w := by
  unfold wi
  by_cases h1 : a ≤ n
  · by_cases h2 : n ≤ b
    · go_enter Tryz.func106, Tryz.ntmps106
      go_wp2
      go_ret
      simp [h1, h2]
    · go_enter Tryz.func106, Tryz.ntmps106
      go_wp2
      go_ret
      simp [h2]
  · go_enter Tryz.func106, Tryz.ntmps106
    go_wp2
    go_ret
    simp
    omega
theorem isKind_calls (n : Int) (w : World) : Calls Tryz.prog 89 #[.int .i64 n] w fun e w' => e = .returned (.bool (wi n 1 19)) ∧ w' = w := by
  unfold wi
  by_cases h1 : 1 ≤ n
  · by_cases h2 : n ≤ 19
    · go_enter Tryz.func89, Tryz.ntmps89
      go_wp2
      go_ret
      simp [h1, h2]
    · go_enter Tryz.func89, Tryz.ntmps89
      go_wp2
      go_ret
      simp [h2]
  · go_enter Tryz.func89, Tryz.ntmps89
    go_wp2
    go_ret
    simp
    omega
end Go.Proofs.YtcdhlklmnnmpoaaGreat
namespace Go.Proofs.YtcdhlklmnnmpoaaGreat
open Go.ChangeShapes Go.WideShapes Go.ChangeAt Go.RowKit
theorem cellB {w w' : World} {a : Addr} {v : Value} (h : w.cell? a = some v) (hb : Below w.heap.size w w') : w'.cell? a = some v := (hb.cell (World.block_lt_of_cell? w _ h)).trans h
def nf (k t n d : Int) : Bool := wi t 0 1099511627776 && wi n (nl k) (nm k) && wi d 0 (if hD k then 2199023255552 else 0)
set_option maxHeartbeats 1000000 in
set_option maxRecDepth 100000 in
theorem numbersFit_calls (k t n d : Int) (s : ByteArray) (vk vx vb : Int) (vs : ByteArray) (la : Option Addr) (ll lc : Nat) (f : Int) (c : Nat) (m : Int) (w : World) :
    Calls Tryz.prog 90 #[(.agg #[.int .i64 k, .int .i64 t, .int .i64 n, .int .i64 d, .string s, .int .i64 vk, .int .i64 vx, .int .u64 vb, .string vs, .slice la ll lc, .int .i64 f, .int .u64 (c : Int), .int .i64 m])] w fun e w' => e = .returned (.bool (nf k t n d)) ∧ Below w.heap.size w w' := by
  have aD := andD k
  have HQ : Hid (∀ r, r = nf k t n d → (Ending.returned (.bool r) = .returned (.bool (nf k t n d)))) := fun r h => by rw [h]
  have W1 : Hid (∀ W, _) := fun W => within_calls t 0 1099511627776 W
  have W2 : Hid (∀ W, _) := fun W => within_calls n (nl k) (nm k) W
  have hnf : nf k t n d = (wi t 0 1099511627776 && wi n (nl k) (nm k) && wi d 0 (if hD k then 2199023255552 else 0)) := rfl
  rw [hnf]
  clear hnf HQ
  generalize wi t 0 1099511627776 = b1 at W1 ⊢
  generalize wi n (nl k) (nm k) = b2 at W2 ⊢
  have NL : Hid (∀ W, _) := fun W => numLimits_calls k W
  generalize nl k = a at W2 NL
  generalize nm k = b at W2 NL
  have PC : Hid (∀ W, _) := fun W => parts_calls k W
  generalize pt k = p at aD PC
  cases hh : hD k with
  | true =>
    rw [hh] at aD
    simp only [if_true] at aD ⊢
    have W3 : Hid (∀ W, _) := fun W => within_calls d 0 2199023255552 W
    generalize wi d 0 2199023255552 = b3 at W3 ⊢
    clear hh
    go_enter Tryz.func90, Tryz.ntmps90
    go_wp2_with fail
    refine (NL.out _).mono ?_
    rintro e w1 ⟨rfl, e1⟩
    have e2 := e1.symm
    subst e2
    clear e1
    go_wp2_with fail
    refine (PC.out _).mono ?_
    rintro e w1 ⟨rfl, e1⟩
    have e2 := e1.symm
    subst e2
    clear e1
    go_wp2_with fail
    refine (W1.out _).mono ?_
    rintro e w1 ⟨rfl, e1⟩
    have e2 := e1.symm
    subst e2
    clear e1
    cases b1 with
    | false =>
      go_wp2_with fail
      go_ret
      exact ⟨rfl, bel1 _ _⟩
    | true =>
      go_wp2_with fail
      refine (W2.out _).mono ?_
      rintro e w1 ⟨rfl, e1⟩
      have e2 := e1.symm
      subst e2
      clear e1
      cases b2 with
      | false =>
        go_wp2_with fail
        go_ret
        exact ⟨rfl, bel1 _ _⟩
      | true =>
        go_wp2_with fail
        refine (W3.out _).mono ?_
        rintro e w1 ⟨rfl, e1⟩
        have e2 := e1.symm
        subst e2
        clear e1
        go_wp2_with fail
        go_ret
        exact ⟨rfl, bel1 _ _⟩
  | false =>
    rw [hh] at aD
    simp only [Bool.false_eq_true, if_false] at aD ⊢
    have W3 : Hid (∀ W, _) := fun W => within_calls d 0 0 W
    generalize wi d 0 0 = b3 at W3 ⊢
    clear hh
    go_enter Tryz.func90, Tryz.ntmps90
    go_wp2_with fail
    refine (NL.out _).mono ?_
    rintro e w1 ⟨rfl, e1⟩
    have e2 := e1.symm
    subst e2
    clear e1
    go_wp2_with fail
    refine (PC.out _).mono ?_
    rintro e w1 ⟨rfl, e1⟩
    have e2 := e1.symm
    subst e2
    clear e1
    go_wp2_with fail
    refine (W1.out _).mono ?_
    rintro e w1 ⟨rfl, e1⟩
    have e2 := e1.symm
    subst e2
    clear e1
    cases b1 with
    | false =>
      go_wp2_with fail
      go_ret
      exact ⟨rfl, bel1 _ _⟩
    | true =>
      go_wp2_with fail
      refine (W2.out _).mono ?_
      rintro e w1 ⟨rfl, e1⟩
      have e2 := e1.symm
      subst e2
      clear e1
      cases b2 with
      | false =>
        go_wp2_with fail
        go_ret
        exact ⟨rfl, bel1 _ _⟩
      | true =>
        go_wp2_with fail
        refine (W3.out _).mono ?_
        rintro e w1 ⟨rfl, e1⟩
        have e2 := e1.symm
        subst e2
        clear e1
        go_wp2_with fail
        go_ret
        exact ⟨rfl, bel1 _ _⟩
theorem text40_calls (s : ByteArray) (w : World) : Calls Tryz.prog 34 #[.string s] w fun e w' => e = .returned (.bool (decide (s.size ≤ 200))) ∧ w' = w := by
  by_cases h : s.size ≤ 200
  · have h1 : (s.size : Int) ≤ 200 := by omega
    go_enter Tryz.func34, Tryz.ntmps34
    go_wp2
    go_ret
    simp [h]
  · have h1 : ¬ (s.size : Int) ≤ 200 := by omega
    go_enter Tryz.func34, Tryz.ntmps34
    go_wp2
    go_ret
    simp
def nmf (k : Int) (s : ByteArray) : Bool := if hM k then nmB s else if hT k then decide (s.size ≤ 200) else s.toList.isEmpty
set_option maxHeartbeats 1000000 in
set_option maxRecDepth 100000 in
theorem nameFits_calls (k t n d : Int) (s : ByteArray) (vk vx vb : Int) (vs : ByteArray) (la : Option Addr) (ll lc : Nat) (f : Int) (c : Nat) (m : Int) (w : World) :
    Calls Tryz.prog 91 #[(.agg #[.int .i64 k, .int .i64 t, .int .i64 n, .int .i64 d, .string s, .int .i64 vk, .int .i64 vx, .int .u64 vb, .string vs, .slice la ll lc, .int .i64 f, .int .u64 (c : Int), .int .i64 m])] w fun e w' => e = .returned (.bool (nmf k s)) ∧ Below w.heap.size w w' := by
  have aM := andM k
  have aT := andT k
  have PC : Hid (∀ W, _) := fun W => parts_calls k W
  generalize pt k = p at aM aT PC
  unfold nmf
  cases hm : hM k with
  | true =>
    rw [hm] at aM
    simp only [if_true] at aM ⊢
    clear aT hm
    go_enter Tryz.func91, Tryz.ntmps91
    go_wp2_with fail
    refine (PC.out _).mono ?_
    rintro e w1 ⟨rfl, e1⟩
    have e2 := e1.symm
    subst e2
    clear e1
    go_wp2_with fail
    refine (name_calls _ _).mono ?_
    rintro e w1 ⟨rfl, e1⟩
    have e2 := e1.symm
    subst e2
    clear e1
    go_wp2_with fail
    go_ret
    exact ⟨rfl, bel1 _ _⟩
  | false =>
    rw [hm] at aM
    simp only [Bool.false_eq_true, if_false] at aM ⊢
    cases ht : hT k with
    | true =>
      rw [ht] at aT
      simp only [if_true] at aT ⊢
      clear hm ht
      go_enter Tryz.func91, Tryz.ntmps91
      go_wp2_with fail
      refine (PC.out _).mono ?_
      rintro e w1 ⟨rfl, e1⟩
      have e2 := e1.symm
      subst e2
      clear e1
      go_wp2_with fail
      refine (text40_calls _ _).mono ?_
      rintro e w1 ⟨rfl, e1⟩
      have e2 := e1.symm
      subst e2
      clear e1
      go_wp2_with fail
      go_ret
      exact ⟨rfl, bel1 _ _⟩
    | false =>
      rw [ht] at aT
      simp only [Bool.false_eq_true, if_false] at aT ⊢
      clear hm ht
      go_enter Tryz.func91, Tryz.ntmps91
      go_wp2_with fail
      refine (PC.out _).mono ?_
      rintro e w1 ⟨rfl, e1⟩
      have e2 := e1.symm
      subst e2
      clear e1
      go_wp2_with fail
      go_ret
      exact ⟨rfl, bel1 _ _⟩
/-- A yes or no, of which it is known when it is yes. -/
def FitP (P : Prop) (w : World) (e : Ending) (w' : World) : Prop := (∃ b : Bool, e = .returned (.bool b) ∧ (b = true ↔ P)) ∧ Below w.heap.size w w'
def zE : Tv := .mk 0 0 0 ⟨#[]⟩ []
theorem zE_is (w : World) (n : Nat) : Is w (n + 1) (.agg #[.int .i64 0, .int .i64 0, .int .u64 0, .string ⟨#[]⟩, .slice none 0 0]) zE :=
  ⟨none, 0, rfl, ⟨by decide, by decide, by decide, by decide, by decide, by decide, by decide, by decide, by decide⟩, fun i t h => by simp at h⟩
/-- A value that an event of that kind may have. -/
def VF (nn : Nat) (k : Int) (tv : Tv) : Prop := (hV k = true ∧ May nn tv) ∨ (hV k = false ∧ tv = zE)
set_option maxHeartbeats 1000000 in
set_option maxRecDepth 100000 in
theorem valueFits_calls (nn : Nat) (tv : Tv) (k t n d : Int) (s : ByteArray) (vk vx vb : Int) (vs : ByteArray) (la : Option Addr) (ll lc : Nat) (f : Int) (c : Nat) (m : Int) (w : World) (h : Is w (nn + 1) (.agg #[.int .i64 vk, .int .i64 vx, .int .u64 vb, .string vs, .slice la ll lc]) tv) :
    Calls Tryz.prog 92 #[(.agg #[.int .i64 k, .int .i64 t, .int .i64 n, .int .i64 d, .string s, .int .i64 vk, .int .i64 vx, .int .u64 vb, .string vs, .slice la ll lc, .int .i64 f, .int .u64 (c : Int), .int .i64 m])] w (FitP (VF (nn + 1) k tv) w) := by
  have aV := andV k
  have PC : Hid (∀ W, _) := fun W => parts_calls k W
  have HF : Hid (∀ b w', (b = true ↔ VF (nn + 1) k tv) → Below w.heap.size w w' → FitP (VF (nn + 1) k tv) w (.returned (.bool b)) w') := fun b w' h1 h2 => ⟨⟨b, rfl, h1⟩, h2⟩
  have CC : Hid (∀ W, Below w.heap.size w W → _) := fun W hB => check_calls (nn + 1) (.agg #[.int .i64 vk, .int .i64 vx, .int .u64 vb, .string vs, .slice la ll lc]) tv W (h.below hB)
  have SC : Hid (∀ W, Below w.heap.size w W → _) := fun W hB => same_calls (nn + 1) (.agg #[.int .i64 vk, .int .i64 vx, .int .u64 vb, .string vs, .slice la ll lc]) tv (.agg #[.int .i64 0, .int .i64 0, .int .u64 0, .string ⟨#[]⟩, .slice none 0 0]) zE W (h.below hB) (zE_is W nn)
  have HU : Hid (VF (nn + 1) k tv ↔ (hV k = true ∧ May (nn + 1) tv) ∨ (hV k = false ∧ tv = zE)) := Iff.rfl
  generalize FitP (VF (nn + 1) k tv) w = Q at HF ⊢
  generalize VF (nn + 1) k tv = P at HF HU
  generalize pt k = p at aV PC
  clear h
  cases hv : hV k with
  | true =>
    rw [hv] at aV
    simp only [if_true] at aV
    have HV : Hid (hV k = true) := hv
    clear hv
    go_enter Tryz.func92, Tryz.ntmps92
    go_wp2_with fail
    refine (PC.out _).mono ?_
    rintro e w1 ⟨rfl, e1⟩
    have e2 := e1.symm
    subst e2
    clear e1
    go_wp2_with fail
    refine Calls.mono (CC.out _ ?_) ?_
    · exact bel1 _ _
    rintro e w1 ⟨⟨r, rfl, h1, h2⟩, hb⟩
    have HB : Hid (Below w.heap.size w w1) := bel2 (bel1 _ _) hb
    have HR : Hid ((May (nn + 1) tv → r = 0) ∧ (¬ May (nn + 1) tv → r = 1)) := ⟨h1, h2⟩
    clear hb h1 h2
    go_wp2_with fail
    refine HF.out _ _ ?_ HB.out
    rw [HU.out, HV.out]
    by_cases hm : May (nn + 1) tv
    · have := HR.out.1 hm; simp [hm, this]
    · have := HR.out.2 hm; simp [hm, this]
  | false =>
    rw [hv] at aV
    simp only [Bool.false_eq_true, if_false] at aV
    have HV : Hid (hV k = false) := hv
    clear hv
    go_enter Tryz.func92, Tryz.ntmps92
    go_wp2_with fail
    refine (PC.out _).mono ?_
    rintro e w1 ⟨rfl, e1⟩
    have e2 := e1.symm
    subst e2
    clear e1
    go_wp2_with fail
    refine Calls.mono (SC.out _ ?_) ?_
    · exact bel1 _ _
    rintro e w1 ⟨⟨r, rfl, h1⟩, hb⟩
    have HB : Hid (Below w.heap.size w w1) := bel2 (bel1 _ _) hb
    have HR : Hid (r = true ↔ tv = zE) := h1
    clear hb h1
    go_wp2_with fail
    refine HF.out _ _ ?_ HB.out
    rw [HU.out, HV.out, HR.out]
    simp
def pf (k f : Int) (c : Nat) (m : Int) : Bool := if hP k then may f c m else (decide (f = 0) && decide (c = 0) && decide (m = 0))
set_option maxHeartbeats 1000000 in
set_option maxRecDepth 100000 in
theorem policyFits_calls (k t n d : Int) (s : ByteArray) (vk vx vb : Int) (vs : ByteArray) (la : Option Addr) (ll lc : Nat) (f : Int) (c : Nat) (m : Int) (hc : c < 18446744073709551616) (w : World) :
    Calls Tryz.prog 93 #[(.agg #[.int .i64 k, .int .i64 t, .int .i64 n, .int .i64 d, .string s, .int .i64 vk, .int .i64 vx, .int .u64 vb, .string vs, .slice la ll lc, .int .i64 f, .int .u64 (c : Int), .int .i64 m])] w fun e w' => e = .returned (.bool (pf k f c m)) ∧ Below w.heap.size w w' := by
  have aP := andP k
  have PC : Hid (∀ W, _) := fun W => parts_calls k W
  have KC : Hid (∀ W, _) := fun W => pcheck_calls f c m hc W
  generalize pt k = p at aP PC
  clear hc
  unfold pf
  cases hv : hP k with
  | true =>
    rw [hv] at aP
    simp only [if_true] at aP ⊢
    clear hv
    cases hm : may f c m with
    | true =>
      rw [hm] at KC
      clear hm
      go_enter Tryz.func93, Tryz.ntmps93
      go_wp2_with fail
      refine (PC.out _).mono ?_
      rintro e w1 ⟨rfl, e1⟩
      have e2 := e1.symm
      subst e2
      clear e1
      go_wp2_with fail
      refine (KC.out _).mono ?_
      rintro e w1 ⟨rfl, hb⟩
      have HB : Hid (Below w.heap.size w w1) := bel2 (bel1 _ _) hb
      clear hb
      simp only [ce, if_true]
      go_wp2_with fail
      go_ret
      exact ⟨rfl, HB.out⟩
    | false =>
      rw [hm] at KC
      clear hm
      go_enter Tryz.func93, Tryz.ntmps93
      go_wp2_with fail
      refine (PC.out _).mono ?_
      rintro e w1 ⟨rfl, e1⟩
      have e2 := e1.symm
      subst e2
      clear e1
      go_wp2_with fail
      refine (KC.out _).mono ?_
      rintro e w1 ⟨rfl, hb⟩
      have HB : Hid (Below w.heap.size w w1) := bel2 (bel1 _ _) hb
      clear hb
      simp only [ce, Bool.false_eq_true, if_false]
      go_wp2_with fail
      go_ret
      exact ⟨rfl, HB.out⟩
  | false =>
    rw [hv] at aP
    simp only [Bool.false_eq_true, if_false] at aP ⊢
    clear hv
    go_enter Tryz.func93, Tryz.ntmps93
    go_wp2_with fail
    refine (PC.out _).mono ?_
    rintro e w1 ⟨rfl, e1⟩
    have e2 := e1.symm
    subst e2
    clear e1
    go_wp2_with fail
    all_goals (go_ret; refine ⟨?_, bel1 _ _⟩; simp_all)
end Go.Proofs.YtcdhlklmnnmpoaaGreat
namespace Go.Proofs.YtcdhlklmnnmpoaaGreat
open Go.ChangeShapes Go.WideShapes Go.ChangeAt Go.RowKit
/-- The thirteen cells of block B. -/
def At13 (w : World) (B : Nat) (c0 c1 c2 c3 c4 c5 c6 c7 c8 c9 c10 c11 c12 : Value) : Prop := w.cell? ⟨B, 0, none⟩ = some (c0) ∧ w.cell? ⟨B, 1, none⟩ = some (c1) ∧ w.cell? ⟨B, 2, none⟩ = some (c2) ∧ w.cell? ⟨B, 3, none⟩ = some (c3) ∧ w.cell? ⟨B, 4, none⟩ = some (c4) ∧ w.cell? ⟨B, 5, none⟩ = some (c5) ∧ w.cell? ⟨B, 6, none⟩ = some (c6) ∧ w.cell? ⟨B, 7, none⟩ = some (c7) ∧ w.cell? ⟨B, 8, none⟩ = some (c8) ∧ w.cell? ⟨B, 9, none⟩ = some (c9) ∧ w.cell? ⟨B, 10, none⟩ = some (c10) ∧ w.cell? ⟨B, 11, none⟩ = some (c11) ∧ w.cell? ⟨B, 12, none⟩ = some (c12)
theorem At13.below {w w' : World} {B : Nat} {c0 c1 c2 c3 c4 c5 c6 c7 c8 c9 c10 c11 c12 : Value} (h : At13 w B c0 c1 c2 c3 c4 c5 c6 c7 c8 c9 c10 c11 c12) (hb : Below w.heap.size w w') : At13 w' B c0 c1 c2 c3 c4 c5 c6 c7 c8 c9 c10 c11 c12 := by
  obtain ⟨h0, h1, h2, h3, h4, h5, h6, h7, h8, h9, h10, h11, h12⟩ := h
  exact ⟨cellB h0 hb, cellB h1 hb, cellB h2 hb, cellB h3 hb, cellB h4 hb, cellB h5 hb, cellB h6 hb, cellB h7 hb, cellB h8 hb, cellB h9 hb, cellB h10 hb, cellB h11 hb, cellB h12 hb⟩
theorem At13.box (w : World) (c0 c1 c2 c3 c4 c5 c6 c7 c8 c9 c10 c11 c12 : Value) : At13 (w.alloc (.cells #[c0, c1, c2, c3, c4, c5, c6, c7, c8, c9, c10, c11, c12] 54)) w.heap.size c0 c1 c2 c3 c4 c5 c6 c7 c8 c9 c10 c11 c12 := by
  refine ⟨?_, ?_, ?_, ?_, ?_, ?_, ?_, ?_, ?_, ?_, ?_, ?_, ?_⟩ <;> simp
/-- An event: its kind, time, number, due time, name, value, policy. -/
structure Ev where
  k : Int
  t : Int
  n : Int
  d : Int
  s : ByteArray
  v : Tv
  f : Int
  c : Nat
  m : Int
/-- An event that may be. -/
def MayE (N : Nat) (x : Ev) : Prop := wi x.k 1 19 = true ∧ nf x.k x.t x.n x.d = true ∧ nmf x.k x.s = true ∧ VF N x.k x.v ∧ pf x.k x.f x.c x.m = true
def CkP (P : Prop) (w : World) (e : Ending) (w' : World) : Prop := ∃ r : Int, e = .returned (.int .i64 r) ∧ (P → r = 0) ∧ (¬ P → r = 1) ∧ Below w.heap.size w w'
set_option maxHeartbeats 2000000 in
set_option maxRecDepth 100000 in
theorem evcheck_calls (nn : Nat) (tv : Tv) (k t n d : Int) (s : ByteArray) (vk vx vb : Int) (vs : ByteArray) (la : Option Addr) (ll lc : Nat) (f : Int) (c : Nat) (m : Int) (hc : c < 18446744073709551616) (w : World) (h : Is w (nn + 1) (.agg #[.int .i64 vk, .int .i64 vx, .int .u64 vb, .string vs, .slice la ll lc]) tv) :
    Calls Tryz.prog 79 #[(.agg #[.int .i64 k, .int .i64 t, .int .i64 n, .int .i64 d, .string s, .int .i64 vk, .int .i64 vx, .int .u64 vb, .string vs, .slice la ll lc, .int .i64 f, .int .u64 (c : Int), .int .i64 m])] w (CkP (MayE (nn + 1) ⟨k, t, n, d, s, tv, f, c, m⟩) w) := by
  have K1 : Hid (∀ W, _) := fun W => isKind_calls k W
  have K2 : Hid (∀ W, _) := fun W => numbersFit_calls k t n d s vk vx vb vs la ll lc f c m W
  have K3 : Hid (∀ W, _) := fun W => nameFits_calls k t n d s vk vx vb vs la ll lc f c m W
  have K4 : Hid (∀ W, Below w.heap.size w W → _) := fun W hB => valueFits_calls nn tv k t n d s vk vx vb vs la ll lc f c m W (h.below hB)
  have K5 : Hid (∀ W, _) := fun W => policyFits_calls k t n d s vk vx vb vs la ll lc f c m hc W
  have HU : Hid (MayE (nn + 1) ⟨k, t, n, d, s, tv, f, c, m⟩ ↔ (wi k 1 19 = true ∧ nf k t n d = true ∧ nmf k s = true ∧ VF (nn + 1) k tv ∧ pf k f c m = true)) := Iff.rfl
  have HF : Hid (∀ r w', (MayE (nn + 1) ⟨k, t, n, d, s, tv, f, c, m⟩ → r = 0) → (¬ MayE (nn + 1) ⟨k, t, n, d, s, tv, f, c, m⟩ → r = 1) → Below w.heap.size w w' → CkP (MayE (nn + 1) ⟨k, t, n, d, s, tv, f, c, m⟩) w (.returned (.int .i64 r)) w') := fun r w' h1 h2 h3 => ⟨r, rfl, h1, h2, h3⟩
  generalize CkP (MayE (nn + 1) ⟨k, t, n, d, s, tv, f, c, m⟩) w = Q at HF ⊢
  generalize MayE (nn + 1) ⟨k, t, n, d, s, tv, f, c, m⟩ = P at HF HU
  generalize wi k 1 19 = b1 at K1 HU
  generalize nf k t n d = b2 at K2 HU
  generalize nmf k s = b3 at K3 HU
  generalize VF (nn + 1) k tv = P4 at K4 HU
  generalize pf k f c m = b5 at K5 HU
  have HX0 : Hid (At13 (w.alloc (.cells #[.int .i64 k, .int .i64 t, .int .i64 n, .int .i64 d, .string s, .int .i64 vk, .int .i64 vx, .int .u64 vb, .string vs, .slice la ll lc, .int .i64 f, .int .u64 (c : Int), .int .i64 m] 54)) w.heap.size (.int .i64 k) (.int .i64 t) (.int .i64 n) (.int .i64 d) (.string s) (.int .i64 vk) (.int .i64 vx) (.int .u64 vb) (.string vs) (.slice la ll lc) (.int .i64 f) (.int .u64 (c : Int)) (.int .i64 m)) := At13.box w (.int .i64 k) (.int .i64 t) (.int .i64 n) (.int .i64 d) (.string s) (.int .i64 vk) (.int .i64 vx) (.int .u64 vb) (.string vs) (.slice la ll lc) (.int .i64 f) (.int .u64 (c : Int)) (.int .i64 m)
  have HB0 : Hid (Below w.heap.size w (w.alloc (.cells #[.int .i64 k, .int .i64 t, .int .i64 n, .int .i64 d, .string s, .int .i64 vk, .int .i64 vx, .int .u64 vb, .string vs, .slice la ll lc, .int .i64 f, .int .u64 (c : Int), .int .i64 m] 54))) := bel1 _ _
  clear h hc
  go_enter Tryz.func79, Tryz.ntmps79
  go_wp2_with fail
  refine (K1.out _).mono ?_
  rintro e w1 ⟨rfl, e1⟩
  subst e1
  cases b1 with
  | false =>
    go_wp2_with fail
    exact HF.out 1 _ (fun hp => absurd (HU.out.1 hp) (by simp)) (fun _ => rfl) HB0.out
  | true =>
    obtain ⟨x0, x1, x2, x3, x4, x5, x6, x7, x8, x9, x10, x11, x12⟩ := HX0.out
    go_wp2_with fail
    refine (K2.out _).mono ?_
    rintro e w1 ⟨rfl, hb⟩
    have HB1 : Hid (Below w.heap.size w w1) := bel2 HB0.out hb
    have HX1 : Hid (At13 w1 w.heap.size (.int .i64 k) (.int .i64 t) (.int .i64 n) (.int .i64 d) (.string s) (.int .i64 vk) (.int .i64 vx) (.int .u64 vb) (.string vs) (.slice la ll lc) (.int .i64 f) (.int .u64 (c : Int)) (.int .i64 m)) := HX0.out.below hb
    clear hb x0 x1 x2 x3 x4 x5 x6 x7 x8 x9 x10 x11 x12
    cases b2 with
    | false =>
      go_wp2_with fail
      exact HF.out 1 _ (fun hp => absurd (HU.out.1 hp) (by simp)) (fun _ => rfl) HB1.out
    | true =>
      obtain ⟨x0, x1, x2, x3, x4, x5, x6, x7, x8, x9, x10, x11, x12⟩ := HX1.out
      go_wp2_with fail
      refine (K3.out _).mono ?_
      rintro e w2 ⟨rfl, hb⟩
      have HB2 : Hid (Below w.heap.size w w2) := bel2 HB1.out hb
      have HX2 : Hid (At13 w2 w.heap.size (.int .i64 k) (.int .i64 t) (.int .i64 n) (.int .i64 d) (.string s) (.int .i64 vk) (.int .i64 vx) (.int .u64 vb) (.string vs) (.slice la ll lc) (.int .i64 f) (.int .u64 (c : Int)) (.int .i64 m)) := HX1.out.below hb
      clear hb x0 x1 x2 x3 x4 x5 x6 x7 x8 x9 x10 x11 x12
      cases b3 with
      | false =>
        go_wp2_with fail
        exact HF.out 1 _ (fun hp => absurd (HU.out.1 hp) (by simp)) (fun _ => rfl) HB2.out
      | true =>
        obtain ⟨x0, x1, x2, x3, x4, x5, x6, x7, x8, x9, x10, x11, x12⟩ := HX2.out
        go_wp2_with fail
        refine (K4.out _ HB2.out).mono ?_
        rintro e w3 ⟨⟨b4, rfl, h4⟩, hb⟩
        have HB3 : Hid (Below w.heap.size w w3) := bel2 HB2.out hb
        have HX3 : Hid (At13 w3 w.heap.size (.int .i64 k) (.int .i64 t) (.int .i64 n) (.int .i64 d) (.string s) (.int .i64 vk) (.int .i64 vx) (.int .u64 vb) (.string vs) (.slice la ll lc) (.int .i64 f) (.int .u64 (c : Int)) (.int .i64 m)) := HX2.out.below hb
        clear hb x0 x1 x2 x3 x4 x5 x6 x7 x8 x9 x10 x11 x12
        have H4 : Hid (b4 = true ↔ P4) := h4
        clear h4
        cases b4 with
        | false =>
          go_wp2_with fail
          exact HF.out 1 _ (fun hp => absurd (HU.out.1 hp) (by intro hh; have := H4.out.2 hh.2.2.2.1; cases this)) (fun _ => rfl) HB3.out
        | true =>
          obtain ⟨x0, x1, x2, x3, x4, x5, x6, x7, x8, x9, x10, x11, x12⟩ := HX3.out
          go_wp2_with fail
          refine (K5.out _).mono ?_
          rintro e w4 ⟨rfl, hb⟩
          have HB4 : Hid (Below w.heap.size w w4) := bel2 HB3.out hb
          have HX4 : Hid (At13 w4 w.heap.size (.int .i64 k) (.int .i64 t) (.int .i64 n) (.int .i64 d) (.string s) (.int .i64 vk) (.int .i64 vx) (.int .u64 vb) (.string vs) (.slice la ll lc) (.int .i64 f) (.int .u64 (c : Int)) (.int .i64 m)) := HX3.out.below hb
          clear hb x0 x1 x2 x3 x4 x5 x6 x7 x8 x9 x10 x11 x12
          cases b5 with
          | false =>
            go_wp2_with fail
            exact HF.out 1 _ (fun hp => absurd (HU.out.1 hp) (by simp)) (fun _ => rfl) HB4.out
          | true =>
            go_wp2_with fail
            exact HF.out 0 _ (fun _ => rfl) (fun hp => absurd (HU.out.2 ⟨by trivial, by trivial, by trivial, H4.out.1 (by trivial), by trivial⟩) hp) HB4.out
end Go.Proofs.YtcdhlklmnnmpoaaGreat
