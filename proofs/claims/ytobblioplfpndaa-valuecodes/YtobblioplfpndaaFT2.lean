/- The contracts of Order, Less and of their references, as their code has them. Condition: the words fit 64 bits. -/
import Derived.Test.YtobblioplfpndaaFT1
namespace Go.Proofs.Ytobblioplfpndaa
open Go.ChangeShapes Go.WideShapes Go.ChangeAt Go.RowKit
open FM
attribute [local go_sem] o_eq o_lt o_gt o_ne frombits tobits
/-- standsBelow's answer. -/
def sb (x y : Nat) : Bool := if isN x then false else if isN y then true else if fEq x y then neg x else fLt x y
theorem below_calls (x y : Nat) (hx : x < 18446744073709551616) (w : World) : Calls Try.prog 76 #[.float .f64 x, .float .f64 y] w fun e w' => e = .returned (.bool (sb x y)) ∧ w' = w := by
  have hn := neg_wrap x hx
  clear hx
  cases h1 : isN x
  · cases h2 : isN y
    · cases h3 : fEq x y
      · have hk : sb x y = fLt x y := by simp [sb, h1, h2, h3]
        rw [hk]
        go_enter Try.func76, Try.ntmps76
        go_wp2
        go_ret
        exact ⟨rfl, rfl⟩
      · have hk : sb x y = neg x := by simp [sb, h1, h2, h3]
        rw [hk]
        go_enter Try.func76, Try.ntmps76
        go_wp2
        go_ret
        exact ⟨rfl, rfl⟩
    · have hk : sb x y = true := by simp [sb, h1, h2]
      rw [hk]
      go_enter Try.func76, Try.ntmps76
      go_wp2
      go_ret
      exact ⟨rfl, rfl⟩
  · have hk : sb x y = false := by simp [sb, h1]
    rw [hk]
    go_enter Try.func76, Try.ntmps76
    go_wp2
    go_ret
    exact ⟨rfl, rfl⟩
/-- Order's answer, as the code has it. -/
def oc (a b : Nat) : Int := if (cn a : Int) == (cn b : Int) then 0 else if sb (cn a) (cn b) then -1 else 1
theorem cn_lt (x : Nat) (h : x < 18446744073709551616) : cn x < 18446744073709551616 := by unfold cn; split <;> omega
theorem order_calls (a b : Nat) (ha : a < 18446744073709551616) (w : World) : Calls Try.prog 49 #[.int .u64 (a : Int), .int .u64 (b : Int)] w fun e w' => e = .returned (.int .i64 (oc a b)) ∧ w' = w := by
  have HA : Hid (cn a < 18446744073709551616) := cn_lt a ha
  clear ha
  cases h1 : ((cn a : Int) == (cn b : Int))
  · cases h2 : sb (cn a) (cn b)
    · have hk : oc a b = 1 := by simp only [oc, h1, h2]; rfl
      rw [hk]
      go_enter Try.func49, Try.ntmps49
      go_wp2_with fail
      refine (canon_calls _ _).mono ?_
      rintro e w' ⟨rfl, rfl⟩
      go_wp2_with fail
      refine (canon_calls _ _).mono ?_
      rintro e w' ⟨rfl, rfl⟩
      go_wp2_with fail
      refine (below_calls _ _ HA.out _).mono ?_
      rintro e w' ⟨rfl, rfl⟩
      rw [h2]
      go_wp2
      go_ret
      exact ⟨rfl, rfl⟩
    · have hk : oc a b = -1 := by simp only [oc, h1, h2]; rfl
      rw [hk]
      go_enter Try.func49, Try.ntmps49
      go_wp2_with fail
      refine (canon_calls _ _).mono ?_
      rintro e w' ⟨rfl, rfl⟩
      go_wp2_with fail
      refine (canon_calls _ _).mono ?_
      rintro e w' ⟨rfl, rfl⟩
      go_wp2_with fail
      refine (below_calls _ _ HA.out _).mono ?_
      rintro e w' ⟨rfl, rfl⟩
      rw [h2]
      go_wp2
      go_ret
      exact ⟨rfl, rfl⟩
  · have hk : oc a b = 0 := by simp only [oc, h1]; rfl
    rw [hk]
    go_enter Try.func49, Try.ntmps49
    go_wp2_with fail
    refine (canon_calls _ _).mono ?_
    rintro e w' ⟨rfl, rfl⟩
    go_wp2_with fail
    refine (canon_calls _ _).mono ?_
    rintro e w' ⟨rfl, rfl⟩
    go_wp2
    go_ret
    exact ⟨rfl, rfl⟩
theorem ret_int {k : IntKind} {a b : Int} (h : a = b) : Ending.returned (.int k a) = .returned (.int k b) := by rw [h]
/-- The reference's order, as its code has it. -/
def ro (a b : Nat) : Int :=
  if isN a then (if isN b then 0 else 1) else if isN b then -1 else
  if fLt a b then -1 else
  if fEq a 0 && fEq b 0 then (if (b : Int) < (a : Int) then -1 else if (a : Int) < (b : Int) then 1 else 0) else
  if fLt b a then 1 else 0
theorem refOrder_nan (a b : Nat) (w : World) (h : isN a = true ∨ isN b = true) : Calls Try.prog 53 #[.int .u64 (a : Int), .int .u64 (b : Int)] w fun e w' => e = .returned (.int .i64 (ro a b)) ∧ w' = w := by
  cases h1 : isN a
  · have h2 : isN b = true := by rcases h with h | h; · rw [h1] at h; cases h
                                 · exact h
    clear h
    go_enter Try.func53, Try.ntmps53
    go_wp2
    go_ret
    exact ⟨ret_int (by simp [ro, h1, h2]), rfl⟩
  · clear h
    cases h2 : isN b
    all_goals
      go_enter Try.func53, Try.ntmps53
      go_wp2
      go_ret
      exact ⟨ret_int (by simp [ro, h1, h2]), rfl⟩
theorem zero_lt (a b : Nat) (h1 : fEq a 0 = true) (h2 : fEq b 0 = true) : fLt a b = false := by
  unfold fEq at h1 h2; unfold fLt
  simp at h1 h2
  simp; intros; omega
theorem refOrder_num (a b : Nat) (w : World) (h1 : isN a = false) (h2 : isN b = false) : Calls Try.prog 53 #[.int .u64 (a : Int), .int .u64 (b : Int)] w fun e w' => e = .returned (.int .i64 (ro a b)) ∧ w' = w := by
  cases h3 : fLt a b
  · cases h4 : fEq a 0
    · cases h6 : fLt b a
      all_goals
        go_enter Try.func53, Try.ntmps53
        go_wp2
        go_ret
        exact ⟨ret_int (by simp [ro, h1, h2, h3, h4, h6]), rfl⟩
    · cases h5 : fEq b 0
      · cases h6 : fLt b a
        all_goals
          go_enter Try.func53, Try.ntmps53
          go_wp2
          go_ret
          exact ⟨ret_int (by simp [ro, h1, h2, h3, h4, h5, h6]), rfl⟩
      · have h6 := zero_lt b a h5 h4
        by_cases h7 : (b : Int) < (a : Int)
        · go_enter Try.func53, Try.ntmps53
          go_wp2
          go_ret
          exact ⟨ret_int (by simp only [ro, h1, h2, h3, h4, h5, if_pos h7]; rfl), rfl⟩
        · by_cases h8 : (a : Int) < (b : Int)
          · have hk : ro a b = 1 := by simp only [ro, h1, h2, h3, h4, h5, if_neg h7, if_pos h8]; rfl
            rw [hk]
            go_enter Try.func53, Try.ntmps53
            go_wp2
            go_ret
            exact ⟨rfl, rfl⟩
          · have hk : ro a b = 0 := by simp only [ro, h1, h2, h3, h4, h5, if_neg h7, if_neg h8]; rfl
            rw [hk]
            go_enter Try.func53, Try.ntmps53
            go_wp2
            go_ret
            exact ⟨rfl, rfl⟩
  · go_enter Try.func53, Try.ntmps53
    go_wp2
    go_ret
    exact ⟨ret_int (by simp [ro, h1, h2, h3]), rfl⟩
end Go.Proofs.Ytobblioplfpndaa
