/- What is read may be; a script with other bytes behind it. -/
import Derived.Test.YtimiklekajelfaaSO
namespace Go.Proofs.Ytimiklekajelfaa
open Go.ChangeShapes Go.WideShapes Go.ChangeAt Go.RowKit
theorem in_of {m n : Int} (h0 : 0 ≤ n) (hm : n ≤ m) (hM : m ≤ 9223372036854775807) : In n := ⟨by omega, by omega⟩
theorem sNum_in {m : Int} (hm : 0 ≤ m) (hM : m ≤ 9223372036854775807) (l : List UInt8) (e : Int) : In (sNum m l e).1 := in_of (sNum_nat m l e) (sNum_le m hm l e) hM
theorem sNum_up {m : Int} (hm : 0 ≤ m) (l : List UInt8) (e : Int) : upTo (sNum m l e).1 m = true := by
  unfold upTo
  simp only [Bool.and_eq_true, decide_eq_true_eq]
  exact ⟨sNum_nat m l e, sNum_le m hm l e⟩
theorem rdK_len : ∀ (n : Nat) (l : List UInt8) (e : Int), (rdK n l e).1.length = n
  | 0, _, _ => rfl
  | n + 1, l, e => by unfold rdK; rw [List.length_cons, rdK_len n]
theorem rdK_ok : ∀ (n : Nat) (l : List UInt8) (e : Int), ∀ z ∈ (rdK n l e).1, In z ∧ ovr z = false
  | 0, _, _ => fun z hz => by simp [rdK] at hz
  | n + 1, l, e => fun z hz => by
    unfold rdK at hz
    rcases List.mem_cons.1 hz with rfl | h
    · exact ⟨sNum_in (by decide) (by decide) l e, by unfold ovr; rw [sNum_up (by decide)]; rfl⟩
    · exact rdK_ok n _ _ z h
theorem may_mk {x : Sp} (m : MayF x) : mayB x = true := by
  unfold mayB
  simp only [Bool.and_eq_true, decide_eq_true_eq, bne_iff_ne, ne_eq, Bool.not_eq_true', List.any_eq_false]
  exact ⟨⟨⟨⟨⟨m.f0, m.s⟩, m.b⟩, m.n⟩, m.l⟩, fun z hz => by simp [m.ks z hz]⟩
theorem up0 : upTo 0 0 = true := by decide
/-- What read leaves is a step's numbers; it may be, if its kind is one. -/
theorem rdS_ok (l : List UInt8) (e : Int) : WfS (rdS l e).1 ∧ ((rdS l e).2.2 = 0 → mayB (rdS l e).1 = true) := by
  have k0 := sNum_in (m := 8) (by decide) (by decide) l e
  unfold rdS
  generalize (sNum 8 l e).1 = k at k0
  generalize (sNum 8 l e).2.1 = l1
  generalize (sNum 8 l e).2.2 = e1
  have z0 : In 0 := ⟨by decide, by decide⟩
  have nil : ∀ z ∈ ([] : List Int), In z := fun z hz => by simp at hz
  have nil2 : ∀ z ∈ ([] : List Int), ovr z = false := fun z hz => by simp at hz
  rcases fld_is k with f | f | f | f | f | f
  · rw [f]
    unfold rdF
    rw [if_pos rfl]
    refine ⟨⟨k0, sNum_in (by decide) (by decide) _ _, z0, nil⟩, fun _ => may_mk ⟨?_, ?_, ?_, ?_, ?_, nil2⟩⟩ <;> dsimp only <;> rw [f]
    · decide
    · exact sNum_up (m := 255) (by decide) _ _
    · exact sText_le 16384 (by decide) _ _
    · exact up0
    · decide
  · rw [f]
    unfold rdF
    rw [if_neg (by decide), if_pos rfl]
    refine ⟨⟨k0, sNum_in (by decide) (by decide) _ _, z0, nil⟩, fun _ => may_mk ⟨?_, ?_, ?_, ?_, ?_, nil2⟩⟩ <;> dsimp only <;> rw [f]
    · decide
    · exact sNum_up (m := 255) (by decide) _ _
    · decide
    · exact up0
    · decide
  · rw [f]
    unfold rdF
    rw [if_neg (by decide), if_neg (by decide), if_pos rfl]
    refine ⟨⟨k0, z0, sNum_in (by decide) (by decide) _ _, nil⟩, fun _ => may_mk ⟨?_, ?_, ?_, ?_, ?_, nil2⟩⟩ <;> dsimp only <;> rw [f]
    · decide
    · exact up0
    · decide
    · exact sNum_up (m := 1099511627776) (by decide) _ _
    · decide
  · rw [f]
    unfold rdF
    rw [if_neg (by decide), if_neg (by decide), if_neg (by decide), if_pos rfl]
    refine ⟨⟨k0, z0, z0, fun z hz => (rdK_ok _ _ _ z hz).1⟩, fun _ => may_mk ⟨?_, ?_, ?_, ?_, ?_, fun z hz => (rdK_ok _ _ _ z hz).2⟩⟩ <;> dsimp only <;> rw [f]
    · decide
    · exact up0
    · decide
    · exact up0
    · rw [rdK_len]
      have h1 := sNum_nat 64 l1 e1
      have h2 := sNum_le 64 (by decide) l1 e1
      have h3 : mst 17 16 64 = 64 := by decide
      rw [h3]
      omega
  · rw [f]
    unfold rdF
    rw [if_neg (by decide), if_neg (by decide), if_neg (by decide), if_neg (by decide), if_pos rfl]
    refine ⟨⟨k0, z0, z0, nil⟩, fun _ => may_mk ⟨?_, ?_, ?_, ?_, ?_, nil2⟩⟩ <;> dsimp only <;> rw [f]
    · decide
    · exact up0
    · decide
    · exact up0
    · decide
  · rw [f]
    unfold rdF
    rw [if_neg (by decide), if_neg (by decide), if_neg (by decide), if_neg (by decide), if_neg (by decide)]
    exact ⟨⟨k0, z0, z0, nil⟩, fun h => absurd h (flE_ne (by decide))⟩
theorem stB_ok {t : List UInt8} {x : Sp} (h : stB t = some x) : WfS x ∧ mayB x = true := by
  unfold stB at h
  split at h
  · rename_i h1
    cases h
    unfold stR at h1 ⊢
    split at h1
    · rename_i h2
      rw [if_pos h2]
      obtain ⟨a, b⟩ := rdS_ok t 0
      refine ⟨a, b ?_⟩
      unfold en at h2
      split at h2
      · rename_i h3; simpa using h3
      · exact h2
    · simp at h1
  · cases h
theorem parseB_ok (b : List UInt8) : ∀ x ∈ parseB b, WfS x ∧ mayB x = true := fun x hx => by
  unfold parseB at hx
  obtain ⟨t, _, ht⟩ := List.mem_filterMap.1 hx
  exact stB_ok ht
theorem parseB_len (b : List UInt8) : (parseB b).length ≤ b.length := Nat.le_trans (List.length_filterMap_le _ _) (tx_len _ _)
theorem parse_join : ∀ (xs : List Sp) (c : List UInt8), (∀ x ∈ xs, WfS x ∧ mayB x = true) → parseB (putAll xs ++ c) = xs ++ parseB c
  | [], c, _ => rfl
  | x :: xs, c, wf => by
    have ih := parse_join xs c (fun y hy => wf y (List.mem_cons_of_mem _ hy))
    have h := wf x List.mem_cons_self
    have e : putAll (x :: xs) = txt x ++ putAll xs := by unfold putAll; rw [List.filter_cons_of_pos h.2, List.flatMap_cons]
    unfold parseB at ih ⊢
    rw [e, List.append_assoc, tx_txt h.1 h.2, List.filterMap_cons, stB_back h.1 h.2, ih]
    rfl
theorem parse_again (b : List UInt8) : parseB (putAll (parseB b)) = parseB b := by
  have := parse_join (parseB b) [] (parseB_ok b)
  rwa [List.append_nil, show parseB [] = [] from rfl, List.append_nil] at this
end Go.Proofs.Ytimiklekajelfaa
