/- What is written is read: plain facts on the bytes of numbers, and appending behind bytes without room. -/
import Derived.Test.YtlpfdilnoglgcaaPH
import Derived.Test.YtlpfdilnoglgcaaI
namespace Go.Proofs.Ytlpfdilnoglgcaa
open Go.ChangeShapes Go.WideShapes Go.ChangeAt Go.RowKit
theorem be_mod (x k j : Nat) (h : k ≤ j) : be (x % 2 ^ (8 * j)) k = be x k := by
  induction k with
  | zero => rfl
  | succ k ih =>
    unfold be
    rw [ih (by omega)]
    congr 1
    have e : (2 ^ (8 * j) : Nat) = 2 ^ (8 * k) * 2 ^ (8 * (j - k)) := by rw [← Nat.pow_add]; congr 1; omega
    have e2 : (2 ^ (8 * (j - k)) : Nat) = 256 * 2 ^ (8 * (j - k - 1)) := by
      rw [show (256 : Nat) = 2 ^ 8 from rfl, ← Nat.pow_add]; congr 1; omega
    rw [e, Nat.mod_mul_right_div_self, e2]
    apply UInt8.toNat.inj
    rw [UInt8.toNat_ofNat', UInt8.toNat_ofNat']
    exact Nat.mod_mul_right_mod _ _ _
theorem pow_256 (j : Nat) : (256 : Nat) ^ j = 2 ^ (8 * j) := by rw [show (256 : Nat) = 2 ^ 8 from rfl, ← Nat.pow_mul]
theorem append_full (w : World) (g : Nat) (l1 l2 : List UInt8) (v2 : Value) (h1 : Lib.HoldsBytes w (.slice (some ⟨g, 0, none⟩) l1.length l1.length) l1) (h2 : Lib.HoldsBytes w v2 l2) (hb : l1.length + l2.length ≤ 140737488355328) :
    ∃ v' w', (Builtin.append_ #[35, 35] 35 #[.slice (some ⟨g, 0, none⟩) l1.length l1.length, v2]).run Try.prog w = .ok v' w' ∧ Lib.HoldsBytes w' v' (l1 ++ l2) ∧ Below w.heap.size w w' := by
  obtain ⟨i0, hi, hz0, hz1, hz2⟩ := info_parts Try.info5
  obtain ⟨p2, c2, rfl, n2, k2⟩ := h2
  rcases Classical.em (l2 = []) with hl | hl
  · subst hl
    refine ⟨.slice (some ⟨g, 0, none⟩) l1.length l1.length, w, ?_, by simpa using h1, Below.refl _ _⟩
    cases p2 with
    | none => simp [Builtin.append_, run_underlying Try.underlying35, sizeOf, typeInfo, hi, Builtin.lenOf, Builtin.firstCells, loadCells, storeCells]
    | some a => simp [Builtin.append_, run_underlying Try.underlying35, sizeOf, typeInfo, hi, Builtin.lenOf, Builtin.firstCells, loadCells, loadCellsFrom, storeCells]
  · obtain ⟨a, rfl⟩ : ∃ a, p2 = some a := by
      cases p2 with
      | none => exact absurd (n2 rfl) hl
      | some a => exact ⟨a, rfl⟩
    have hpos : 0 < l2.length := List.length_pos_iff.2 hl
    obtain ⟨p1, c1, e1, _, k1⟩ := h1
    cases e1
    have cellsOf : ∀ (b : Addr) (l : List UInt8), (∀ (i : Nat) x, l[i]? = some x → w.cell? (b.add i) = some (.int .u8 (x.toNat : Int))) → ∀ j u, (bval l)[j]? = some u → w.cell? (b.add j) = some u := by
      intro b l hc j u hu
      unfold bval at hu
      rw [List.getElem?_map] at hu
      obtain ⟨x, hx, rfl⟩ := Option.map_eq_some_iff.1 hu
      exact hc j x hx
    have hr := run_append_grow (P := Try.prog) w 35 35 5 i0 (.int .u8 0) Try.underlying35 hi hz0 ⟨g, 0, none⟩ l1.length l1.length (bval l1) (by rw [hz1, bval_length, Nat.mul_one]) (cellsOf _ l1 (k1 _ rfl))
      a l2.length c2 (bval l2) (by rw [hz1, bval_length, Nat.mul_one]) (cellsOf _ l2 (k2 _ rfl)) (by omega) (by omega) (growslice_fits (by omega) (by rw [hz2]; omega))
    refine ⟨_, _, hr, ?_, ((Below.refl _ w).drew).alloc (Nat.le_refl _) _⟩
    refine ⟨some ⟨w.heap.size, 0, none⟩, _, by rw [List.length_append], (fun h => by cases h), ?_⟩
    intro b hb' i x hx
    cases hb'
    rw [add_plain, Nat.zero_add]
    have hc := World.cell?_alloc_mark w.drew ((bval l1).toArray ++ (bval l2).toArray ++ Builtin.zeroCells (Value.int IntKind.u8 0).cells (grownCap w (l1.length + l2.length) l1.length 5 - (l1.length + l2.length))) 5 (0, 0) i
    rw [show w.drew.heap.size = w.heap.size from rfl] at hc
    rw [hc]
    have hi2 : i < (l1 ++ l2).length := (List.getElem?_eq_some_iff.1 hx).1
    have e3 : ((bval l1).toArray ++ (bval l2).toArray) = (bval (l1 ++ l2)).toArray := by simp [bval]
    rw [e3, Array.getElem?_append_left (by simpa [bval_length] using hi2)]
    simp only [bval, List.getElem?_toArray, List.getElem?_map, hx]
    rfl
theorem val_be (x k : Nat) (h : x < 256 ^ k) : val (be x k) = x := by
  have gen : ∀ (k a x : Nat), x < 256 ^ k → (be x k).foldl (fun a b => a * 256 + b.toNat) a = a * 256 ^ k + x := by
    intro k
    induction k with
    | zero => intro a x hx; simp at hx; simp [be, hx]
    | succ k ih =>
      intro a x hx
      unfold be
      rw [List.foldl_cons]
      have hp : 0 < 256 ^ k := Nat.pow_pos (by decide)
      have hm : x % 256 ^ k < 256 ^ k := Nat.mod_lt _ hp
      have hbm : be x k = be (x % 256 ^ k) k := by rw [pow_256, be_mod x k k (Nat.le_refl _)]
      rw [hbm, ih _ _ hm, UInt8.toNat_ofNat', ← pow_256]
      have hd : x / 256 ^ k < 256 := Nat.div_lt_of_lt_mul (by rw [← Nat.pow_succ]; exact hx)
      rw [Nat.mod_eq_of_lt (by omega), Nat.pow_succ]
      have := Nat.div_add_mod x (256 ^ k)
      generalize x / 256 ^ k = q at *
      generalize x % 256 ^ k = r at *
      generalize 256 ^ k = P at *
      subst this
      have e : (a * 256 + q) * P + r = a * (P * 256) + (P * q + r) := by
        rw [Nat.add_mul, Nat.mul_assoc, Nat.mul_comm 256 P, Nat.mul_comm q P, Nat.add_assoc]
      exact e
  have := gen k 0 x h
  simpa [val] using this
theorem sNumber_enc (n : Nat) (t : List UInt8) (h : n < 9223372036854775808) : sNumber (enc n ++ t) = (n, t, 0) := by
  unfold enc
  by_cases h0 : n < 240
  · rw [if_pos h0]
    have e : (UInt8.ofNat n).toNat = n := by rw [UInt8.toNat_ofNat']; omega
    show sNumber (UInt8.ofNat n :: t) = _
    unfold sNumber
    dsimp only
    rw [e, if_pos h0]
  · rw [if_neg h0]
    obtain ⟨k1, k8⟩ := nb_bounds n (by omega) h
    have e : (UInt8.ofNat (239 + nb n)).toNat = 239 + nb n := by rw [UInt8.toNat_ofNat']; omega
    show sNumber (UInt8.ofNat (239 + nb n) :: (be n (nb n) ++ t)) = _
    unfold sNumber
    dsimp only
    rw [e, if_neg (by omega), if_neg (by omega), Nat.add_sub_cancel_left]
    have hl : (be n (nb n)).length = nb n := be_length _ _
    have ht : (be n (nb n) ++ t).take (nb n) = be n (nb n) := by rw [List.take_append_of_le_length (by omega), List.take_of_length_le (by omega)]
    have hd : (be n (nb n) ++ t).drop (nb n) = t := by
      have := List.drop_left (l₁ := be n (nb n)) (l₂ := t)
      rwa [hl] at this
    have hv : val (be n (nb n)) = n := val_be n (nb n) (by rw [pow_256]; exact nb_lt n)
    have he : (enc n).length = nb n + 1 := by unfold enc; rw [if_neg h0]; simp [be_length]
    rw [if_neg (by rw [List.length_append]; omega), ht, hd, hv, he, if_neg (by omega)]
theorem sNum_enc (n : Nat) (m : Int) (t : List UInt8) (h : n < 9223372036854775808) (hm : (n : Int) ≤ m) : sNum m (enc n ++ t) 0 = ((n : Int), t, 0) := by
  unfold sNum
  rw [if_pos rfl, sNumber_enc n t h]
  dsimp only
  rw [if_pos rfl, if_neg (by omega)]
theorem take8 (x : Nat) (t : List UInt8) : (be x 8 ++ t).take 8 = be x 8 ∧ (be x 8 ++ t).drop 8 = t := by
  have hl : (be x 8).length = 8 := be_length _ _
  refine ⟨by rw [List.take_append_of_le_length (by omega), List.take_of_length_le (by omega)], ?_⟩
  have := List.drop_left (l₁ := be x 8) (l₂ := t)
  rwa [hl] at this
theorem sBits_be (x : Nat) (t : List UInt8) (h : x < 18446744073709551616) : sBits (be x 8 ++ t) 0 = (x, t, 0) := by
  unfold sBits
  have hl : ¬ (be x 8 ++ t).length < 8 := by rw [List.length_append, be_length]; omega
  have e : (256 : Nat) ^ 8 = 18446744073709551616 := by decide +kernel
  rw [if_pos rfl, if_neg hl, (take8 x t).1, (take8 x t).2, val_be x 8 (by omega)]
end Go.Proofs.Ytlpfdilnoglgcaa
