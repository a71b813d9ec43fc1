/- What was put together is read: plain facts on heads, snapshots, records, whole and torn. -/
import Derived.Test.YthakbkkopneilaaDoorA
import Derived.Test.YthakbkkopneilaaDoorY
import Derived.Test.YthakbkkopneilaaDoorQB
namespace Go.Proofs.YthakbkkopneilaaDoor
open Go.ChangeShapes Go.WideShapes Go.ChangeAt Go.RowKit
theorem takeL_seal (a p t : List UInt8) (k : UInt8) (hp : p.length ≤ 1048576) : takeL (a ++ (sealL k p ++ t)) a.length k = some p := by
  unfold takeL
  rw [List.drop_left, nextL_seal k p t hp]
  simp
theorem takeL_other (a p t : List UInt8) (k k' : UInt8) (hk : k ≠ k') (hp : p.length ≤ 1048576) : takeL (a ++ (sealL k p ++ t)) a.length k' = none := by
  unfold takeL
  rw [List.drop_left, nextL_seal k p t hp]
  simp [hk]
theorem nextL_torn (k : UInt8) (p t : List UInt8) (r : Nat) (hp : p.length ≤ 1048576) (hr : r < 9 + p.length) : nextL ((sealL k p ++ t).take r) = .bad 4 := by
  have e : (sealL k p ++ t).take r = (sealL k p).take r := List.take_append_of_le_length (by rw [sealL_length]; omega)
  rw [e]
  have hl : ((sealL k p).take r).length = r := by rw [List.length_take, sealL_length]; omega
  unfold nextL
  by_cases h9 : r < 9
  · rw [if_pos (by omega)]
  · have hn : num4 ((sealL k p).take r) = p.length := by
      have : (sealL k p).take r = be4 p.length ++ ((be4 (more 0 (k :: p)) ++ k :: p).take (r - 4)) := by
        unfold sealL
        rw [List.take_append]
        simp [be4]
        congr 1
        rw [List.take_of_length_le (by simp; omega)]
        rfl
      rw [this]
      exact num4_be4 _ (by omega) _
    rw [if_neg (by omega), hn, if_neg (by omega), if_pos (by omega)]
theorem takeL_torn (a p t : List UInt8) (k k' : UInt8) (r : Nat) (hp : p.length ≤ 1048576) (hr : r < 9 + p.length) : takeL (a ++ (sealL k p ++ t).take r) a.length k' = none := by
  unfold takeL
  rw [List.drop_left, nextL_torn k p t r hp hr]
theorem takeL_end (a : List UInt8) (k : UInt8) : takeL a a.length k = none := by
  have := takeL_torn a [] [] 0 k 0 (by simp) (by simp)
  simpa using this
theorem headOf_headL (n f : Int) (t : List UInt8) (h1 : 1 ≤ n) (hn : n < 9223372036854775808) (h0 : 0 ≤ f) (hf : f < 9223372036854775808) : headOf (headL n f ++ t) = some (n, f, (headL n f).length) := by
  have hp := headP_length n f hn hf
  have ht : takeL (headL n f ++ t) 0 1 = some (headP n f) := takeL_seal [] (headP n f) t 1 (by omega)
  have a1 : PK.sNum 9223372036854775807 (headP n f) 0 = (n, PK.enc f.toNat, 0) := by
    unfold headP
    rw [PK.sNum_enc n.toNat 9223372036854775807 _ (by omega) (by omega)]
    rw [Int.toNat_of_nonneg (by omega)]
  have a2 : PK.sNum 9223372036854775807 (PK.enc f.toNat) 0 = (f, [], 0) := by
    have := PK.sNum_enc f.toNat 9223372036854775807 [] (by omega) (by omega)
    rw [List.append_nil] at this
    rw [this, Int.toNat_of_nonneg h0]
  unfold headOf
  rw [ht]
  simp only [a1, a2]
  rw [if_pos ⟨by decide, h1⟩]
  unfold headL
  rw [sealL_length]
/-- Records, sealed, one behind the other. -/
def flat3 : List (List UInt8) → List UInt8
  | [] => []
  | p :: ps => sealL 3 p ++ flat3 ps
theorem flat3_length : ∀ rs : List (List UInt8), (flat3 rs).length = rwide rs
  | [] => rfl
  | p :: ps => by simp only [flat3, rwide, List.length_append, sealL_length, flat3_length ps]
theorem recsL_flat (rs : List (List UInt8)) (h : ∀ p ∈ rs, p.length ≤ 1048576) : ∀ (a t : List UInt8), recsL (a ++ (flat3 rs ++ t)) a.length = rs ++ recsL ((a ++ flat3 rs) ++ t) (a ++ flat3 rs).length := by
  induction rs with
  | nil => intro a t; simp [flat3]
  | cons p ps ih =>
    intro a t
    have e : a ++ (flat3 (p :: ps) ++ t) = a ++ (sealL 3 p ++ (flat3 ps ++ t)) := by simp [flat3]
    rw [e, recsL_some (takeL_seal a p (flat3 ps ++ t) 3 (h p (by simp)))]
    have e2 : a ++ (sealL 3 p ++ (flat3 ps ++ t)) = (a ++ sealL 3 p) ++ (flat3 ps ++ t) := by simp
    have e3 : a.length + (9 + p.length) = (a ++ sealL 3 p).length := by rw [List.length_append, sealL_length]
    rw [e2, e3, ih (fun q hq => h q (by simp [hq])) (a ++ sealL 3 p) t]
    simp [flat3]
/-- Of records and the torn beginning of one more, the whole ones are read. -/
theorem recsL_cut (rs : List (List UInt8)) (h : ∀ p ∈ rs, p.length ≤ 1048576) (a q t : List UInt8) (r : Nat) (hq : q.length ≤ 1048576) (hr : r < 9 + q.length) : recsL (a ++ (flat3 rs ++ (sealL 3 q ++ t).take r)) a.length = rs := by
  rw [recsL_flat rs h a _, recsL_none (takeL_torn (a ++ flat3 rs) q t 3 3 r hq hr), List.append_nil]
theorem recsL_all (rs : List (List UInt8)) (h : ∀ p ∈ rs, p.length ≤ 1048576) (a : List UInt8) : recsL (a ++ flat3 rs) a.length = rs := by
  have := recsL_flat rs h a []
  rw [List.append_nil, List.append_nil] at this
  rw [this, recsL_none (takeL_end _ 3), List.append_nil]
end Go.Proofs.YthakbkkopneilaaDoor
