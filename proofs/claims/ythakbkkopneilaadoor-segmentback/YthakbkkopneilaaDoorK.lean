/- Next of a sealed frame, whatever stands behind it; the contract of awake. -/
import Derived.Test.YthakbkkopneilaaDoorJ
import Derived.Lib.SlBytesConst
namespace Go.Proofs.YthakbkkopneilaaDoor
open Go.ChangeShapes Go.WideShapes Go.ChangeAt Go.RowKit
theorem num4_be4 (n : Nat) (hn : n < 4294967296) (t : List UInt8) : num4 (be4 n ++ t) = n := by
  simp only [be4, List.cons_append, List.nil_append, num4, UInt8.toNat_ofNat']
  omega
theorem nextL_seal (k : UInt8) (l t : List UInt8) (hl : l.length ≤ 1048576) : nextL (sealL k l ++ t) = .ok k l := by
  have hm := more_lt 0 (k :: l) (by omega)
  have e0 : sealL k l ++ t = be4 l.length ++ (be4 (more 0 (k :: l)) ++ (k :: l ++ t)) := by simp [sealL]
  have n0 : num4 (sealL k l ++ t) = l.length := by rw [e0]; exact num4_be4 _ (by omega) _
  have d4 : (sealL k l ++ t).drop 4 = be4 (more 0 (k :: l)) ++ (k :: l ++ t) := by rw [e0]; simp [be4]
  have n1 : num4 ((sealL k l ++ t).drop 4) = more 0 (k :: l) := by rw [d4]; exact num4_be4 _ hm _
  have hlen : (sealL k l ++ t).length = 9 + l.length + t.length := by rw [List.length_append, sealL_length]
  have t8 : ((sealL k l ++ t).take (9 + l.length)).drop 8 = k :: l := by
    rw [List.take_append_of_le_length (by rw [sealL_length]; omega), List.take_of_length_le (by rw [sealL_length]; omega)]
    simp [sealL, be4]
  have g8 : (sealL k l ++ t).getD 8 0 = k := by simp [sealL, be4]
  have d9 : ((sealL k l ++ t).drop 9).take l.length = l := by
    have : (sealL k l ++ t).drop 9 = l ++ t := by simp [sealL, be4]
    rw [this]
    exact List.take_left
  unfold nextL
  rw [if_neg (by omega), n0, if_neg (by omega), if_neg (by omega), n1, t8, if_neg (by simp), g8, d9]
end Go.Proofs.YthakbkkopneilaaDoor
