/- The contracts of highFirst and of the sizes of numbers. -/
import Derived.Test.YtkaaddahegkmgaaGreatRows
import Derived.WalkKit
import Derived.WalkLawsBesides
import Derived.WalkSpells
import Derived.ProofKit
import Derived.OpenShut
import Derived.Below
import Derived.Lib.SlBuf
import Derived.Deep.LoopGhost
namespace Go.Proofs.YtkaaddahegkmgaaGreat
open Go.ChangeShapes Go.WideShapes Go.ChangeAt Go.RowKit
theorem Tryz.info5 : (Tryz.prog.info? 5).map (fun i => (i.zero, i.size, i.bytes)) = some (some (.int .u8 0), 1, 1) := by kernel_rfl

def zeros (k : Nat) : List Value := List.replicate k (.int .u8 0)
theorem made_zeros (k : Nat) : madeCells (Value.int .u8 0).cells k = (zeros k).toArray := by
  apply Array.ext
  · simp [madeCells, zeros]
  · intro i h1 h2
    simp [madeCells, zeros, Value.cells, Nat.mod_one]
theorem make_bytes (k : Nat) (h : k ≤ 281474976710656) (w : World) : (Instr.makeSlice 26 (.int .i64 (k : Int)) (.int .i64 (k : Int))).run Tryz.prog w = .ok (.slice (some ⟨w.heap.size, 0, none⟩) k k) (w.alloc (.cells (zeros k).toArray 5)) := by
  obtain ⟨i0, hi, hz0, hz1, hz2⟩ := info_parts Tryz.info5
  rw [run_make (P := Tryz.prog) w 26 5 i0 (.int .u8 0) Tryz.underlying26 hi hz0 .i64 .i64 k k (by omega) (by omega) (by rw [hz2]; omega) (by omega)]
  rw [Int.toNat_natCast, hz1, Nat.mul_one, made_zeros]
/-- Behind j rounds of highFirst: the last j cells are laid. -/
def hf (x k : Nat) : Nat → List Value
  | 0 => zeros k
  | j + 1 => (hf x k j).set (k - 1 - j) (.int .u8 ((x : Int) / 2 ^ (8 * j) % 256))
theorem hf_length (x k j : Nat) : (hf x k j).length = k := by
  induction j with
  | zero => simp [hf, zeros]
  | succ j ih => simp [hf, ih]
/-- The bytes of x from the highest on, k of them. -/
def be (x : Nat) : Nat → List UInt8
  | 0 => []
  | k + 1 => UInt8.ofNat (x / 2 ^ (8 * k)) :: be x k
theorem be_length (x k : Nat) : (be x k).length = k := by
  induction k with
  | zero => rfl
  | succ k ih => simp [be, ih]
def bval (l : List UInt8) : List Value := l.map fun b => .int .u8 (b.toNat : Int)
theorem bval_length (l : List UInt8) : (bval l).length = l.length := by simp [bval]
theorem byte_val (x j : Nat) : Value.int .u8 ((x : Int) / 2 ^ (8 * j) % 256) = .int .u8 ((UInt8.ofNat (x / 2 ^ (8 * j))).toNat : Int) := by
  have e : ((UInt8.ofNat (x / 2 ^ (8 * j))).toNat : Int) = (x : Int) / 2 ^ (8 * j) % 256 := by
    rw [UInt8.toNat_ofNat']
    simp
  rw [e]
theorem hf_eq (x k j : Nat) (h : j ≤ k) : hf x k j = zeros (k - j) ++ bval (be x j) := by
  induction j with
  | zero => simp [hf, be, bval]
  | succ j ih =>
    rw [hf, ih (by omega)]
    have e : k - j = (k - (j + 1)) + 1 := by omega
    have z : zeros (k - j) = zeros (k - (j + 1)) ++ [.int .u8 0] := by
      unfold zeros; rw [e, List.replicate_succ']
    rw [z, List.append_assoc, List.set_append_right _ _ (by simp [zeros]; omega)]
    have i0 : k - 1 - j - (zeros (k - (j + 1))).length = 0 := by simp [zeros]; omega
    rw [i0]
    simp only [List.cons_append, List.nil_append, List.set_cons_zero]
    rw [byte_val]
    rfl
theorem hf_full (x k : Nat) : hf x k k = bval (be x k) := by
  rw [hf_eq x k k (Nat.le_refl _)]; simp [zeros]
set_option maxRecDepth 100000 in
theorem highFirst_calls (x k : Nat) (hk : k ≤ 8) (w : World) : Calls Tryz.prog 103 #[.int .u64 (x : Int), .int .i64 (k : Int)] w fun e w' => e = .returned (.slice (some ⟨w.heap.size, 0, none⟩) k k) ∧ w' = w.alloc (.cells (bval (be x k)).toArray 5) := by
  have hmk := make_bytes k (by omega)
  rw [← hf_full]
  go_enter Tryz.func103, Tryz.ntmps103
  go_wp2
  go_loopw [11] (fun i wr => ∃ j : Nat, j ≤ k ∧ i = .int .i64 j ∧ wr = w.alloc (.cells (hf x k j).toArray 5)) (fun i _ => k - (intOf i).toNat)
  case atStart => exact ⟨0, Nat.zero_le _, rfl, rfl⟩
  case round =>
    obtain ⟨j, hj, rfl, rfl⟩ := hrel
    by_cases hlt : j < k
    · obtain ⟨v, hv⟩ : ∃ v, (hf x k j)[k - 1 - j]? = some v := ⟨_, List.getElem?_eq_getElem (by rw [hf_length]; omega)⟩
      go_wp2
      go_roundw
      case rel => exact ⟨j + 1, by omega, by go_num, by simp [hf]⟩
      case measure => simp [intOf]; omega
    · obtain rfl : j = k := by omega
      go_wp2
      go_ret
      exact ⟨rfl, rfl⟩
end Go.Proofs.YtkaaddahegkmgaaGreat
