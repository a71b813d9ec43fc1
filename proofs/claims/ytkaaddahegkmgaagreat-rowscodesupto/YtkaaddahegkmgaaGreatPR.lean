/- The contracts of the reference's copied and high: bytes in memory of the call's own, to which more are appended. Condition: at most 2^46 bytes. -/
import Derived.Test.YtkaaddahegkmgaaGreatPE
namespace Go.Proofs.YtkaaddahegkmgaaGreat
open Go.ChangeShapes Go.WideShapes Go.ChangeAt Go.RowKit
/-- The bytes l lie in memory from block B on, which the holder may append to. -/
def Own (B : Nat) (w : World) (v : Value) (l : List UInt8) : Prop := w.ownsRow B 5 1 v l.length (bval l)
theorem copied_calls (v : Value) (l : List UInt8) (w : World) (hv : Lib.HoldsBytes w v l) (hl : l.length ≤ 70368744177664) :
    Calls Tryz.prog 51 #[v] w fun e w' => ∃ v', e = .returned v' ∧ Own w.heap.size w' v' l ∧ Below w.heap.size w w' := by
  obtain ⟨p, cap, rfl, h1, h2⟩ := hv
  obtain ⟨i0, hi, hz0, hz1, hz2⟩ := info_parts Tryz.info5
  cases p with
  | none =>
    have hn : l = [] := h1 rfl
    subst hn
    clear h1 h2 hl
    go_enter Tryz.func51, Tryz.ntmps51
    go_wp2
    go_ret
    exact ⟨_, rfl, World.ownsRow_nil _ _ _ _, Below.refl _ _⟩
  | some a =>
    have HC : Hid (∀ (i : Nat) x, l[i]? = some x → w.cell? (a.add i) = some (.int .u8 (x.toNat : Int))) := h2 a rfl
    clear h1 h2
    go_enter Tryz.func51, Tryz.ntmps51
    go_wp2_with (at_builtin; refine wpList_append_own _ rfl _ _ 26 rfl w.heap.size 5 i0 (.int .u8 0) 1 1 Tryz.underlying26 hi hz0 hz1 hz2 rfl (by decide) _ _ _ rfl (World.ownsRow_nil _ _ _ _) a l.length cap (bval l) rfl ?qc1 ?qc2 ?qc3 ?qc4 ?qc5 ?qc6 ?_)
    case qc1 => simp [bval]
    case qc2 =>
      intro j u hj
      unfold bval at hj
      rw [List.getElem?_map] at hj
      obtain ⟨x, hx, rfl⟩ := Option.map_eq_some_iff.1 hj
      exact HC.out j x hx
    case qc3 => intro u hu; obtain ⟨x, _, rfl⟩ := List.mem_map.1 hu; rfl
    case qc4 => unfold maxLen; omega
    case qc5 => omega
    case qc6 => exact Nat.le_refl _
    intro v' w1 hown hgrow hnil
    go_wp2
    go_ret
    refine ⟨v', rfl, by simpa [Own] using hown, ?_⟩
    exact (Below.refl _ w).grown hgrow (Nat.le_refl _) (by intro k hk; simp [Value.ownBlock] at hk)
theorem div_step (x i : Nat) : x / 256 ^ (i + 1) = x / 256 ^ i / 256 := by rw [Nat.pow_succ, Nat.div_div_eq_div_mul]
theorem pow_256 (j : Nat) : (256 : Nat) ^ j = 2 ^ (8 * j) := by rw [show (256 : Nat) = 2 ^ 8 from rfl, ← Nat.pow_mul]
theorem byte_lit (y : Nat) : Value.int .u8 ((y : Int) % 256) = .int .u8 ((UInt8.ofNat y).toNat : Int) := by
  have e : ((UInt8.ofNat y).toNat : Int) = (y : Int) % 256 := by rw [UInt8.toNat_ofNat']; omega
  rw [e]
set_option maxHeartbeats 1000000 in
theorem high_calls (B : Nat) (v : Value) (l : List UInt8) (x k : Nat) (w : World) (hx : x < 18446744073709551616) (hk : k ≤ 8) (hB : B ≤ w.heap.size) (hv : Own B w v l) (hl : l.length ≤ 70368744177664) :
    Calls Tryz.prog 60 #[v, .int .u64 (x : Int), .int .i64 (k : Int)] w fun e w' => ∃ v', e = .returned v' ∧ Own B w' v' (l ++ be x k) ∧ Below B w w' := by
  obtain ⟨i0, hi, hz0, hz1, hz2⟩ := info_parts Tryz.info5
  have HV : Hid (Own B w v l) := hv
  clear hv
  obtain ⟨L, hL⟩ : ∃ L, L = l ++ be x k := ⟨_, rfl⟩
  have HL : Hid (L = l ++ be x k) := hL
  rw [← hL]
  have HX : Hid (x < 18446744073709551616) := hx
  clear hL hx
  go_enter Tryz.func60, Tryz.ntmps60
  go_wp2
  go_loopw [0, 2] (fun b i wr => ∃ (j : Nat) (acc : List UInt8), j ≤ k ∧ i = .int .i64 j ∧ Hid (Own B wr b acc) ∧ Hid (Below B w wr) ∧ Hid (acc ++ be x j = L)) (fun _ i _ => (intOf i).toNat)
  case atStart => exact ⟨k, l, Nat.le_refl _, rfl, HV, Below.refl _ _, HL.out.symm⟩
  case round =>
    obtain ⟨j, acc, hj, rfl, HO, HB, HE⟩ := hrel
    cases j with
    | zero =>
      go_wp2
      go_ret
      have he : acc = L := by have := HE.out; simpa [be] using this
      rw [he] at HO
      exact ⟨_, rfl, HO.out, HB.out⟩
    | succ j =>
      have hj0 : (0 : Int) < ((j + 1 : Nat) : Int) := by omega
      have hacc : acc.length ≤ 70368744177672 := by
        have h1 := congrArg List.length HE.out
        rw [HL.out] at h1
        simp [be_length] at h1
        omega
      have hws : B ≤ wr.heap.size := Nat.le_trans hB HB.out.size
      go_wp2
      go_loop [7, 8] (fun y i => ∃ m : Nat, m ≤ j ∧ i = .int .i64 m ∧ y = .int .u64 ((x / 256 ^ m : Nat) : Int)) (fun _ i => j - (intOf i).toNat)
      case atStart => exact ⟨0, Nat.zero_le _, rfl, by simp⟩
      case round =>
        obtain ⟨m, hm, rfl, rfl⟩ := hrel
        have HS : Hid (x / 256 ^ (m + 1) = x / 256 ^ m / 256) := div_step x m
        obtain ⟨q, hq⟩ : ∃ q, x / 256 ^ m = q := ⟨_, rfl⟩
        rw [hq] at HS ⊢
        have HQ : Hid (x / 256 ^ m = q) := hq
        have hqu : (q : Int) ≤ 18446744073709551615 := by
          have h1 := HX.out
          have h2 := Nat.div_le_self x (256 ^ m)
          omega
        clear hq
        by_cases hlt : m < j
        · go_wp2
          go_round
          case rel => exact ⟨m + 1, by omega, by go_num, by rw [HS.out]; go_num⟩
          case measure => simp [intOf]; omega
        · obtain rfl : m = j := by omega
          go_wp2_with (at_builtin; refine wpList_append_own _ rfl _ _ 26 rfl B 5 i0 (.int .u8 0) 1 1 Tryz.underlying26 hi hz0 hz1 hz2 rfl (by decide) _ _ _ rfl (HO.out.alloc _) ⟨wr.heap.size, 0, none⟩ 1 1 (bval [UInt8.ofNat q]) rfl ?qc1 ?qc2 ?qc3 ?qc4 ?qc5 ?qc6 ?_)
          case qc1 => rfl
          case qc2 =>
            intro i u hu
            rw [byte_lit q]
            exact hu
          case qc3 => intro u hu; obtain ⟨x, _, rfl⟩ := List.mem_map.1 hu; rfl
          case qc4 => unfold maxLen; omega
          case qc5 => omega
          case qc6 => omega
          intro v' w1 hown hgrow hnil
          have HW : Hid (Own B w1 v' (acc ++ [UInt8.ofNat q])) := by
            show w1.ownsRow B 5 1 v' _ _
            have e1 : (acc ++ [UInt8.ofNat q]).length = acc.length + 1 := by simp
            have e2 : bval (acc ++ [UInt8.ofNat q]) = bval acc ++ bval [UInt8.ofNat q] := by simp [bval]
            rw [e1, e2]
            exact hown
          have HBW : Hid (Below B w w1) := by
            refine (HB.out.alloc hws _).grown hgrow (by simp; omega) ?_
            intro kk hkk
            exact (World.ownsRow.lt HO.out kk hkk).1
          clear hown hgrow hnil
          go_wp2
          go_roundw
          case rel =>
            refine ⟨m, acc ++ [UInt8.ofNat q], by omega, by go_num, HW, HBW, ?_⟩
            show _ = L
            rw [← HE.out, ← HQ.out, pow_256]
            simp [be]
          case measure => simp [intOf]
end Go.Proofs.YtkaaddahegkmgaaGreat
