/- The contract of join: the bytes of its parts, one behind the other, in new memory. Condition: together they fit 2^48 bytes. -/
import Derived.Test.YtkaaddahegkmgaaGreatPA
import Derived.Lib.Join
namespace Go.Proofs.YtkaaddahegkmgaaGreat
open Go.ChangeShapes Go.WideShapes Go.ChangeAt Go.RowKit
theorem add_plain (b o i : Nat) : (⟨b, o, none⟩ : Addr).add i = ⟨b, o + i, none⟩ := by unfold Addr.add; split <;> simp_all
theorem size5 : (Tryz.prog.info? 5).map (·.size) = some 1 := by kernel_rfl
theorem flat_take (ls : List (List UInt8)) (i : Nat) (l : List UInt8) (h : ls[i]? = some l) : (ls.take (i + 1)).flatten = (ls.take i).flatten ++ l := by
  rw [List.take_add_one, h]; simp
theorem flat_len (ls : List (List UInt8)) : ls.flatten.length = Lib.lens ls := by
  unfold Lib.lens; rw [List.length_flatten]
theorem buf_start (w : World) (N : Nat) : Lib.Buf w (w.alloc (.cells (zeros N).toArray 5)) w.heap.size N [] := by
  have h := Lib.Buf.start w (zeros N).toArray 5 N 0 (by simp [zeros])
  exact h
set_option maxHeartbeats 2000000 in
set_option maxRecDepth 100000 in
theorem join_calls (b o n c : Nat) (vs : List Value) (ls : List (List UInt8)) (w : World) (hn : ls.length = n) (hP : Lib.PartsAt w ⟨b, o, none⟩ vs ls) (hn47 : n ≤ 140737488355328) (T : Nat) (hT : Lib.lens ls = T) (hlen : T ≤ 281474976710656) :
    Calls Tryz.prog 39 #[.slice (some ⟨b, o, none⟩) n c] w fun e w' => e = .returned (.slice (some ⟨w.heap.size, 0, none⟩) T T) ∧ Lib.Buf w w' w.heap.size T ls.flatten := by
  have PA : Hid (Lib.PartsAt w ⟨b, o, none⟩ vs ls) := hP
  have HT : Hid (Lib.lens ls = T) := hT
  clear hP hT
  have hmk := make_bytes T (by omega)
  go_enter Tryz.func39, Tryz.ntmps39
  go_wp2
  go_loop [3, 12] (fun s i => ∃ k : Nat, k ≤ n ∧ i = .int .i64 k ∧ s = .int .i64 ((Lib.lens (ls.take k) : Nat) : Int)) (fun _ i => n - (intOf i).toNat)
  case atStart => exact ⟨0, Nat.zero_le _, rfl, rfl⟩
  case round =>
    obtain ⟨k, hk, rfl, rfl⟩ := hrel
    by_cases hlt : k < n
    · obtain ⟨p, cap, l, hl, hcell, _, _⟩ := PA.out.get k (by omega)
      rw [add_plain] at hcell
      have hs1 := Lib.lens_take_succ ls k l hl
      have hs2 := Lib.lens_take_le ls (k + 1)
      have hb : Lib.lens (ls.take k) + l.length ≤ 281474976710656 := by have := HT.out; omega
      have HS : Hid (Lib.lens (ls.take (k + 1)) = Lib.lens (ls.take k) + l.length) := hs1
      clear hs1 hs2
      generalize Lib.lens (ls.take k) = acc at hb HS
      go_wp2
      go_round
      case rel => exact ⟨k + 1, by omega, by go_num, by rw [HS.out]; go_num⟩
      case measure => simp [intOf]; omega
    · obtain rfl : k = n := by omega
      have hall : ls.take k = ls := by rw [← hn, List.take_length]
      rw [hall, HT.out]
      have B0 : Hid (Lib.Buf w (w.alloc (.cells (zeros T).toArray 5)) w.heap.size T []) := buf_start w T
      have z5 : ∀ w, (Go.sizeOf 5).run Tryz.prog w = .ok 1 w := fun w => by kernel_rfl
      go_wp2
      go_loopw [7, 25] (fun a i wr => ∃ j : Nat, j ≤ k ∧ i = .int .i64 j ∧ a = .int .i64 ((Lib.lens (ls.take j) : Nat) : Int) ∧ Hid (Lib.Buf w wr w.heap.size T (ls.take j).flatten)) (fun _ i _ => k - (intOf i).toNat)
      case atStart => exact ⟨0, Nat.zero_le _, rfl, rfl, B0⟩
      case round =>
        obtain ⟨j, hj, rfl, rfl, HB⟩ := hrel
        by_cases hlt2 : j < k
        · obtain ⟨p, cap, l, hl, hcell, hnil, hcells⟩ := PA.out.get j (by omega)
          rw [add_plain] at hcell
          have hs1 := Lib.lens_take_succ ls j l hl
          have hs2 := Lib.lens_take_le ls (j + 1)
          have hb : Lib.lens (ls.take j) + l.length ≤ T := by have := HT.out; omega
          have HS : Hid (Lib.lens (ls.take (j + 1)) = Lib.lens (ls.take j) + l.length) := hs1
          have hal : (ls.take j).flatten.length = Lib.lens (ls.take j) := flat_len _
          have hcw : wr.cell? ⟨b, o + j, none⟩ = some (.slice p l.length cap) := Lib.Below.cellOf HB.out.below hcell (Nat.le_refl _)
          obtain ⟨w2, hr2, B2⟩ := Lib.copy_part (P := Tryz.prog) w wr w.heap.size T (ls.take j).flatten l (.slice p l.length cap) 26 3 5 Tryz.underlying26 size5 (Nat.le_refl _) HB.out ⟨p, cap, rfl, hnil, hcells⟩ (by rw [hal]; omega)
          rw [hal] at hr2
          have hsl : ∀ W, (Instr.slice 26 (.slice (some ⟨w.heap.size, 0, none⟩) T T) (some (.int .i64 ((Lib.lens (ls.take j) : Nat) : Int))) none none).run Tryz.prog W = .ok (Lib.tailV w.heap.size T (Lib.lens (ls.take j))) W := fun W => Lib.run_slice_tailV W 26 5 Tryz.underlying26 z5 _ T _ (by omega)
          have HB2 : Hid (Lib.Buf w w2 w.heap.size T ((ls.take j).flatten ++ l)) := B2
          clear B2 hcell hnil hcells hs1 hs2 hal
          generalize Lib.lens (ls.take j) = acc at hb HS hr2 hsl
          go_wp2_with (at_builtin; refine Lib.wpList_copy_run _ rfl _ _ 26 26 rfl _ _ rfl rfl hr2 ?_)
          go_roundw
          case rel => exact ⟨j + 1, by omega, by go_num, by rw [HS.out]; go_num, by rw [flat_take ls j l hl]; exact HB2⟩
          case measure => simp [intOf]; omega
        · obtain rfl : j = k := by omega
          rw [hall] at HB
          go_wp2
          go_ret
          exact ⟨rfl, HB.out⟩
end Go.Proofs.YtkaaddahegkmgaaGreat
