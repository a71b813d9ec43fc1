/- The contracts of slices.Grow at nil and of slices.Concat: the bytes of all parts, one behind the other, in new memory. Condition: together at most 2^48 bytes. -/
import Derived.Test.YtkaaddahegkmgaaGreatPE
import Derived.Laws.CopyOwn
import Derived.Deep.WholeRow
import Derived.Lib.AppendZerosOnto
import Derived.Lib.SlParts
import Derived.Lib.Join
namespace Go.Proofs.YtkaaddahegkmgaaGreat
open Go.ChangeShapes Go.WideShapes Go.ChangeAt Go.RowKit
theorem info5 : (Tryz.prog.info? 5).map (fun i => (i.zero, i.size, i.bytes)) = some (some (.int .u8 0), 1, 1) := by kernel_rfl
theorem bval_append (l m : List UInt8) : bval (l ++ m) = bval l ++ bval m := by simp [bval]
theorem row_last (w : World) (o : Obj) : (w.alloc o).heap[w.heap.size]? = some o := heap_alloc_last w o
/-- The bytes so far, in memory of the call's own from block n on, with room for N in all. -/
def Ap (n N : Nat) (w : World) (v : Value) (acc : List UInt8) : Prop :=
  (v = .slice none 0 0 ∧ N = 0 ∧ acc = []) ∨
  ∃ g C cur, v = .slice (some ⟨g, 0, none⟩) acc.length C ∧ n ≤ g ∧ w.heap[g]? = some (.cells cur 5 (0, 0)) ∧ N ≤ C ∧ C ≤ maxLen ∧ cur.size = C ∧ cur.toList.take acc.length = bval acc
theorem Ap.holds {n N : Nat} {w : World} {v : Value} {acc : List UInt8} (h : Ap n N w v acc) : Lib.HoldsBytes w v acc := by
  rcases h with ⟨rfl, _, rfl⟩ | ⟨g, C, cur, rfl, _, hg, _, _, _, ht⟩
  · exact holds_nil w
  · refine ⟨_, _, rfl, (fun h => by cases h), ?_⟩
    intro a ha i x hx
    cases ha
    rw [add_plain, Nat.zero_add, cell_of_row w g i cur 5 (0, 0) hg]
    have hi : i < acc.length := (List.getElem?_eq_some_iff.1 hx).1
    have e : (cur.toList.take acc.length)[i]? = (bval acc)[i]? := by rw [ht]
    rw [List.getElem?_take_of_lt hi] at e
    rw [← Array.getElem?_toList, e, bval, List.getElem?_map, hx]
    rfl
theorem ap_step {n N : Nat} {w : World} {v x : Value} {acc l : List UInt8} (h : Ap n N w v acc) (hx : Lib.HoldsBytes w x l) (hN : acc.length + l.length ≤ N) :
    ∃ v' w', (∀ ty, (Builtin.append_ #[26, 26] ty #[v, x]).run Tryz.prog w = .ok v' w') ∧ Ap n N w' v' (acc ++ l) ∧ Below n w w' := by
  obtain ⟨i0, hi, hz0, hz1, hz2⟩ := info_parts info5
  obtain ⟨p, cap, rfl, h1, h2⟩ := hx
  rcases h with ⟨rfl, rfl, rfl⟩ | ⟨g, C, cur, rfl, hg0, hg, hNC, hC, hs, ht⟩
  · have hl : l = [] := List.eq_nil_of_length_eq_zero (by simpa using hN)
    subst hl
    refine ⟨.slice none 0 0, w, fun ty => ?_, .inl ⟨rfl, rfl, rfl⟩, Below.refl _ _⟩
    cases p <;> simp [Builtin.append_, run_underlying Tryz.underlying26, sizeOf, typeInfo, hi, Builtin.lenOf, Builtin.firstCells, loadCells, loadCellsFrom]
  · cases p with
    | none =>
      have hl : l = [] := h1 rfl
      subst hl
      refine ⟨.slice (some ⟨g, 0, none⟩) acc.length C, w, fun ty => ?_, .inr ⟨g, C, cur, by simp, hg0, hg, hNC, hC, hs, by simpa using ht⟩, Below.refl _ _⟩
      simp only [List.length_nil, Nat.add_zero] at hN
      have hle : acc.length ≤ C := Nat.le_trans hN hNC
      simp [Builtin.append_, run_underlying Tryz.underlying26, sizeOf, typeInfo, hi, Builtin.lenOf, Builtin.firstCells, hle, storeCells]
    | some a =>
      have hr := fun ty => run_append_room (P := Tryz.prog) w 26 ty 5 i0 Tryz.underlying26 hi g acc.length C cur hg a l.length cap (bval l) (by rw [bval_length, hz1, Nat.mul_one])
        (fun j u hu => by
          rw [bval, List.getElem?_map] at hu
          obtain ⟨y, hy, rfl⟩ := Option.map_eq_some_iff.1 hu
          exact h2 a rfl j y hy)
        (fun u hu => by obtain ⟨y, _, rfl⟩ := List.mem_map.1 hu; rfl) (Nat.le_trans hN hNC) (by rw [hz1, Nat.mul_one, bval_length, hs]; exact Nat.le_trans hN hNC)
      rw [hz1, Nat.mul_one] at hr
      refine ⟨_, _, hr, .inr ⟨g, C, _, by rw [List.length_append], hg0, setRow_heap w g cur _ 5 _ hg, hNC, hC, ?_, ?_⟩, below_setRow (Below.refl _ _) hg0 _⟩
      · simp only [List.size_toArray, List.length_append, List.length_take, List.length_drop, Array.length_toList, bval_length]
        omega
      · rw [ht, bval_append, List.length_append, ← bval_length acc, ← bval_length l, ← List.length_append]
        exact List.take_left
theorem grow_calls (N : Nat) (hN : N ≤ 281474976710656) (w : World) : Calls Tryz.prog 56 #[.slice none 0 0, .int .i64 (N : Int)] w fun e w' => ∃ v, e = .returned v ∧ Ap w.heap.size N w' v [] ∧ Below w.heap.size w w' := by
  obtain ⟨i0, hi, hz0, hz1, hz2⟩ := info_parts info5
  by_cases h0 : N = 0
  · subst h0
    clear hN
    go_enter Tryz.func56, Tryz.ntmps56
    go_wp2
    go_ret
    exact ⟨_, rfl, .inl ⟨rfl, rfl, rfl⟩, Below.refl _ _⟩
  · have hrz : ∀ ty, (Builtin.append_ #[26, 3] ty #[.slice none 0 0, .int .i64 (N : Int)]).run Tryz.prog w = _ := fun ty =>
      Lib.run_append_grow_zeros (P := Tryz.prog) w 26 3 ty 5 i0 (.int .u8 0) .i64 .i64 Tryz.underlying26 Tryz.underlying3 hi hz0 none 0 0 [] (run_firstCells_none w.drew i0.size 0 0 0) N (by omega) (by omega) (by omega) (by omega) (by rw [hz2]; omega)
        (by rw [hz2, Nat.zero_add, nextslicecap_zero (by omega)]; omega)
    simp only [Nat.zero_add] at hrz
    have hGn : N ≤ grownCap w N 0 5 := grownCap_ge w _ _ _
    have hGm := grownCap_le_maxLen w N 0 5 (by unfold maxLen; omega)
    generalize grownCap w N 0 5 = G at hrz hGn hGm
    have hsz : (([] : List Value).toArray ++ Builtin.zeroCells (Value.int .u8 0).cells N ++ Builtin.zeroCells (Value.int .u8 0).cells (G - N)).size = G := by simp [size_zeroCells, Value.cells]; omega
    generalize ([] : List Value).toArray ++ Builtin.zeroCells (Value.int .u8 0).cells N ++ Builtin.zeroCells (Value.int .u8 0).cells (G - N) = cur at hrz hsz
    have HA : Hid (Ap w.heap.size N (w.alloc (.cells cur 5)).drew (.slice (some ⟨w.heap.size, 0, none⟩) 0 G) []) :=
      .inr ⟨w.heap.size, G, cur, rfl, Nat.le_refl _, row_last w _, hGn, hGm, hsz, rfl⟩
    have HB : Hid (Below w.heap.size w (w.alloc (.cells cur 5)).drew) := ((Below.refl _ w).alloc (Nat.le_refl _) _).drew
    have d0 : decide ((N : Int) < 0) = false := decide_eq_false (by omega)
    have d1 : 0 < N := by omega
    have hw : wrap64 (N : Int) = (N : Int) := by unfold wrap64; omega
    rw [← hw] at hrz
    have HR : Hid (∀ ty, _) := hrz
    clear hrz h0 hN hGn hi hz0 hz1 hz2 hGm hsz
    go_enter Tryz.func56, Tryz.ntmps56
    go_wp2_with (at_builtin; go_must (refine Lib.wpList_append_run w rfl _ _ 26 3 rfl (.slice none 0 0) (.int .i64 (wrap64 (N : Int))) rfl rfl _ _ (HR.out _) ?_))
    all_goals go_ret
    all_goals exact ⟨_, rfl, HA.out, HB.out⟩
set_option maxHeartbeats 2000000 in
set_option maxRecDepth 100000 in
theorem concat_calls (b n c : Nat) (vs : List Value) (ls : List (List UInt8)) (w : World) (hn : ls.length = n) (hP : Lib.PartsAt w ⟨b, 0, none⟩ vs ls) (hn47 : n ≤ 140737488355328) (T : Nat) (hT : Lib.lens ls = T) (hlen : T ≤ 281474976710656) :
    Calls Tryz.prog 26 #[.slice (some ⟨b, 0, none⟩) n c] w fun e w' => ∃ v, e = .returned v ∧ Lib.HoldsBytes w' v ls.flatten ∧ Below w.heap.size w w' := by
  have PA : Hid (Lib.PartsAt w ⟨b, 0, none⟩ vs ls) := hP
  have HT : Hid (Lib.lens ls = T) := hT
  have HG : Hid (Calls _ _ _ _ _) := grow_calls T hlen w
  clear hP hT
  go_enter Tryz.func26, Tryz.ntmps26
  go_wp2
  go_loop [3, 11] (fun s i => ∃ k : Nat, k ≤ n ∧ i = .int .i64 k ∧ s = .int .i64 ((Lib.lens (ls.take k) : Nat) : Int)) (fun _ i => n - (intOf i).toNat)
  case atStart => exact ⟨0, Nat.zero_le _, rfl, rfl⟩
  case round =>
    obtain ⟨k, hk, rfl, rfl⟩ := hrel
    by_cases hlt : k < n
    · obtain ⟨p, cap, l, hl, hcell, _, _⟩ := PA.out.get k (by omega)
      rw [add_plain] at hcell
      simp only [Nat.zero_add] at hcell
      have hs1 := Lib.lens_take_succ ls k l hl
      have hs2 := Lib.lens_take_le ls (k + 1)
      have hb : Lib.lens (ls.take k) + l.length ≤ 281474976710656 := by have := HT.out; omega
      have HS : Hid (Lib.lens (ls.take (k + 1)) = Lib.lens (ls.take k) + l.length) := hs1
      clear hs1 hs2
      generalize Lib.lens (ls.take k) = acc at hb HS
      have hw : wrap64 ((acc : Int) + (l.length : Int)) = (acc : Int) + (l.length : Int) := by unfold wrap64; omega
      have hd : decide ((acc : Int) + (l.length : Int) < 0) = false := decide_eq_false (by omega)
      go_wp2
      go_round
      case rel => exact ⟨k + 1, by omega, by go_num, by rw [HS.out]; go_num⟩
      case measure => simp [intOf]; omega
    · obtain rfl : k = n := by omega
      have hall : ls.take k = ls := by rw [← hn, List.take_length]
      rw [hall, HT.out]
      go_wp2_with fail
      refine Calls.mono HG.out ?_
      rintro e w1 ⟨v1, rfl, hA1, hB1⟩
      have HA1 : Hid (Ap w.heap.size T w1 v1 []) := hA1
      have HB1 : Hid (Below w.heap.size w w1) := hB1
      clear hA1 hB1
      go_wp2
      go_loopw [6, 27] (fun v i wr => ∃ j : Nat, j ≤ k ∧ i = .int .i64 j ∧ Hid (Ap w.heap.size T wr v (ls.take j).flatten) ∧ Hid (Below w.heap.size w wr)) (fun _ i _ => k - (intOf i).toNat)
      case atStart => exact ⟨0, Nat.zero_le _, rfl, HA1, HB1⟩
      case round =>
        obtain ⟨j, hj, rfl, HA, HB⟩ := hrel
        by_cases hlt2 : j < k
        · obtain ⟨p, cap, l, hl, hcell, hnil, hcells⟩ := PA.out.get j (by omega)
          rw [add_plain] at hcell
          simp only [Nat.zero_add] at hcell
          have hs1 := Lib.lens_take_succ ls j l hl
          have hs2 := Lib.lens_take_le ls (j + 1)
          have hal : (ls.take j).flatten.length = Lib.lens (ls.take j) := flat_len _
          have hb : (ls.take j).flatten.length + l.length ≤ T := by have := HT.out; omega
          have hcw : wr.cell? ⟨b, j, none⟩ = some (.slice p l.length cap) := Lib.Below.cellOf HB.out hcell (Nat.le_refl _)
          have hh : Lib.HoldsBytes wr (.slice p l.length cap) l := ⟨p, cap, rfl, hnil, fun a ha i x hx => Lib.Below.cellOf HB.out (hcells a ha i x hx) (Nat.le_refl _)⟩
          obtain ⟨v2, w2, hr2, hA2, hB2⟩ := ap_step HA.out hh hb
          have HR : Hid (∀ ty, _) := hr2
          have HA2 : Hid (Ap w.heap.size T w2 v2 (ls.take (j + 1)).flatten) := by rw [flat_take ls j l hl]; exact hA2
          have HB2 : Hid (Below w.heap.size w w2) := HB.out.trans hB2
          clear hr2 hA2 hB2 hh hcell hnil hcells hs1 hs2 hal hb
          go_wp2_with (at_builtin; go_must (refine Lib.wpList_append_run wr rfl _ _ 26 26 rfl _ (.slice p l.length cap) rfl rfl _ _ (HR.out _) ?_))
          go_roundw
          case rel => exact ⟨j + 1, by omega, by go_num, HA2, HB2⟩
          case measure => simp [intOf]; omega
        · obtain rfl : j = k := by omega
          rw [hall] at HA
          go_wp2
          go_ret
          exact ⟨_, rfl, HA.out.holds, HB.out⟩
end Go.Proofs.YtkaaddahegkmgaaGreat
