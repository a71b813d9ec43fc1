/- The contracts of slices.Insert of one row. -/
import Derived.Test.YtkaaddahegkmgaaGreatMC
import Derived.Lib.Overlaps
import Derived.Lib.AppendZerosOnto
import Derived.Lib.AppendZeros
import Derived.Laws.CopyRow
import Derived.Deep.RegionLaw
import Derived.BigRegion
import Derived.Deep.RegionHeld3
namespace Go.Proofs.YtkaaddahegkmgaaGreat
open Go.ChangeShapes Go.WideShapes Go.ChangeAt Go.RowKit
namespace InsR
theorem info37_ : (Tryz.prog.info? 47).map (fun i => (i.zero, i.size, i.bytes)) = some (some (Value.agg #[.string ⟨#[]⟩, .int .i64 0, .slice none 0 0]), 3, 48) := by kernel_rfl
theorem info37s_ : (Tryz.prog.info? 47).map (·.size) = some 3 := by kernel_rfl
theorem z37 (w : World) : (Go.sizeOf 47).run Tryz.prog w = .ok 3 w := by kernel_rfl
theorem elem22 : Tryz.prog.elem 22 = 47 := by simp [Program.elem, Tryz.underlying22]
theorem sl_from (B o L c n : Nat) (hn : n ≤ L) (hc : n < c) (w : World) : (Instr.slice 22 (.slice (some ⟨B, o, none⟩) L c) (some (.int .i64 (n : Int))) none none).run Tryz.prog w = .ok (.slice (some ⟨B, o + n * 3, none⟩) (L - n) (c - n)) w := by
  rw [run_slice_l w 22 (some ⟨B, o, none⟩) L c (by rw [elem22]; exact Tryz.underlying22) .i64 _ (by omega) (by omega), elem22, z37]
  have : ¬ c = n := by omega
  simp [Result.andThen, sliced, this, add_plain]
theorem sl_from_any (p : Option Addr) (L c n : Nat) (hn : n ≤ L) : ∃ v, ∀ w, (Instr.slice 22 (.slice p L c) (some (.int .i64 (n : Int))) none none).run Tryz.prog w = .ok v w := by
  refine ⟨.slice (if c = n then p else p.map (·.add (n * 3))) (L - n) (c - n), fun w => ?_⟩
  rw [run_slice_l w 22 p L c (by rw [elem22]; exact Tryz.underlying22) .i64 _ (by omega) (by omega), elem22, z37]
  simp [Result.andThen, sliced]
theorem sl_head (B L c n : Nat) (hn : n ≤ c) (w : World) : (Instr.slice 22 (.slice (some ⟨B, 0, none⟩) L c) none (some (.int .i64 (n : Int))) none).run Tryz.prog w = .ok (.slice (some ⟨B, 0, none⟩) n c) w := by
  rw [run_slice_h w 22 (some ⟨B, 0, none⟩) L c (by rw [elem22]; exact Tryz.underlying22) .i64 _ (by omega) (by omega), elem22, z37]
  simp [Result.andThen, sliced, add_plain]
/-- What Insert in place answers. -/
def InP (b n c i : Nat) (cells news : List Value) (w : World) (e : Ending) (w' : World) : Prop :=
  ∃ cur' : Array Value, e = .returned (.slice (some ⟨b, 0, none⟩) (n + 1) c) ∧ w'.heap[b]? = some (.cells cur' 47 (0, 0)) ∧ cur'.size = c * 3 ∧ cur'.toList.take ((n + 1) * 3) = cells.take (i * 3) ++ (news ++ cells.drop (i * 3)) ∧ KB b w w'
/-- The cells of a row with others put in. -/
theorem ins_cells {c n i : Nat} {cur cells news : List Value} (hi : i ≤ n) (hroom : n + 1 ≤ c) (hsz : cur.length = c * 3) (htk : cur.take (n * 3) = cells) (hnl : news.length = 3) :
    ∀ X1 X2, X1 = cur.take ((i + 1) * 3) ++ cells.drop (i * 3) ++ cur.drop ((i + 1) * 3 + (cells.drop (i * 3)).length) → X2 = X1.take (i * 3) ++ news ++ X1.drop (i * 3 + news.length) → X2.length = c * 3 ∧ X2.take ((n + 1) * 3) = cells.take (i * 3) ++ (news ++ cells.drop (i * 3)) := by
  rintro X1 X2 h1 h2
  have hcl : cells.length = n * 3 := by rw [← htk, List.length_take]; omega
  have hd : (cells.drop (i * 3)).length = (n - i) * 3 := by rw [List.length_drop, hcl]; omega
  have l1 : X1.length = c * 3 := by rw [h1]; simp [hd]; omega
  have e1 : X1.take (i * 3) = cells.take (i * 3) := by
    rw [h1, List.append_assoc, List.take_append_of_le_length (by rw [List.length_take]; omega), List.take_take, ← htk, List.take_take]
    congr 1
    omega
  have e2 : (X1.drop (i * 3 + news.length)).take ((n - i) * 3) = cells.drop (i * 3) := by
    have a1 : i * 3 + news.length = (cur.take ((i + 1) * 3)).length := by rw [List.length_take, hnl]; omega
    rw [h1, List.append_assoc, a1, List.drop_left, ← hd, List.take_left]
  refine ⟨by rw [h2]; simp [hnl, l1]; omega, ?_⟩
  have l3 : (cells.take (i * 3)).length = i * 3 := by rw [List.length_take]; omega
  rw [h2, e1, List.append_assoc, show (n + 1) * 3 = (cells.take (i * 3)).length + (news.length + (n - i) * 3) by rw [l3, hnl]; omega, List.take_length_add_append, List.take_length_add_append, e2]
set_option maxHeartbeats 4000000 in
set_option maxRecDepth 100000 in
theorem ins_shift (b n c i vb : Nat) (cur : Array Value) (cells news : List Value) (w : World) (hi : i < n) (hroom : n + 1 ≤ c) (hc : c ≤ 9223372036854775807) (hvb : vb ≠ b)
    (hb : w.heap[b]? = some (.cells cur 47 (0, 0))) (hsz : cur.size = c * 3) (htk : cur.toList.take (n * 3) = cells) (hv : w.heap[vb]? = some (.cells news.toArray 47 (0, 0))) (hnl : news.length = 3) (h1 : ∀ z ∈ news, z.oneCell' = true) (h2 : ∀ z ∈ cells, z.oneCell' = true) :
    Calls Tryz.prog 98 #[.slice (some ⟨b, 0, none⟩) n c, .int .i64 (i : Int), .slice (some ⟨vb, 0, none⟩) 1 1] w (InP b n c i cells news w) := by
  have hcl : cells.length = n * 3 := by rw [← htk, List.length_take, Array.length_toList]; omega
  have hd : (cells.drop (i * 3)).length = (n - i) * 3 := by rw [List.length_drop, hcl]; omega
  obtain ⟨X1, hX1⟩ : ∃ X1 : List Value, X1 = cur.toList.take ((i + 1) * 3) ++ cells.drop (i * 3) ++ cur.toList.drop ((i + 1) * 3 + (cells.drop (i * 3)).length) := ⟨_, rfl⟩
  obtain ⟨X2, hX2⟩ : ∃ X2 : List Value, X2 = X1.take (i * 3) ++ news ++ X1.drop (i * 3 + news.length) := ⟨_, rfl⟩
  obtain ⟨hf1, hf2⟩ := ins_cells (by omega) hroom (by rw [Array.length_toList]; exact hsz) htk hnl X1 X2 hX1 hX2
  have l1 : X1.length = c * 3 := by rw [hX1]; simp [hd, hsz]; omega
  have hov : ∀ (W : World) lb cb, W.heap[b]? = some (.cells cur 47 (0, 0)) → W.heap[vb]? = some (.cells news.toArray 47 (0, 0)) → (callFunc 111 #[.slice (some ⟨vb, 0, none⟩) 1 1, .slice (some ⟨b, (i + 1) * 3, none⟩) lb cb]).run Tryz.prog W = .ok (.value (.bool false)) W := fun W lb cb hb hv => by
    rw [run_callFunc_extern Tryz.func111 (by kernel_rfl) (by kernel_rfl) (by kernel_rfl) (e := Extern.SlicesOverlaps.overlaps #[22, 22] #[4]) (by kernel_rfl),
      Lib.run_overlaps_apart W 22 4 47 Tryz.underlying22 3 z37 ⟨vb, 0, none⟩ ⟨b, (i + 1) * 3, none⟩ 1 1 lb cb hvb 47 47 3 (c * 3) (by simp [World.shape?, hv, hnl]) (by simp [World.shape?, hb, hsz]) (by omega) (row_frozen hv 0) (row_frozen hv 3)]
    rfl
  have hcp1 : ∀ ty dc sc, (Builtin.copy_ #[22, 22] ty #[.slice (some ⟨b, (i + 1) * 3, none⟩) (n - i) dc, .slice (some ⟨b, i * 3, none⟩) (n + 1 - i) sc]).run Tryz.prog w.drew = (.ok (goInt ((n - i : Nat) : Int)) (w.drew.setRow b X1.toArray)) := fun ty dc sc => by
    rw [hX1]
    refine run_copy_rowK w.drew 22 22 ty 47 b ((i + 1) * 3) (n - i) dc ⟨b, i * 3, none⟩ (n + 1 - i) sc 3 (n - i) cur 47 (cells.drop (i * 3)) Tryz.underlying22 info37s_ hb (by simp only [Nat.min_def]; split <;> omega) hd (fun j v hj => ?_) (by rw [hd, hsz]; omega) (fun v hv => h2 v (List.mem_of_mem_drop hv))
    rw [add_plain]
    show w.cell? _ = _
    rw [cell_of_row w b _ cur 47 (0, 0) hb]
    rw [List.getElem?_drop] at hj
    have hlt := (List.getElem?_eq_some_iff.1 hj).1
    rw [← htk, List.getElem?_take_of_lt (by omega)] at hj
    simpa using hj
  have hb1 : (w.drew.setRow b X1.toArray).heap[b]? = some (.cells X1.toArray 47 (0, 0)) := setRow_heap w.drew b cur X1.toArray 47 (0, 0) hb
  have kb1 : KB b w (w.drew.setRow b X1.toArray) := (KB.of_below (Below.refl _ w).drew).trans (KB.setRow _ _ _)
  have hv1 : (w.drew.setRow b X1.toArray).heap[vb]? = some (.cells news.toArray 47 (0, 0)) := row_kb hv kb1 hvb
  have hcp2 : ∀ ty dc, (Builtin.copy_ #[22, 22] ty #[.slice (some ⟨b, i * 3, none⟩) (n + 1 - i) dc, .slice (some ⟨vb, 0, none⟩) 1 1]).run Tryz.prog (w.drew.setRow b X1.toArray) = .ok (goInt 1) ((w.drew.setRow b X1.toArray).setRow b X2.toArray) := fun ty dc => by
    have := run_copy_rowK (w.drew.setRow b X1.toArray) 22 22 ty 47 b (i * 3) (n + 1 - i) dc ⟨vb, 0, none⟩ 1 1 3 1 X1.toArray 47 news Tryz.underlying22 info37s_ hb1 (by simp only [Nat.min_def]; split <;> omega) (by omega) (fun j v hj => by
      rw [add_plain, Nat.zero_add, cell_of_row _ vb j _ 47 (0, 0) hv1]
      simpa using hj) (by simp [l1]; omega) h1
    refine this.trans ?_
    rw [hX2]
    rfl
  have hb2 : ((w.drew.setRow b X1.toArray).setRow b X2.toArray).heap[b]? = some (.cells X2.toArray 47 (0, 0)) := setRow_heap _ b _ X2.toArray 47 (0, 0) hb1
  have HF : Hid (∃ cur' : Array Value, ((w.drew.setRow b X1.toArray).setRow b X2.toArray).heap[b]? = some (.cells cur' 47 (0, 0)) ∧ cur'.size = c * 3 ∧ cur'.toList.take ((n + 1) * 3) = cells.take (i * 3) ++ (news ++ cells.drop (i * 3)) ∧ KB b w ((w.drew.setRow b X1.toArray).setRow b X2.toArray)) :=
    ⟨X2.toArray, hb2, by simpa using hf1, hf2, kb1.trans (KB.setRow _ _ _)⟩
  have HQ : Hid (∀ w', (∃ cur' : Array Value, w'.heap[b]? = some (.cells cur' 47 (0, 0)) ∧ cur'.size = c * 3 ∧ cur'.toList.take ((n + 1) * 3) = cells.take (i * 3) ++ (news ++ cells.drop (i * 3)) ∧ KB b w w') → (InP b n c i cells news w) (.returned (.slice (some ⟨b, 0, none⟩) (n + 1) c)) w') := fun w' ⟨cur', h⟩ => ⟨cur', rfl, h⟩
  generalize (InP b n c i cells news w) = Q at HQ ⊢
  have HC1 := hcp1 3 (c - (i + 1)) (c - i)
  have HC2 := hcp2 3 (c - i)
  have hov1 := fun lb cb => hov w lb cb hb hv
  have s1 := fun W => sl_from b 0 n c i (by omega) (by omega) W
  have s2 : ∀ W, (Instr.slice 22 (.slice (some ⟨b, 0, none⟩) n c) none (some (.int .i64 ((n : Int) + 1))) none).run Tryz.prog W = .ok (.slice (some ⟨b, 0, none⟩) (n + 1) c) W := fun W => sl_head b n c (n + 1) hroom W
  have s3 := fun W => sl_from b 0 (n + 1) c i (by omega) (by omega) W
  have q1 : ∀ W, (Instr.slice 22 (.slice (some ⟨b, 0, none⟩) (n + 1) c) (some (.int .i64 ((i : Int) + 1))) none none).run Tryz.prog W = .ok (.slice (some ⟨b, (i + 1) * 3, none⟩) (n - i) (c - (i + 1))) W
    | W => by
      by_cases hci : i + 1 < c
      · have := sl_from b 0 (n + 1) c (i + 1) (by omega) hci W
        rw [show n + 1 - (i + 1) = n - i by omega, Nat.zero_add] at this
        exact this
      · omega
  have hz2 : ((i : Int) == (n : Int)) = false := by simp; omega
  have hz3 : decide ((c : Int) < (n : Int) + 1) = false := decide_eq_false (by omega)
  have hm1 : wrap64 ((n : Int) + 1) = (n : Int) + 1 := wr1 hroom hc
  have hm2 : wrap64 ((i : Int) + 1) = (i : Int) + 1 := wr1 (Nat.lt_trans hi hroom) hc
  simp only [Nat.zero_add] at s1 s3
  have hw1 : IntKind.i64.wrap ((i : Int) + 1) = (i : Int) + 1 := wrI (Nat.lt_trans hi hroom) hc
  have hb1' : (0 : Int) ≤ (i : Int) + 1 := Int.le_add_one (Int.natCast_nonneg i)
  have hin : i ≤ n := Nat.le_of_lt hi
  have htn : ((i : Int) + 1).toNat = i + 1 := by clear hm1 hm2 hw1; omega
  have hb2' : ¬ (c = i + 1) := by clear hm1 hm2 hw1; omega
  have hb3' : (i : Int) ≤ (n : Int) + 1 := by clear hm1 hm2 hw1; omega
  have hb4' : ¬ (c = i) := by clear hm1 hm2 hw1; omega
  clear hcp1 hcp2 hov hb hv hsz htk hcl hd hX1 hX2 hf1 hf2 l1 hb1 kb1 hv1 hb2 h1 h2 hnl hroom hc hvb
  go_enter Tryz.func98, Tryz.ntmps98
  go_wp2_with (simp only [hov1])
  go_region
  go_wp2_with fail
  exact HQ.out _ HF.out
theorem grow_cells {i n G : Nat} {R cells news : List Value} (hi : i < n) (hn : n + 1 ≤ G) (hR : R.length = G * 3) (hRt : R.take (i * 3) = cells.take (i * 3)) (hcl : cells.length = n * 3) (hnl : news.length = 3) :
    ∀ X1 X2, X1 = R.take (i * 3) ++ news ++ R.drop (i * 3 + news.length) → X2 = X1.take ((i + 1) * 3) ++ cells.drop (i * 3) ++ X1.drop ((i + 1) * 3 + (cells.drop (i * 3)).length) → X1.length = G * 3 ∧ X2.length = G * 3 ∧ X2.take ((n + 1) * 3) = cells.take (i * 3) ++ (news ++ cells.drop (i * 3)) := by
  rintro X1 X2 h1 h2
  have hd : (cells.drop (i * 3)).length = (n - i) * 3 := by rw [List.length_drop, hcl]; omega
  have l3 : (cells.take (i * 3)).length = i * 3 := by rw [List.length_take]; omega
  have l1 : X1.length = G * 3 := by rw [h1, hRt]; simp only [List.length_append, List.length_drop, hR, hnl, l3]; omega
  have l2 : X2.length = G * 3 := by rw [h2]; simp only [List.length_append, List.length_take, List.length_drop, l1, hcl]; omega
  have e1 : X1.take ((i + 1) * 3) = cells.take (i * 3) ++ news := by
    rw [h1, hRt, show (i + 1) * 3 = (cells.take (i * 3) ++ news).length by rw [List.length_append, l3, hnl]; omega, List.take_left]
  refine ⟨l1, l2, ?_⟩
  rw [h2, e1, show (n + 1) * 3 = (cells.take (i * 3) ++ news ++ cells.drop (i * 3)).length by rw [List.length_append, List.length_append, l3, hnl, hd]; omega, List.take_left, List.append_assoc]
/-- What Insert into new memory answers. -/
def IgP (n i : Nat) (cells news : List Value) (w : World) (e : Ending) (w' : World) : Prop :=
  ∃ (G : Nat) (cur' : Array Value), e = .returned (.slice (some ⟨w.heap.size, 0, none⟩) (n + 1) G) ∧ w'.heap[w.heap.size]? = some (.cells cur' 47 (0, 0)) ∧ cur'.size = G * 3 ∧ n + 1 ≤ G ∧ G ≤ maxLen ∧ cur'.toList.take ((n + 1) * 3) = cells.take (i * 3) ++ (news ++ cells.drop (i * 3)) ∧ Below w.heap.size w w'
set_option maxHeartbeats 4000000 in
set_option maxRecDepth 100000 in
theorem ins_grow (b n c i vb : Nat) (cur : Array Value) (cells news : List Value) (w : World) (hi : i < n) (hn : n ≤ 1000) (hnc : n ≤ c) (hroom : c < n + 1)
    (hb : w.heap[b]? = some (.cells cur 47 (0, 0))) (hsz : cur.size = c * 3) (htk : cur.toList.take (n * 3) = cells) (hv : w.heap[vb]? = some (.cells news.toArray 47 (0, 0))) (hnl : news.length = 3) (h1 : ∀ z ∈ news, z.oneCell' = true) (h2 : ∀ z ∈ cells, z.oneCell' = true) :
    Calls Tryz.prog 98 #[.slice (some ⟨b, 0, none⟩) n c, .int .i64 (i : Int), .slice (some ⟨vb, 0, none⟩) 1 1] w (IgP n i cells news w) := by
  have hcl : cells.length = n * 3 := by rw [← htk, List.length_take, Array.length_toList]; omega
  have hd : (cells.drop (i * 3)).length = (n - i) * 3 := by rw [List.length_drop, hcl]; omega
  have hce : ∀ j v, cells[j]? = some v → w.cell? ⟨b, j, none⟩ = some v := fun j v hj => by
    have hlt := (List.getElem?_eq_some_iff.1 hj).1
    rw [cell_of_row w b _ cur 47 (0, 0) hb]
    rw [← htk, List.getElem?_take_of_lt (by omega)] at hj
    simpa using hj
  have hbw := lt_of_row hb
  have hvw := lt_of_row hv
  obtain ⟨i0, hi0, hz0, hzs, hzb⟩ := info_parts info37_
  have hik : i + (n + 1 - i) = n + 1 := by omega
  have hkk : (n : Int) + 1 - (i : Int) = ((n + 1 - i : Nat) : Int) := by omega
  have hold : (Builtin.firstCells i0.size i (.slice (some ⟨b, 0, none⟩) i c)).run Tryz.prog w.drew = .ok (cells.take (i * 3)).toArray w.drew := by
    rw [hzs]
    exact run_firstCells_some w.drew 3 i ⟨b, 0, none⟩ i c (cells.take (i * 3)) (by rw [List.length_take]; omega) (fun j v hj => by
      rw [add_plain, Nat.zero_add]
      rw [List.getElem?_take] at hj
      split at hj
      · exact hce j v hj
      · cases hj)
  have hrz : ∀ ty, (Builtin.append_ #[22, 3] ty #[.slice (some ⟨b, 0, none⟩) i c, .int .i64 ((n : Int) + 1 - (i : Int))]).run Tryz.prog w =
      .ok (.slice (some ⟨w.heap.size, 0, none⟩) (n + 1) (grownCap w (n + 1) c 47)) (w.drew.alloc (.cells ((cells.take (i * 3)).toArray ++ Builtin.zeroCells (Value.agg #[.string ⟨#[]⟩, .int .i64 0, .slice none 0 0]).cells (n + 1 - i) ++ Builtin.zeroCells (Value.agg #[.string ⟨#[]⟩, .int .i64 0, .slice none 0 0]).cells (grownCap w (n + 1) c 47 - (n + 1))) 47)) := fun ty => by
    have h := Lib.run_append_grow_zeros w 22 3 ty 47 i0 _ .i64 .i64 Tryz.underlying22 Tryz.underlying3 hi0 hz0 (some ⟨b, 0, none⟩) i c (cells.take (i * 3)) hold (n + 1 - i) (by omega) (by omega) (by omega) (by omega) (by rw [hzb]; omega) (by rw [hzb, hik]; exact growslice_fits hroom (by omega))
    rw [hik] at h
    rw [hkk]
    exact h
  have hGn : n + 1 ≤ grownCap w (n + 1) c 47 := grownCap_ge w _ _ _
  have hGm := grownCap_le_maxLen w (n + 1) c 47 (by unfold maxLen; omega)
  generalize grownCap w (n + 1) c 47 = G at hrz hGn hGm
  obtain ⟨R, hR⟩ : ∃ R : List Value, R.toArray = (cells.take (i * 3)).toArray ++ Builtin.zeroCells (Value.agg #[.string ⟨#[]⟩, .int .i64 0, .slice none 0 0]).cells (n + 1 - i) ++ Builtin.zeroCells (Value.agg #[.string ⟨#[]⟩, .int .i64 0, .slice none 0 0]).cells (G - (n + 1)) := ⟨_, Array.toArray_toList⟩
  have hRl : R.length = G * 3 := by
    have e : R.toArray.size = G * 3 := by rw [hR]; simp [size_zeroCells, Value.cells]; omega
    simpa using e
  have hRt : R.take (i * 3) = cells.take (i * 3) := by
    have e : R = (R.toArray).toList := rfl
    rw [e, hR, Array.toList_append, Array.toList_append, List.append_assoc]
    have l3 : (cells.take (i * 3)).length = i * 3 := by rw [List.length_take]; omega
    show (cells.take (i * 3) ++ _).take (i * 3) = _
    rw [List.take_append_of_le_length (by omega), List.take_of_length_le (by omega)]
  rw [← hR] at hrz
  obtain ⟨X1, hX1⟩ : ∃ X1 : List Value, X1 = R.take (i * 3) ++ news ++ R.drop (i * 3 + news.length) := ⟨_, rfl⟩
  obtain ⟨X2, hX2⟩ : ∃ X2 : List Value, X2 = X1.take ((i + 1) * 3) ++ cells.drop (i * 3) ++ X1.drop ((i + 1) * 3 + (cells.drop (i * 3)).length) := ⟨_, rfl⟩
  obtain ⟨l1, hf1, hf2⟩ := grow_cells hi hGn hRl hRt hcl hnl X1 X2 hX1 hX2
  have hg0 : (w.drew.alloc (.cells R.toArray 47)).heap[w.heap.size]? = some (.cells R.toArray 47 (0, 0)) := heap_alloc_last w.drew _
  have hB0 : Below w.heap.size w (w.drew.alloc (.cells R.toArray 47)) := (Below.refl _ w).drew.alloc (Nat.le_refl _) _
  generalize w.drew.alloc (.cells R.toArray 47) = W1 at hrz hg0 hB0
  have hb1 := row_below hB0 hb
  have hv1 := row_below hB0 hv
  have hA : (Builtin.copy_ #[22, 22] 3 #[.slice (some ⟨w.heap.size, i * 3, none⟩) (n + 1 - i) (G - i), .slice (some ⟨vb, 0, none⟩) 1 1]).run Tryz.prog W1 = .ok (goInt ((1 : Nat) : Int)) (W1.setRow w.heap.size X1.toArray) := by
    have := run_copy_rowK W1 22 22 3 47 w.heap.size (i * 3) (n + 1 - i) (G - i) ⟨vb, 0, none⟩ 1 1 3 1 R.toArray 47 news Tryz.underlying22 info37s_ hg0 (by simp only [Nat.min_def]; split <;> omega) (by omega) (fun j v hj => by
      rw [add_plain, Nat.zero_add, cell_of_row _ vb j _ 47 (0, 0) hv1]
      simpa using hj) (by simp only [List.size_toArray, hRl, hnl]; omega) h1
    refine this.trans ?_
    rw [hX1]
  have hg1 : (W1.setRow w.heap.size X1.toArray).heap[w.heap.size]? = some (.cells X1.toArray 47 (0, 0)) := setRow_heap _ _ _ X1.toArray 47 (0, 0) hg0
  have hB1 : Below w.heap.size w (W1.setRow w.heap.size X1.toArray) := below_setRow hB0 (Nat.le_refl _) _
  have hb2 := row_below hB1 hb
  have hBB : (Builtin.copy_ #[22, 22] 3 #[.slice (some ⟨w.heap.size, (i + 1) * 3, none⟩) (n - i) (G - (i + 1)), .slice (some ⟨b, i * 3, none⟩) (n - i) (c - i)]).run Tryz.prog (W1.setRow w.heap.size X1.toArray).drew = .ok (goInt ((n - i : Nat) : Int)) ((W1.setRow w.heap.size X1.toArray).drew.setRow w.heap.size X2.toArray) := by
    have := run_copy_rowK (W1.setRow w.heap.size X1.toArray).drew 22 22 3 47 w.heap.size ((i + 1) * 3) (n - i) (G - (i + 1)) ⟨b, i * 3, none⟩ (n - i) (c - i) 3 (n - i) X1.toArray 47 (cells.drop (i * 3)) Tryz.underlying22 info37s_ hg1 (by simp only [Nat.min_def]; split <;> omega) hd (fun j v hj => by
      rw [add_plain]
      show (W1.setRow w.heap.size X1.toArray).cell? _ = _
      rw [cell_of_row _ b _ cur 47 (0, 0) hb2]
      rw [List.getElem?_drop] at hj
      have := hce _ _ hj
      rw [cell_of_row w b _ cur 47 (0, 0) hb] at this
      exact this) (by simp only [List.size_toArray, l1, hd]; omega) (fun v hv => h2 v (List.mem_of_mem_drop hv))
    refine this.trans ?_
    rw [hX2]
  have hg2 : ((W1.setRow w.heap.size X1.toArray).drew.setRow w.heap.size X2.toArray).heap[w.heap.size]? = some (.cells X2.toArray 47 (0, 0)) := setRow_heap _ _ _ X2.toArray 47 (0, 0) hg1
  have HQ : Hid (IgP n i cells news w (.returned (.slice (some ⟨w.heap.size, 0, none⟩) (n + 1) G)) ((W1.setRow w.heap.size X1.toArray).drew.setRow w.heap.size X2.toArray)) :=
    ⟨G, X2.toArray, rfl, hg2, by simpa using hf1, hGn, hGm, hf2, below_setRow hB1.drew (Nat.le_refl _) _⟩
  generalize IgP n i cells news w = Q at HQ ⊢
  have hz2 : ((i : Int) == (n : Int)) = false := by simp; omega
  have hz3 : decide ((c : Int) < (n : Int) + 1) = true := decide_eq_true (by omega)
  have s1 := fun W => sl_from b 0 n c i (by omega) (by omega) W
  have s2 := fun W => sl_head b n c i (by omega) W
  have s3 := fun W => sl_from w.heap.size 0 (n + 1) G i (by omega) (by omega) W
  have q1 : ∀ W, (Instr.slice 22 (.slice (some ⟨w.heap.size, 0, none⟩) (n + 1) G) (some (.int .i64 ((i : Int) + 1))) none none).run Tryz.prog W = .ok (.slice (some ⟨w.heap.size, (i + 1) * 3, none⟩) (n - i) (G - (i + 1))) W
    | W => by
      have := sl_from w.heap.size 0 (n + 1) G (i + 1) (by omega) (by omega) W
      rw [show n + 1 - (i + 1) = n - i by omega, Nat.zero_add] at this
      exact this
  simp only [Nat.zero_add] at s1 s3
  have hb1' : (0 : Int) ≤ (i : Int) + 1 := Int.le_add_one (Int.natCast_nonneg i)
  have hin : i ≤ n := Nat.le_of_lt hi
  have htn : ((i : Int) + 1).toNat = i + 1 := by omega
  have hb2' : ¬ (G = i + 1) := by omega
  have hb3' : (i : Int) ≤ (n : Int) := by omega
  have hb4' : ¬ (c = i) := by omega
  have hm1 : wrap64 ((n : Int) + 1) = (n : Int) + 1 := wr1 (Nat.lt_succ_of_le hn) (by omega)
  have hm2 : wrap64 ((i : Int) + 1) = (i : Int) + 1 := wr1 (Nat.lt_of_lt_of_le hi hn) (by clear hm1; omega)
  have hm3 : wrap64 ((n : Int) + 1 - (i : Int)) = (n : Int) + 1 - (i : Int) := wr3 hi hn
  have hw1 : IntKind.i64.wrap ((i : Int) + 1) = (i : Int) + 1 := wrI (Nat.lt_of_lt_of_le hi hn) (by clear hm1 hm2 hm3; omega)
  rw [← hm3] at hrz
  have HRZ : Hid (∀ ty, _) := hrz
  clear hold hrz hcl hd hce hik hkk hbw hvw hGn hGm hR hRl hRt hX1 hX2 l1 hf1 hf2 hg0 hB0 hb1 hv1 hg1 hB1 hb2 hg2 hb hv hsz htk hnl h1 h2 hi0 hz0 hzs hzb hn hnc hroom
  go_enter Tryz.func98, Tryz.ntmps98
  go_wp2_with (at_builtin; refine Lib.wpList_append_run _ rfl _ _ 22 3 rfl _ _ rfl rfl _ _ (HRZ.out _) ?_)
  go_region
  go_wp2_with fail
  exact HQ.out
set_option maxHeartbeats 2000000 in
set_option maxRecDepth 100000 in
theorem insert_calls (lo : Nat) (u : Value) (m i vb : Nat) (cells news : List Value) (w : World) (hO : w.ownsRow lo 47 3 u m cells) (hi : i ≤ m) (hn : m ≤ 500) (hv : w.heap[vb]? = some (.cells news.toArray 47 (0, 0)))
    (hnl : news.length = 3) (hn1 : ∀ z ∈ news, z.oneCell' = true) (ho1 : ∀ z ∈ cells, z.oneCell' = true) (hvu : u.ownBlock ≠ some vb) (hlo : lo ≤ w.heap.size) :
    Calls Tryz.prog 98 #[u, .int .i64 (i : Int), .slice (some ⟨vb, 0, none⟩) 1 1] w fun e w' => ∃ v, e = .returned v ∧ w'.ownsRow lo 47 3 v (m + 1) (cells.take (i * 3) ++ (news ++ cells.drop (i * 3))) ∧ Below lo w w' ∧ (∀ B, B < w.heap.size → u.ownBlock ≠ some B → w'.heap[B]? = w.heap[B]?) ∧ (v.ownBlock = u.ownBlock ∨ v.ownBlock = some w.heap.size) := by
  obtain ⟨i0, hi0, hz0, hz1, hz2⟩ := info_parts info37_
  by_cases hin : i = m
  · subst hin
    obtain ⟨v, w2, hrun, hg2, hb2, hk2, hown⟩ := app2 (src := vb) Tryz.underlying22 hi0 hz0 hz1 hz2 (by rfl) (by decide) hO hnl (fun j z hz => by
      rw [add_plain, Nat.zero_add, cell_of_row _ vb j _ 47 (0, 0) hv]
      simpa using hz) hn1 (by omega) (by omega) hlo
    have hcl : cells.length = i * 3 := hO.1
    have HG : Hid (w2.ownsRow lo 47 3 v (i + 1) (cells.take (i * 3) ++ (news ++ cells.drop (i * 3)))) := by
      show World.ownsRow _ _ _ _ _ _ _
      rw [List.take_of_length_le (by omega), List.drop_of_length_le (by omega), List.append_nil]
      exact hg2
    have HB : Hid (Below lo w w2 ∧ (∀ B, B < w.heap.size → u.ownBlock ≠ some B → w2.heap[B]? = w.heap[B]?) ∧ (v.ownBlock = u.ownBlock ∨ v.ownBlock = some w.heap.size)) := ⟨hb2, hk2, hown⟩
    obtain ⟨a, c, hu⟩ : ∃ a c, u = .slice a i c := by
      obtain ⟨_, ⟨rfl, h0⟩ | ⟨g, cap, cur, rfl, _⟩⟩ := hO
      · exact ⟨none, 0, by rw [h0]⟩
      · exact ⟨_, _, rfl⟩
    subst hu
    obtain ⟨sv, hsv⟩ := sl_from_any a i c i (Nat.le_refl _)
    generalize cells.take (i * 3) ++ (news ++ cells.drop (i * 3)) = ys at HG ⊢
    have HR : Hid (∀ ty, _) := hrun
    have HQ : Hid (∃ v', v = v' ∧ w2.ownsRow lo 47 3 v' (i + 1) ys ∧ Below lo w w2 ∧ (∀ B, B < w.heap.size → (Value.slice a i c).ownBlock ≠ some B → w2.heap[B]? = w.heap[B]?) ∧ (v'.ownBlock = (Value.slice a i c).ownBlock ∨ v'.ownBlock = some w.heap.size)) := ⟨v, rfl, HG.out, HB.out⟩
    clear hO hi hn hv hvu hlo hnl hn1 hg2 hb2 hrun hk2 hown ho1 HG HB hcl hi0 hz0 hz1 hz2
    go_enter Tryz.func98, Tryz.ntmps98
    go_wp2_with (at_builtin; refine Lib.wpList_append_run _ rfl _ _ 22 22 rfl _ _ rfl rfl _ _ (HR.out _) ?_)
    go_ret
    obtain ⟨v', rfl, h⟩ := HQ.out
    exact ⟨_, rfl, h⟩
  · have hlt : i < m := by omega
    obtain ⟨hcl, ⟨_, h0⟩ | ⟨g, cap, cur, rfl, hg0, hg, hle, hm, hsz, htk⟩⟩ := hO
    · omega
    have hgv : vb ≠ g := fun e => hvu (by rw [e]; rfl)
    have hl : (cells.take (i * 3) ++ (news ++ cells.drop (i * 3))).length = (m + 1) * 3 := by simp [hcl, hnl]; omega
    by_cases hroom : m + 1 ≤ cap
    · refine (ins_shift g m cap i vb cur cells news w hlt hroom (by unfold maxLen at hm; omega) hgv hg hsz htk hv hnl hn1 ho1).mono ?_
      rintro e w' ⟨cur', rfl, h1, h2, h3, hk⟩
      exact ⟨_, rfl, ⟨hl, .inr ⟨g, cap, cur', rfl, hg0, h1, hroom, hm, h2, h3⟩⟩, hk.below hg0 hlo, fun B hB hne => hk.2.2.2.2 B hB (fun e => hne (by rw [e]; rfl)), .inl rfl⟩
    · refine (ins_grow g m cap i vb cur cells news w hlt (by omega) hle (by omega) hg hsz htk hv hnl hn1 ho1).mono ?_
      rintro e w' ⟨G, cur', rfl, h1, h2, h4, h5, h3, hb⟩
      exact ⟨_, rfl, ⟨hl, .inr ⟨w.heap.size, G, cur', rfl, hlo, h1, h4, h5, h2, h3⟩⟩, hb.mono hlo, fun B hB _ => hb.block B hB, .inr rfl⟩
end InsR
end Go.Proofs.YtkaaddahegkmgaaGreat
