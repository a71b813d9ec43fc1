/- The contracts of the columns: oneByte, of, twice. -/
import Derived.Test.YtlcceogjoghdoaaDoorD
import Derived.Laws.CopyOwn
import Derived.Deep.WholeRow
namespace Go.Proofs.YtlcceogjoghdoaaDoor
open Go.ChangeShapes Go.WideShapes Go.ChangeAt Go.RowKit
/-- An array of columns of which the first j are laid. -/
def cl (f : Nat → Nat) (j : Nat) : List Value := (List.range 32).map fun i => .int .u32 (if i < j then (f i : Int) else 0)
theorem cl_length (f : Nat → Nat) (j : Nat) : (cl f j).length = 32 := by simp [cl]
theorem cl_get (f : Nat → Nat) (j i : Nat) (h : i < 32) : (cl f j)[i]? = some (.int .u32 (if i < j then (f i : Int) else 0)) := by
  simp [cl, h]
theorem cl_set (f : Nat → Nat) (j : Nat) (h : j < 32) : (cl f j).set j (.int .u32 (f j : Int)) = cl f (j + 1) := by
  apply List.ext_getElem?
  intro i
  by_cases hi : i < 32
  · rw [List.getElem?_set, cl_get f j i hi, cl_get f (j + 1) i hi]
    by_cases hij : j = i
    · subst hij
      rw [if_pos rfl, if_pos (by rw [cl_length]; exact h), if_pos (by omega)]
    · rw [if_neg hij]
      by_cases h2 : i < j
      · rw [if_pos h2, if_pos (by omega)]
      · rw [if_neg h2, if_neg (by omega)]
  · rw [List.getElem?_eq_none (by rw [List.length_set, cl_length]; omega), List.getElem?_eq_none (by rw [cl_length]; omega)]
theorem cl_zero (f g : Nat → Nat) : cl f 0 = cl g 0 := rfl
theorem info39 : (Tryd.prog.info? 39).map (·.size) = some 32 := by kernel_rfl
theorem load32 (w : World) (b : Nat) (c : List Value) (hc : c.length = 32) (h : ∀ (j : Nat) v, c[j]? = some v → w.cell? ⟨b, j, none⟩ = some v) : (loadCellsFrom ⟨b, 0, none⟩ 0 32 #[]).run Tryd.prog w = .ok c.toArray w := by
  have := run_loadCells_list (P := Tryd.prog) w ⟨b, 0, none⟩ c (fun j v hv => by
    have hadd : (⟨b, 0, none⟩ : Addr).add j = ⟨b, j, none⟩ := by unfold Addr.add; split <;> simp_all
    rw [hadd]
    exact h j v hv)
  rw [hc] at this
  simpa [loadCells] using this
theorem store32 (w : World) (g : Nat) (c old : List Value) (hc : c.length = 32) (ho : old.length = 32) (h1 : c.toArray.all (·.oneCell') = true) (hg : w.heap[g]? = some (.cells old.toArray 39 (0, 0))) :
    (storeCells ⟨g, 0, none⟩ c 0).run Tryd.prog w = .ok () (w.setRow g c.toArray) := by
  have := run_storeVar_row (P := Tryd.prog) w g 39 39 old.toArray c.toArray hg (by rw [info39]; simp [hc]) (by simp [hc, ho]) h1
  have hi := info39
  cases hq : Tryd.prog.info? 39 with
  | none => simp [hq] at hi
  | some i =>
    have hs : i.size = 32 := by simpa [hq] using hi
    simpa [storeVar, sizeOf, typeInfo, hq, Value.cells, hs, hc] using this
theorem cl_one (f : Nat → Nat) (j : Nat) : (cl f j).toArray.all (·.oneCell') = true := by
  simp [cl, Value.oneCell']
theorem cl_cells (w : World) (g : Nat) (f : Nat → Nat) (j : Nat) (fr : Nat × Nat) (hg : w.heap[g]? = some (.cells (cl f j).toArray 39 fr)) (i : Nat) (v : Value) (h : (cl f j)[i]? = some v) : w.cell? ⟨g, i, none⟩ = some v := by
  rw [cell_of_row w g i _ 39 fr hg]
  simpa using h
theorem hi39 (f : Nat → Nat) (j : Nat) : (Tryd.prog.info? 39).map (·.size) = some (cl f j).toArray.size := by rw [info39]; simp [cl_length]
/-- The columns of f lie at block g. -/
def Way (w : World) (g : Nat) (f : Nat → Nat) : Prop := w.heap[g]? = some (.cells (cl f 32).toArray 39 (0, 0))
theorem Way.cell {w : World} {g : Nat} {f : Nat → Nat} (h : Way w g f) (i : Nat) (hi : i < 32) : w.cell? ⟨g, i, none⟩ = some (.int .u32 (f i : Int)) :=
  cl_cells w g f 32 _ h i _ (by rw [cl_get f 32 i hi, if_pos hi])
theorem of_calls (w : World) (g r : Nat) (f : Nat → Nat) (hr : r < 4294967296) (hf : ∀ i, f i < 4294967296) (hw : Way w g f) :
    Calls Tryd.prog 19 #[.pointer (some ⟨g, 0, none⟩), .int .u32 (r : Int)] w fun e w' => e = .returned (.int .u32 ((ofN f r 32 : Nat) : Int)) ∧ w' = w := by
  have HW : Hid (Way w g f) := hw
  have HF : Hid (∀ k x : Nat, x < 4294967296 → bits BinOp.xor IntKind.u32 (x : Int) (f k : Int) = ((x ^^^ f k : Nat) : Int)) := fun k x hx => xorN x (f k) hx (hf k)
  have HL : Hid (∀ j, ofN f r j < 4294967296) := fun j => ofN_lt f r j (fun i _ => hf i)
  clear hw hf
  go_enter Tryd.func19, Tryd.ntmps19
  go_wp2
  go_loop [5, 7] (fun y i => ∃ j : Nat, j ≤ 32 ∧ i = .int .i64 j ∧ y = .int .u32 ((ofN f r j : Nat) : Int)) (fun _ i => 32 - (intOf i).toNat)
  case atStart => exact ⟨0, Nat.zero_le _, rfl, rfl⟩
  case round =>
    obtain ⟨j, hj, rfl, rfl⟩ := hrel
    by_cases hlt : j < 32
    · have hcell := HW.out.cell j hlt
      have hy := HL.out j
      have hs : ofN f r (j + 1) = if r / 2 ^ j % 2 = 1 then ofN f r j ^^^ f j else ofN f r j := rfl
      have hx := HF.out j _ hy
      generalize ofN f r j = y at hs hx
      have hd : ((r : Int) / 2 ^ j) = ((r / 2 ^ j : Nat) : Int) := by simp
      have ha := and1 (r / 2 ^ j) (Nat.lt_of_le_of_lt (Nat.div_le_self _ _) hr)
      rw [← hd] at ha
      by_cases h1 : r / 2 ^ j % 2 = 1
      · have hb : (bits BinOp.and IntKind.u32 ((r : Int) / 2 ^ j) 1 == 1) = true := by rw [ha, h1]; rfl
        have HS : Hid (ofN f r (j + 1) = y ^^^ f j) := by show _ = _; rw [hs, if_pos h1]
        clear ha hd hs h1
        go_wp2
        go_round
        case rel => exact ⟨j + 1, hlt, rfl, by rw [HS.out]⟩
        case measure => exact meas _ _ hlt
      · have hb : (bits BinOp.and IntKind.u32 ((r : Int) / 2 ^ j) 1 == 1) = false := by rw [ha, show r / 2 ^ j % 2 = 0 by omega]; rfl
        have HS : Hid (ofN f r (j + 1) = y) := by show _ = _; rw [hs, if_neg h1]
        clear ha hd hs h1
        go_wp2
        go_round
        case rel => exact ⟨j + 1, hlt, rfl, by rw [HS.out]⟩
        case measure => exact meas _ _ hlt
    · obtain rfl : j = 32 := by omega
      go_wp2
      go_ret
      exact ⟨rfl, rfl⟩
theorem row_last (w : World) (o : Obj) : (w.alloc o).heap[w.heap.size]? = some o := heap_alloc_last w o
theorem row_old (w : World) (o : Obj) (g : Nat) (x : Obj) (h : w.heap[g]? = some x) : (w.alloc o).heap[g]? = some x := by
  rw [Below.heap_alloc w o g (Array.getElem?_eq_some_iff.1 h).1]
  exact h
/-- What a call leaves that makes columns and hands them back. -/
def Gives (w : World) (f : Nat → Nat) (e : Ending) (w' : World) : Prop := e = .returned (.agg (cl f 32).toArray) ∧ Below w.heap.size w w'
theorem oneByte_calls (w : World) (f : Nat → Nat) (hf : ∀ i, f i = B 8 (2 ^ i)) : Calls Tryd.prog 18 #[] w (Gives w f) := by
  obtain ⟨W, hW⟩ : ∃ W, W = (w.alloc (.cells (cl f 0).toArray 39)).alloc (.cells (cl f 32).toArray 39) := ⟨_, rfl⟩
  have hr0 : W.heap[w.heap.size]? = some (.cells (cl f 0).toArray 39 (0, 0)) := by rw [hW]; exact row_old _ _ _ _ (row_last _ _)
  have hr1 : W.heap[w.heap.size + 1]? = some (.cells (cl f 32).toArray 39 (0, 0)) := by
    rw [hW]
    have := row_last (w.alloc (.cells (cl f 0).toArray 39)) (.cells (cl f 32).toArray 39)
    simpa using this
  have hr2 := setRow_heap W w.heap.size _ (cl f 32).toArray _ _ hr0
  have HB : Hid (Below w.heap.size w (W.setRow w.heap.size (cl f 32).toArray)) := by
    rw [hW]
    exact below_setRow (((Below.refl _ w).alloc (Nat.le_refl _) _).alloc (by simp) _) (Nat.le_refl _) _
  have R0 : Hid (_ = _) := hr0
  have R1 : Hid (_ = _) := hr1
  have R2 : Hid (_ = _) := hr2
  clear hr0 hr1 hr2
  have HF : Hid (∀ j, j < 32 → ∀ W' : World, Calls Tryd.prog 22 #[.int .u32 (2 ^ j % 4294967296)] W' fun e w' => e = .returned (.int .u32 (f j : Int)) ∧ w' = W') := by
    intro j hj W'
    have hp : 2 ^ j < 4294967296 := by
      have := Nat.pow_lt_pow_right (a := 2) (by decide) hj
      simpa using this
    have he : (2 : Int) ^ j % 4294967296 = ((2 ^ j : Nat) : Int) := by
      have : (2 : Int) ^ j = ((2 ^ j : Nat) : Int) := by simp
      rw [this]
      exact Int.emod_eq_of_lt (Int.natCast_nonneg _) (by omega)
    rw [he, hf j]
    exact eight_calls _ hp W'
  clear hf
  go_enter Tryd.func18, Tryd.ntmps18
  go_wp2
  go_loopw [3] (fun i wr => ∃ j : Nat, j ≤ 32 ∧ i = .int .i64 j ∧ wr = (w.alloc (.cells (cl f 0).toArray 39)).alloc (.cells (cl f j).toArray 39)) (fun i _ => 32 - (intOf i).toNat)
  case atStart => exact ⟨0, Nat.zero_le _, rfl, rfl⟩
  case round =>
    obtain ⟨j, hj, rfl, rfl⟩ := hrel
    by_cases hlt : j < 32
    · have hv := cl_get f j j hlt
      have hset := cl_set f j hlt
      go_wp2_with fail
      refine Calls.mono (HF.out j hlt _) ?_
      rintro e w1 ⟨rfl, hw1⟩
      have hw2 := hw1.symm
      subst hw2
      go_wp2
      go_roundw
      case rel => exact ⟨j + 1, hlt, rfl, by simp⟩
      case measure => exact meas _ _ hlt
    · obtain rfl : j = 32 := by omega
      rw [← hW]
      clear hW
      go_wp2_with (first
        | refine wpList_load_row rfl 39 _ rfl (w.heap.size + 1) rfl 39 _ (0, 0) _ R1.out Tryd.underlying39 rfl (hi39 _ _) ?_
        | refine wpList_store_row rfl 39 _ _ rfl w.heap.size (cl f 32).toArray rfl rfl 39 _ R0.out (hi39 _ _) (by simp [cl_length]) (cl_one f 32) ?_)
      refine bodyPost_ret (results_cell_row Tryd.results18 _ _ w.heap.size 39 _ (0, 0) _ rfl R2.out Tryd.underlying39 rfl (hi39 _ _)) rfl ?_
      exact ⟨rfl, HB.out⟩
theorem twice_calls (w : World) (g : Nat) (f h : Nat → Nat) (hf : ∀ i, f i < 4294967296) (hh : ∀ i, h i = ofN f (f i) 32) (hw : Way w g f) : Calls Tryd.prog 20 #[.pointer (some ⟨g, 0, none⟩)] w (Gives w h) := by
  obtain ⟨W, hW⟩ : ∃ W, W = (w.alloc (.cells (cl h 0).toArray 39)).alloc (.cells (cl h 32).toArray 39) := ⟨_, rfl⟩
  have hr0 : W.heap[w.heap.size]? = some (.cells (cl h 0).toArray 39 (0, 0)) := by rw [hW]; exact row_old _ _ _ _ (row_last _ _)
  have hr1 : W.heap[w.heap.size + 1]? = some (.cells (cl h 32).toArray 39 (0, 0)) := by
    rw [hW]
    have := row_last (w.alloc (.cells (cl h 0).toArray 39)) (.cells (cl h 32).toArray 39)
    simpa using this
  have hr2 := setRow_heap W w.heap.size _ (cl h 32).toArray _ _ hr0
  have HB : Hid (Below w.heap.size w (W.setRow w.heap.size (cl h 32).toArray)) := by
    rw [hW]
    exact below_setRow (((Below.refl _ w).alloc (Nat.le_refl _) _).alloc (by simp) _) (Nat.le_refl _) _
  have R0 : Hid (_ = _) := hr0
  have R1 : Hid (_ = _) := hr1
  have R2 : Hid (_ = _) := hr2
  clear hr0 hr1 hr2
  have HF : Hid (∀ i (o1 o2 : Obj), Calls Tryd.prog 19 #[.pointer (some ⟨g, 0, none⟩), .int .u32 (f i : Int)] ((w.alloc o1).alloc o2) fun e w' => e = .returned (.int .u32 (h i : Int)) ∧ w' = (w.alloc o1).alloc o2) := by
    intro i o1 o2
    rw [hh i]
    exact of_calls _ g (f i) f (hf i) hf (row_old _ _ _ _ (row_old _ _ _ _ hw))
  have HC : Hid (∀ i (o1 o2 : Obj), i < 32 → ((w.alloc o1).alloc o2).cell? ⟨g, i, none⟩ = some (.int .u32 (f i : Int))) := fun i o1 o2 hi => Way.cell (row_old _ _ _ _ (row_old _ _ _ _ hw)) i hi
  clear hf hh hw
  go_enter Tryd.func20, Tryd.ntmps20
  go_wp2
  go_loopw [5] (fun i wr => ∃ j : Nat, j ≤ 32 ∧ i = .int .i64 j ∧ wr = (w.alloc (.cells (cl h 0).toArray 39)).alloc (.cells (cl h j).toArray 39)) (fun i _ => 32 - (intOf i).toNat)
  case atStart => exact ⟨0, Nat.zero_le _, rfl, rfl⟩
  case round =>
    obtain ⟨j, hj, rfl, rfl⟩ := hrel
    by_cases hlt : j < 32
    · have hv := cl_get h j j hlt
      have hset := cl_set h j hlt
      have hcell := HC.out j (.cells (cl h 0).toArray 39) (.cells (cl h j).toArray 39) hlt
      go_wp2_with fail
      refine Calls.mono (HF.out j _ _) ?_
      rintro e w1 ⟨rfl, hw1⟩
      have hw2 := hw1.symm
      subst hw2
      go_wp2
      go_roundw
      case rel => exact ⟨j + 1, hlt, rfl, by simp⟩
      case measure => exact meas _ _ hlt
    · obtain rfl : j = 32 := by omega
      rw [← hW]
      clear hW
      go_wp2_with (first
        | refine wpList_load_row rfl 39 _ rfl (w.heap.size + 1) rfl 39 _ (0, 0) _ R1.out Tryd.underlying39 rfl (hi39 _ _) ?_
        | refine wpList_store_row rfl 39 _ _ rfl w.heap.size (cl h 32).toArray rfl rfl 39 _ R0.out (hi39 _ _) (by simp [cl_length]) (cl_one h 32) ?_)
      refine bodyPost_ret (results_cell_row Tryd.results20 _ _ w.heap.size 39 _ (0, 0) _ rfl R2.out Tryd.underlying39 rfl (hi39 _ _)) rfl ?_
      exact ⟨rfl, HB.out⟩
end Go.Proofs.YtlcceogjoghdoaaDoor
