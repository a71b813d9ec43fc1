/- Lists of waits: as they are read, as they grow; a slice of one wait. -/
import Derived.Test.YtocjgcjechhehaaE
import Derived.Great.BuildSlice
namespace Go.Proofs.Ytocjgcjechhehaa
open Go.ChangeAt Go.ChangeShapes Go.Deep Go.RowKit Go.WideShapes
theorem info29 : (Try.prog.info? 29).map (fun i => (i.zero, i.size, i.bytes)) = some (some (.agg zW), 19, 208) := by kernel_rfl
theorem zW_size : zW.size = 19 := rfl
theorem fold_set : ∀ (cs : List Value) (k : Nat) (old : Array Value), k + cs.length ≤ old.size → ((cs.zipIdx k).foldl (fun (a : Array Value) (p : Value × Nat) => a.setIfInBounds p.2 p.1) old).size = old.size ∧ ∀ i, ((cs.zipIdx k).foldl (fun (a : Array Value) (p : Value × Nat) => a.setIfInBounds p.2 p.1) old)[i]? = if k ≤ i ∧ i < k + cs.length then cs[i - k]? else old[i]? := by
  intro cs
  induction cs with
  | nil =>
    intro k old _
    refine ⟨rfl, fun i => ?_⟩
    rw [if_neg (by simp)]
    rfl
  | cons c cs ih =>
    intro k old h
    simp only [List.length_cons] at h
    have hi := ih (k + 1) (old.setIfInBounds k c) (by simp; omega)
    simp only [List.zipIdx_cons, List.foldl_cons]
    refine ⟨hi.1.trans (by simp), fun i => ?_⟩
    rw [hi.2 i]
    simp only [List.length_cons]
    by_cases h1 : k + 1 ≤ i ∧ i < k + 1 + cs.length
    · rw [if_pos h1, if_pos (by omega)]
      obtain ⟨d, rfl⟩ : ∃ d, i = k + 1 + d := ⟨i - (k + 1), by omega⟩
      have e1 : k + 1 + d - (k + 1) = d := by omega
      have e2 : k + 1 + d - k = d + 1 := by omega
      rw [e1, e2]
      rfl
    · rw [if_neg h1]
      by_cases h2 : i = k
      · subst h2
        rw [if_pos (by omega), Array.getElem?_setIfInBounds_self_of_lt (by omega), Nat.sub_self]
        rfl
      · rw [if_neg (by omega), Array.getElem?_setIfInBounds_ne (by omega)]
theorem fill_one {n : Nat} {cs old : Array Value} (hs : cs.size = n) (ho : old.size = n) : Instr.fill (fun i => some (i * n, n)) old [(0, .agg cs)] = some cs := by
  have hf := fold_set cs.toList 0 old (by simp; omega)
  have hc : (Value.agg cs).cells = cs := rfl
  simp only [Instr.fill, hc, Nat.zero_mul, Nat.zero_add]
  rw [if_neg (by simp; omega)]
  congr 1
  apply Array.ext_getElem?
  intro i
  have e : (cs.zipIdx.foldl (fun (a : Array Value) (x : Value × Nat) => a.setIfInBounds x.2 x.1) old) = ((cs.toList.zipIdx 0).foldl (fun (a : Array Value) (p : Value × Nat) => a.setIfInBounds p.2 p.1) old) := by
    rw [← Array.foldl_toList, Array.toList_zipIdx]
  refine (congrArg (·[i]?) e).trans ((hf.2 i).trans ?_)
  simp only [Array.length_toList, Nat.zero_le, true_and, Nat.zero_add, Nat.sub_zero]
  by_cases h : i < cs.size
  · rw [if_pos h]
    simp
  · rw [if_neg h, Array.getElem?_eq_none (by omega), Array.getElem?_eq_none (by omega)]
theorem slice1 (cs : Array Value) (h : cs.size = 19) (w : World) : (Instr.buildSlice 22 1 #[(0, .agg cs)]).run Try.prog w = .ok (.slice (some ⟨w.heap.size, 0, none⟩) 1 1) (w.alloc (.cells cs 29)) := by
  obtain ⟨ie, hie, hz, hs, _⟩ := info_parts info29
  refine run_buildSlice w 22 29 1 _ cs ie (.agg zW) Try.underlying22 hie hz (by rw [hs]; decide) (by rw [hs]; decide) ?_
  rw [hs]
  exact fill_one h (by simp)
theorem wpList_slice_run {P : Program} {ops : Array Oper} {rest : List Oper} {o : Oper} {a : Act} {w : World} {Q : Exit → Act → World → Prop} (hgd : o.guard = none) (t : TypeId) (x : Operand) (ho : o.op = .buildSlice t 1 #[(0, x)]) (vx : Value) (hx : a.eval x = vx) (v : Value) (w' : World) (hr : (Instr.buildSlice t 1 #[(0, vx)]).run P w = .ok v w')
    (h : wpList P ops Q rest (a.put o.dst v) w') : wpList P ops Q (o :: rest) a w :=
  wpList_plain hgd fun _ hK => by
    unfold Oper.wp execOp
    simp only [ho]
    simp [hx, hr, Result.andThen]
    exact hK _ _ h
/-- A list of waits that is read. -/
def LsW (w : World) (n : Nat) (a : Option Addr) (ws : List Wt) : Prop := ∀ (i : Nat) x, ws[i]? = some x → ∃ B o cs, a = some ⟨B, o, none⟩ ∧ Lies w B (o + i * 19) cs ∧ IsW (Is w n) cs x
theorem LsW.below {w w' : World} {n : Nat} {a : Option Addr} {ws : List Wt} (h : LsW w n a ws) (hb : Below w.heap.size w w') : LsW w' n a ws := fun i x hx => by
  obtain ⟨B, o, cs, ha, hl, hi⟩ := h i x hx
  exact ⟨B, o, cs, ha, hl.below hb, hi.map fun _ _ h => h.below hb⟩
/-- A list of waits of the call's own, in blocks from lo on. -/
def GrW (lo n : Nat) (w : World) (u : Value) (xs : List Wt) : Prop :=
  ∃ cells, w.ownsRow lo 29 19 u xs.length cells ∧ ∀ (i : Nat) x, xs[i]? = some x → ∃ cs : Array Value, (∀ (k : Nat) c, cs[k]? = some c → cells[i * 19 + k]? = some c) ∧ IsW (IsQ (fun B => lo ≤ B ∧ u.ownBlock ≠ some B) w n) cs x
theorem GrW.nil (lo n : Nat) (w : World) : GrW lo n w (.slice none 0 0) [] := ⟨[], World.ownsRow_nil _ _ _ _, fun i t h => by simp at h⟩
theorem GrW.below {lo n : Nat} {w w' : World} {u : Value} {xs : List Wt} (h : GrW lo n w u xs) (hb : Below w.heap.size w w') : GrW lo n w' u xs := by
  obtain ⟨cells, ho, hc⟩ := h
  refine ⟨cells, row_kept ho (fun B _ _ hg => hb.block B (Array.getElem?_eq_some_iff.1 hg).1), fun i x hx => ?_⟩
  obtain ⟨cs, h1, hq⟩ := hc i x hx
  exact ⟨cs, h1, hq.map fun _ _ h => h.keep (fun B q c hB hcl => ⟨hb.block B (World.block_lt_of_cell? w ⟨B, q, none⟩ hcl), hB⟩)⟩
theorem GrW.shape {lo n : Nat} {w : World} {u : Value} {ts : List Wt} (h : GrW lo n w u ts) : ∃ a c, u = .slice a ts.length c ∧ ts.length ≤ c ∧ c ≤ 9223372036854775807 := by
  obtain ⟨_, ⟨_, ⟨rfl, h2⟩ | ⟨g, cap, cur, rfl, _, _, hle, hm, _⟩⟩, _⟩ := h
  · exact ⟨none, 0, by rw [h2], by omega, by omega⟩
  · unfold maxLen at hm
    exact ⟨_, _, rfl, hle, by omega⟩
theorem GrW.lt {lo n : Nat} {w : World} {u : Value} {ts : List Wt} (h : GrW lo n w u ts) {B : Nat} (hB : u.ownBlock = some B) : lo ≤ B ∧ B < w.heap.size := by
  obtain ⟨cells, ho, _⟩ := h
  exact World.ownsRow.lt ho B hB
theorem GrW.ls {lo n : Nat} {w : World} {a : Option Addr} {k c : Nat} {ts : List Wt} (h : GrW lo n w (.slice a k c) ts) : LsW w n a ts := by
  obtain ⟨cells, ho, hc⟩ := h
  intro i t ht
  have hlt : i < ts.length := (List.getElem?_eq_some_iff.1 ht).1
  obtain ⟨cs, h1, hi⟩ := hc i t ht
  have ho2 := ho
  obtain ⟨_, ⟨hu, h2⟩ | ⟨g, cap, cur, hu, hB, hg, _⟩⟩ := ho
  · omega
  · cases hu
    refine ⟨g, 0, cs, rfl, fun j v hj => ?_, hi.map fun _ _ h => h.is⟩
    have hj19 : j < 19 := by have := (Array.getElem?_eq_some_iff.1 hj).1; have := hi.size; omega
    rw [Nat.zero_add, World.ownsRow.cellAt ho2 (i * 19 + j) (by omega), h1 j v hj]
theorem GrW.app {lo n src : Nat} {t : TypeId} {W : World} {u : Value} {xs : List Wt} {x : Wt} {r : Array Value} (h : GrW lo n W u xs) (hs : W.heap[src]? = some (.cells r t (0, 0))) (hQ : IsW (IsQ (fun B => lo ≤ B ∧ u.ownBlock ≠ some B) W n) r x) (hB : lo ≤ W.heap.size) (hk : xs.length ≤ 1000) :
    ∃ (a : Option Addr) (c : Nat) (w' : World), (∀ ty, (Builtin.append_ #[22, 22] ty #[u, .slice (some ⟨src, 0, none⟩) 1 1]).run Try.prog W = .ok (.slice a (xs.length + 1) c) w') ∧ GrW lo n w' (.slice a (xs.length + 1) c) (xs ++ [x]) ∧ Below lo W w' ∧ (∀ B, B < W.heap.size → u.ownBlock ≠ some B → w'.heap[B]? = W.heap[B]?) := by
  obtain ⟨cells, ho, hc⟩ := h
  obtain ⟨i0, hi0, hz0, hz1, hz2⟩ := info_parts info29
  obtain ⟨u', w2, hr, hown', hbl, hkeep, hblk⟩ := app2 (lo := lo) (src := src) (k := xs.length) (t := 22) (news := r.toList) Try.underlying22 hi0 hz0 hz1 hz2 rfl (by decide) ho (by rw [Array.length_toList]; exact hQ.size) (fun j z hj => by rw [add_plain, Nat.zero_add, cell_of_row W src j r t (0, 0) hs]; simpa using hj) (fun z hz => by
    obtain ⟨j, hj⟩ := List.mem_iff_getElem?.1 hz
    exact hQ.one j z (by simpa using hj)) (by omega) (by omega) hB
  obtain ⟨g', cap', rfl⟩ := ownsRow_succ hown'
  have hold : ∀ B q c, (lo ≤ B ∧ u.ownBlock ≠ some B) → W.cell? ⟨B, q, none⟩ = some c → w2.heap[B]? = W.heap[B]? ∧ (lo ≤ B ∧ (Value.slice (some ⟨g', 0, none⟩) (xs.length + 1) cap').ownBlock ≠ some B) := fun B q c hB hcel => by
    have hB3 : B < W.heap.size := World.block_lt_of_cell? W ⟨B, q, none⟩ hcel
    refine ⟨hkeep B hB3 hB.2, hB.1, ?_⟩
    rcases hblk with e | e
    · rw [e]; exact hB.2
    · rw [e]; intro e2; injection e2 with e2; omega
  have hcl : cells.length = xs.length * 19 := ho.1
  refine ⟨_, _, w2, hr, ⟨cells ++ r.toList, by rw [List.length_append]; exact hown', fun i z hz => ?_⟩, hbl, hkeep⟩
  by_cases hlt : i < xs.length
  · rw [List.getElem?_append_left hlt] at hz
    obtain ⟨cs, h1, hq⟩ := hc i z hz
    refine ⟨cs, fun k c hkc => ?_, hq.map fun _ _ h => h.keep hold⟩
    have hk13 : k < 19 := by have := (Array.getElem?_eq_some_iff.1 hkc).1; have := hq.size; omega
    rw [List.getElem?_append_left (by omega)]
    exact h1 k c hkc
  · have hi2 : i = xs.length := by
      have := (List.getElem?_eq_some_iff.1 hz).1
      simp at this
      omega
    subst hi2
    rw [List.getElem?_append_right (Nat.le_refl _)] at hz
    simp at hz
    subst hz
    refine ⟨r, fun k c hkc => ?_, hQ.map fun _ _ h => h.keep hold⟩
    rw [List.getElem?_append_right (by omega), hcl, Nat.add_sub_cancel_left]
    simpa using hkc
/-- A wait that was cloned lately is put behind the list. -/
theorem GrW.push {lo n b : Nat} {W W1 : World} {u : Value} {xs : List Wt} {x : Wt} {r : Array Value} (h : GrW lo n W u xs) (hlo : lo ≤ W.heap.size) (hb : Below W.heap.size W W1) (hWb : W.heap.size ≤ b) (hb0 : 0 < b) (hi : IsW (IsN b W1 n) r x) (hk : xs.length ≤ 1000) :
    ∃ (a : Option Addr) (c : Nat) (w' : World), (∀ ty, (Builtin.append_ #[22, 22] ty #[u, .slice (some ⟨W1.heap.size, 0, none⟩) 1 1]).run Try.prog (W1.alloc (.cells r 29)) = .ok (.slice a (xs.length + 1) c) w') ∧ GrW lo n w' (.slice a (xs.length + 1) c) (xs ++ [x]) ∧ Below lo W w' ∧ (∀ B, B < W.heap.size → u.ownBlock ≠ some B → w'.heap[B]? = W.heap[B]?) := by
  have hs := hb.size
  have h1 := (h.below hb).below (bel1 W1 (.cells r 29))
  have hi2 : IsW (IsN b (W1.alloc (.cells r 29)) n) r x := hi.map fun _ _ h => h.kb (g := 0) (KB.of_below (bel1 W1 _)) hb0
  have hQ : IsW (IsQ (fun B => lo ≤ B ∧ u.ownBlock ≠ some B) (W1.alloc (.cells r 29)) n) r x := hi2.map fun _ _ hx => hx.isQ fun B h3 _ => ⟨by omega, fun e => by have := (h.lt e).2; omega⟩
  obtain ⟨a, c, w2, hr, hg, hbl, hkp⟩ := h1.app (heap_alloc_new W1 (.cells r 29)) hQ (by simp; omega) hk
  refine ⟨a, c, w2, hr, hg, ((hb.mono hlo).trans ((bel1 W1 _).mono (by omega))).trans hbl, fun B hB hne => ?_⟩
  exact (hkp B (by simp; omega) hne).trans (((bel1 W1 (.cells r 29)).block B (by omega)).trans (hb.block B hB))
end Go.Proofs.Ytocjgcjechhehaa
