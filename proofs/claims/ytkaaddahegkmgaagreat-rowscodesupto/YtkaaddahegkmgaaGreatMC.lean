/- RI, RC, RD, put together. -/
import Derived.Test.YtkaaddahegkmgaaGreatBA
import Derived.Deep.Slices
import Derived.ChangeArms
import Derived.ChangeSame
import Derived.Lib.Overlaps
import Derived.Lib.AppendZerosOnto
import Derived.Lib.AppendZeros
import Derived.Laws.CopyRow
import Derived.Deep.RegionLaw
import Derived.BigRegion
import Derived.Deep.RegionHeld3
import Derived.Test.YtkaaddahegkmgaaGreatRB
import Derived.Laws.Rows
namespace Go.Proofs.YtkaaddahegkmgaaGreat
open Go.ChangeShapes Go.WideShapes Go.ChangeAt Go.RowKit
theorem row_frozen {w : World} {g : Nat} {cs : Array Value} {t : TypeId} (h : w.heap[g]? = some (.cells cs t (0, 0))) (o : Nat) : w.frozen? ⟨g, o, none⟩ = false := by
  unfold World.frozen?
  rw [h]
  simp
theorem lt_of_row {w : World} {g : Nat} {o : Obj} (h : w.heap[g]? = some o) : g < w.heap.size := (Array.getElem?_eq_some_iff.1 h).1
theorem row_below {w w' : World} (hb : Below w.heap.size w w') {g : Nat} {o : Obj} (h : w.heap[g]? = some o) : w'.heap[g]? = some o := (hb.block g (lt_of_row h)).trans h
theorem row_kb {g B : Nat} {w w' : World} {o : Obj} (h : w.heap[B]? = some o) (hb : KB g w w') (hg : B ≠ g) : w'.heap[B]? = some o := by
  rw [hb.2.2.2.2 B (by rcases Nat.lt_or_ge B w.heap.size with h2 | h2; exact h2; rw [Array.getElem?_eq_none h2] at h; cases h) hg, h]
theorem setRow_kb (w : World) (g : Nat) (cs : Array Value) : KB g w (w.setRow g cs) := ⟨rfl, rfl, rfl, by rw [setRow_size]; exact Nat.le_refl _, fun k _ h => setRow_other w g k cs h⟩
theorem KB.setRow (g : Nat) (w : World) (cs : Array Value) : KB g w (w.setRow g cs) := setRow_kb w g cs
/-- copy of structs of k cells into a row. -/
theorem run_copy_rowK {P : Program} (w : World) (dT sT ty elem : TypeId) (g o dLen dCap : Nat) (a : Addr) (sLen sCap k m : Nat) (cur : Array Value) (t : TypeId) (cs : List Value)
    (hu : P.underlying dT = some (.slice elem)) (hs : (P.info? elem).map (·.size) = some k)
    (hg : w.heap[g]? = some (.cells cur t (0, 0))) (hm : Nat.min sLen dLen = m) (hn : cs.length = m * k)
    (hsrc : ∀ j v, cs[j]? = some v → w.cell? (a.add j) = some v) (hfit : o + cs.length ≤ cur.size) (h1 : ∀ v ∈ cs, v.oneCell' = true) :
    (Builtin.copy_ #[dT, sT] ty #[.slice (some ⟨g, o, none⟩) dLen dCap, .slice (some a) sLen sCap]).run P w =
      .ok (goInt m) (w.setRow g (cur.toList.take o ++ cs ++ cur.toList.drop (o + cs.length)).toArray) := by
  have hl := run_loadCells_list (P := P) w a cs hsrc
  have hst := run_storeCells_at P g o t cs 0 cur w hg (by simpa using hfit) h1
  rw [hn] at hl
  cases hq : P.info? elem with
  | none => simp [hq] at hs
  | some i =>
    have hi : i.size = k := by simpa [hq] using hs
    simp [Builtin.copy_, run_underlying hu, Builtin.lenOf, Builtin.firstCells, sizeOf, typeInfo, hq, hi, hm, hl, hst]
theorem wp_copy_runK {P : Program} (w : World) {o : Oper} {a : Act} {K : Act → World → Prop} {Q : Exit → Act → World → Prop} (d s : Operand) (t t' : TypeId)
    (ho : o.op = .call { callee := .builtin .copy, args := #[d, s], argTypes := #[t, t'] }) (v u : Value) (hd : a.eval d = v) (hs : a.eval s = u) {v' : Value} {w' : World}
    (hr : (Builtin.copy_ #[t, t'] o.type #[v, u]).run P w = .ok v' w') (h : K (a.put o.dst v') w') : o.wp P a w K Q := by
  unfold Oper.wp execOp
  simp only [ho, resolve, invoke, builtin, Sem.run_bind, Sem.run_pure, Result.andThen_ok, List.map_toArray, List.map_cons, List.map_nil, hd, hs, hr]
  exact h
theorem wpList_copy_runK {P : Program} (w : World) {ops : Array Oper} {rest : List Oper} {o : Oper} {a : Act} {Q : Exit → Act → World → Prop} (hgd : o.guard = none) (d s : Operand) (t t' : TypeId)
    (ho : o.op = .call { callee := .builtin .copy, args := #[d, s], argTypes := #[t, t'] }) (v u : Value) (hd : a.eval d = v) (hs : a.eval s = u) {v' : Value} {w' : World}
    (hr : (Builtin.copy_ #[t, t'] o.type #[v, u]).run P w = .ok v' w') (h : wpList P ops Q rest (a.put o.dst v') w') : wpList P ops Q (o :: rest) a w :=
  wpList_plain hgd fun _ hK => wp_copy_runK w d s t t' ho v u hd hs hr (hK _ _ h)
theorem step_copy_runK {P : Program} {ops : Array Oper} {o : Oper} {a : Act} {w : World} {K : Act → World → Prop} {Q : Exit → Act → World → Prop} {E : Prop}
    (hg : o.guard = none) (d x : Operand) (dT sT : TypeId) (hop : o.op = Op.call { callee := Callee.builtin Builtin.copy, args := #[d, x], argTypes := #[dT, sT] })
    (v u : Value) (hd : a.eval d = v) (hx : a.eval x = u) {v' : Value} {w' : World} (hr : (Builtin.copy_ #[dT, sT] o.type #[v, u]).run P w = .ok v' w') (hK : K (a.put o.dst v') w') :
    if Region.wanted o (yielded ops a.tmps) = true then Oper.wp P o a w K Q else E := by
  have hw : Region.wanted o (yielded ops a.tmps) = true := by simp [Region.wanted, hg]
  rw [if_pos hw]
  unfold Oper.wp
  simp [execOp, hop, resolve, invoke, builtin, hd, hx, hr, Result.andThen]
  exact hK
theorem app2 {lo src k size bytes : Nat} {W : World} {u z : Value} {cells news : List Value} {t e : TypeId} {i0 : TypeInfo} (ht : Tryz.prog.underlying t = some (.slice e)) (hi : Tryz.prog.info? e = some i0) (hz0 : i0.zero = some z) (hz1 : i0.size = size) (hz2 : i0.bytes = bytes) (hzc : z.cells.size = size) (hsz : 0 < size) (hown : W.ownsRow lo e size u k cells) (hl : news.length = size) (hnews : ∀ j z, news[j]? = some z → W.cell? ((⟨src, 0, none⟩ : Addr).add j) = some z) (hs1 : ∀ z ∈ news, z.oneCell' = true) (hk : k ≤ 4611686018427387904) (hby : (k + 1) * bytes ≤ 140737488355328) (hB : lo ≤ W.heap.size) :
    ∃ u' w', (∀ ty, (Builtin.append_ #[t, t] ty #[u, .slice (some ⟨src, 0, none⟩) 1 1]).run Tryz.prog W = .ok u' w') ∧ w'.ownsRow lo e size u' (k + 1) (cells ++ news) ∧ Below lo W w' ∧ (∀ B, B < W.heap.size → u.ownBlock ≠ some B → w'.heap[B]? = W.heap[B]?) ∧ (u'.ownBlock = u.ownBlock ∨ u'.ownBlock = some W.heap.size) := by
  have hb1 := hby
  have key : ∀ ty, ∃ v' w', (Builtin.append_ #[t, t] ty #[u, .slice (some ⟨src, 0, none⟩) 1 1]).run Tryz.prog W = .ok v' w' ∧ w'.ownsRow lo e size v' (k + 1) (cells ++ news) ∧ W.grownBy w' u.ownBlock ∧ _ := fun ty =>
    run_append_own (P := Tryz.prog) (w := W) lo t ty e i0 z size bytes ht hi hz0 hz1 hz2 hzc hsz u k cells hown ⟨src, 0, none⟩ 1 1 news (by rw [hl, Nat.one_mul]) hnews hs1 (by unfold maxLen; omega) hby hB
  obtain ⟨u', w', hr, hown', hgrow, _⟩ := key t
  have hblk : u'.ownBlock = u.ownBlock ∨ u'.ownBlock = some W.heap.size := by
    have hown2 := hown
    obtain ⟨hcl, ⟨rfl, hn0⟩ | ⟨g, cap, cur, rfl, _, hg, hle, _, hcs, _⟩⟩ := hown2
    · have h2 := run_append_nil (P := Tryz.prog) W t t e i0 z ht hi hz0 ⟨src, 0, none⟩ 1 1 news (by rw [hz1, hl, Nat.one_mul]) hnews (by omega) (by omega) (by rw [hz2]; have := Nat.le_mul_of_pos_left bytes (show 0 < k + 1 by omega); omega)
      have e := hr.symm.trans h2
      cases e
      exact .inr rfl
    · by_cases hroom : k + 1 ≤ cap
      · have hmul : (k + 1) * size ≤ cap * size := Nat.mul_le_mul_right _ hroom
        have h2 := run_append_room (P := Tryz.prog) W t t e i0 ht hi g k cap cur hg ⟨src, 0, none⟩ 1 1 news (by rw [hz1, hl, Nat.one_mul]) hnews hs1 hroom (by rw [hz1, hcs, hl]; rw [Nat.add_mul, Nat.one_mul] at hmul; exact hmul)
        have e := hr.symm.trans h2
        cases e
        exact .inl rfl
      · have holds : ∀ j z, cells[j]? = some z → W.cell? ((⟨g, 0, none⟩ : Addr).add j) = some z := hown.cells (g := g) rfl
        have h2 := run_append_grow (P := Tryz.prog) W t t e i0 z ht hi hz0 ⟨g, 0, none⟩ k cap cells (by rw [hz1]; exact hcl) holds ⟨src, 0, none⟩ 1 1 news (by rw [hz1, hl, Nat.one_mul]) hnews (by omega) (by omega) (growslice_fits (by omega) (by rw [hz2]; exact hby))
        have e := hr.symm.trans h2
        cases e
        exact .inr rfl
  exact ⟨u', w', fun ty => hr, hown', (Below.refl _ W).grown hgrow hB (fun k hk2 => (World.ownsRow.lt hown k hk2).1), fun B hB2 hne => hgrow.block B hB2 (fun e => hne e.symm), hblk⟩
theorem wrI {j N : Nat} (h : j < N) (hN : N ≤ 9223372036854775807) : IntKind.i64.wrap ((j : Int) + 1) = (j : Int) + 1 := by rw [IntKind.wrap_i64]; omega
theorem wr3 {i n : Nat} (h : i < n) (hn : n ≤ 1000) : wrap64 ((n : Int) + 1 - (i : Int)) = (n : Int) + 1 - (i : Int) := by unfold wrap64; omega
namespace InsB
theorem info56_ : (Tryz.prog.info? 39).map (fun i => (i.zero, i.size, i.bytes)) = some (some (Value.agg #[.string ⟨#[]⟩, .slice none 0 0]), 2, 40) := by kernel_rfl
theorem info56s_ : (Tryz.prog.info? 39).map (·.size) = some 2 := by kernel_rfl
theorem z56 (w : World) : (Go.sizeOf 39).run Tryz.prog w = .ok 2 w := by kernel_rfl
theorem elem23 : Tryz.prog.elem 23 = 39 := by simp [Program.elem, Tryz.underlying23]
theorem sl_from (B o L c n : Nat) (hn : n ≤ L) (hc : n < c) (w : World) : (Instr.slice 23 (.slice (some ⟨B, o, none⟩) L c) (some (.int .i64 (n : Int))) none none).run Tryz.prog w = .ok (.slice (some ⟨B, o + n * 2, none⟩) (L - n) (c - n)) w := by
  rw [run_slice_l w 23 (some ⟨B, o, none⟩) L c (by rw [elem23]; exact Tryz.underlying23) .i64 _ (by omega) (by omega), elem23, z56]
  have : ¬ c = n := by omega
  simp [Result.andThen, sliced, this, add_plain]
theorem sl_from_any (p : Option Addr) (L c n : Nat) (hn : n ≤ L) : ∃ v, ∀ w, (Instr.slice 23 (.slice p L c) (some (.int .i64 (n : Int))) none none).run Tryz.prog w = .ok v w := by
  refine ⟨.slice (if c = n then p else p.map (·.add (n * 2))) (L - n) (c - n), fun w => ?_⟩
  rw [run_slice_l w 23 p L c (by rw [elem23]; exact Tryz.underlying23) .i64 _ (by omega) (by omega), elem23, z56]
  simp [Result.andThen, sliced]
theorem sl_head (B L c n : Nat) (hn : n ≤ c) (w : World) : (Instr.slice 23 (.slice (some ⟨B, 0, none⟩) L c) none (some (.int .i64 (n : Int))) none).run Tryz.prog w = .ok (.slice (some ⟨B, 0, none⟩) n c) w := by
  rw [run_slice_h w 23 (some ⟨B, 0, none⟩) L c (by rw [elem23]; exact Tryz.underlying23) .i64 _ (by omega) (by omega), elem23, z56]
  simp [Result.andThen, sliced, add_plain]
/-- What Insert in place answers. -/
def InP (b n c i : Nat) (cells news : List Value) (w : World) (e : Ending) (w' : World) : Prop :=
  ∃ cur' : Array Value, e = .returned (.slice (some ⟨b, 0, none⟩) (n + 1) c) ∧ w'.heap[b]? = some (.cells cur' 39 (0, 0)) ∧ cur'.size = c * 2 ∧ cur'.toList.take ((n + 1) * 2) = cells.take (i * 2) ++ (news ++ cells.drop (i * 2)) ∧ KB b w w'
/-- The cells of a row with others put in. -/
theorem ins_cells {c n i : Nat} {cur cells news : List Value} (hi : i ≤ n) (hroom : n + 1 ≤ c) (hsz : cur.length = c * 2) (htk : cur.take (n * 2) = cells) (hnl : news.length = 2) :
    ∀ X1 X2, X1 = cur.take ((i + 1) * 2) ++ cells.drop (i * 2) ++ cur.drop ((i + 1) * 2 + (cells.drop (i * 2)).length) → X2 = X1.take (i * 2) ++ news ++ X1.drop (i * 2 + news.length) → X2.length = c * 2 ∧ X2.take ((n + 1) * 2) = cells.take (i * 2) ++ (news ++ cells.drop (i * 2)) := by
  rintro X1 X2 h1 h2
  have hcl : cells.length = n * 2 := by rw [← htk, List.length_take]; omega
  have hd : (cells.drop (i * 2)).length = (n - i) * 2 := by rw [List.length_drop, hcl]; omega
  have l1 : X1.length = c * 2 := by rw [h1]; simp [hd]; omega
  have e1 : X1.take (i * 2) = cells.take (i * 2) := by
    rw [h1, List.append_assoc, List.take_append_of_le_length (by rw [List.length_take]; omega), List.take_take, ← htk, List.take_take]
    congr 1
    omega
  have e2 : (X1.drop (i * 2 + news.length)).take ((n - i) * 2) = cells.drop (i * 2) := by
    have a1 : i * 2 + news.length = (cur.take ((i + 1) * 2)).length := by rw [List.length_take, hnl]; omega
    rw [h1, List.append_assoc, a1, List.drop_left, ← hd, List.take_left]
  refine ⟨by rw [h2]; simp [hnl, l1]; omega, ?_⟩
  have l3 : (cells.take (i * 2)).length = i * 2 := by rw [List.length_take]; omega
  rw [h2, e1, List.append_assoc, show (n + 1) * 2 = (cells.take (i * 2)).length + (news.length + (n - i) * 2) by rw [l3, hnl]; omega, List.take_length_add_append, List.take_length_add_append, e2]
set_option maxHeartbeats 4000000 in
set_option maxRecDepth 100000 in
theorem ins_shift (b n c i vb : Nat) (cur : Array Value) (cells news : List Value) (w : World) (hi : i < n) (hroom : n + 1 ≤ c) (hc : c ≤ 9223372036854775807) (hvb : vb ≠ b)
    (hb : w.heap[b]? = some (.cells cur 39 (0, 0))) (hsz : cur.size = c * 2) (htk : cur.toList.take (n * 2) = cells) (hv : w.heap[vb]? = some (.cells news.toArray 39 (0, 0))) (hnl : news.length = 2) (h1 : ∀ z ∈ news, z.oneCell' = true) (h2 : ∀ z ∈ cells, z.oneCell' = true) :
    Calls Tryz.prog 96 #[.slice (some ⟨b, 0, none⟩) n c, .int .i64 (i : Int), .slice (some ⟨vb, 0, none⟩) 1 1] w (InP b n c i cells news w) := by
  have hcl : cells.length = n * 2 := by rw [← htk, List.length_take, Array.length_toList]; omega
  have hd : (cells.drop (i * 2)).length = (n - i) * 2 := by rw [List.length_drop, hcl]; omega
  obtain ⟨X1, hX1⟩ : ∃ X1 : List Value, X1 = cur.toList.take ((i + 1) * 2) ++ cells.drop (i * 2) ++ cur.toList.drop ((i + 1) * 2 + (cells.drop (i * 2)).length) := ⟨_, rfl⟩
  obtain ⟨X2, hX2⟩ : ∃ X2 : List Value, X2 = X1.take (i * 2) ++ news ++ X1.drop (i * 2 + news.length) := ⟨_, rfl⟩
  obtain ⟨hf1, hf2⟩ := ins_cells (by omega) hroom (by rw [Array.length_toList]; exact hsz) htk hnl X1 X2 hX1 hX2
  have l1 : X1.length = c * 2 := by rw [hX1]; simp [hd, hsz]; omega
  have hov : ∀ (W : World) lb cb, W.heap[b]? = some (.cells cur 39 (0, 0)) → W.heap[vb]? = some (.cells news.toArray 39 (0, 0)) → (callFunc 109 #[.slice (some ⟨vb, 0, none⟩) 1 1, .slice (some ⟨b, (i + 1) * 2, none⟩) lb cb]).run Tryz.prog W = .ok (.value (.bool false)) W := fun W lb cb hb hv => by
    rw [run_callFunc_extern Tryz.func109 (by kernel_rfl) (by kernel_rfl) (by kernel_rfl) (e := Extern.SlicesOverlaps.overlaps #[23, 23] #[4]) (by kernel_rfl),
      Lib.run_overlaps_apart W 23 4 39 Tryz.underlying23 2 z56 ⟨vb, 0, none⟩ ⟨b, (i + 1) * 2, none⟩ 1 1 lb cb hvb 39 39 2 (c * 2) (by simp [World.shape?, hv, hnl]) (by simp [World.shape?, hb, hsz]) (by omega) (row_frozen hv 0) (row_frozen hv 2)]
    rfl
  have hcp1 : ∀ ty dc sc, (Builtin.copy_ #[23, 23] ty #[.slice (some ⟨b, (i + 1) * 2, none⟩) (n - i) dc, .slice (some ⟨b, i * 2, none⟩) (n + 1 - i) sc]).run Tryz.prog w.drew = (.ok (goInt ((n - i : Nat) : Int)) (w.drew.setRow b X1.toArray)) := fun ty dc sc => by
    rw [hX1]
    refine run_copy_rowK w.drew 23 23 ty 39 b ((i + 1) * 2) (n - i) dc ⟨b, i * 2, none⟩ (n + 1 - i) sc 2 (n - i) cur 39 (cells.drop (i * 2)) Tryz.underlying23 info56s_ hb (by simp only [Nat.min_def]; split <;> omega) hd (fun j v hj => ?_) (by rw [hd, hsz]; omega) (fun v hv => h2 v (List.mem_of_mem_drop hv))
    rw [add_plain]
    show w.cell? _ = _
    rw [cell_of_row w b _ cur 39 (0, 0) hb]
    rw [List.getElem?_drop] at hj
    have hlt := (List.getElem?_eq_some_iff.1 hj).1
    rw [← htk, List.getElem?_take_of_lt (by omega)] at hj
    simpa using hj
  have hb1 : (w.drew.setRow b X1.toArray).heap[b]? = some (.cells X1.toArray 39 (0, 0)) := setRow_heap w.drew b cur X1.toArray 39 (0, 0) hb
  have kb1 : KB b w (w.drew.setRow b X1.toArray) := (KB.of_below (Below.refl _ w).drew).trans (KB.setRow _ _ _)
  have hv1 : (w.drew.setRow b X1.toArray).heap[vb]? = some (.cells news.toArray 39 (0, 0)) := row_kb hv kb1 hvb
  have hcp2 : ∀ ty dc, (Builtin.copy_ #[23, 23] ty #[.slice (some ⟨b, i * 2, none⟩) (n + 1 - i) dc, .slice (some ⟨vb, 0, none⟩) 1 1]).run Tryz.prog (w.drew.setRow b X1.toArray) = .ok (goInt 1) ((w.drew.setRow b X1.toArray).setRow b X2.toArray) := fun ty dc => by
    have := run_copy_rowK (w.drew.setRow b X1.toArray) 23 23 ty 39 b (i * 2) (n + 1 - i) dc ⟨vb, 0, none⟩ 1 1 2 1 X1.toArray 39 news Tryz.underlying23 info56s_ hb1 (by simp only [Nat.min_def]; split <;> omega) (by omega) (fun j v hj => by
      rw [add_plain, Nat.zero_add, cell_of_row _ vb j _ 39 (0, 0) hv1]
      simpa using hj) (by simp [l1]; omega) h1
    refine this.trans ?_
    rw [hX2]
    rfl
  have hb2 : ((w.drew.setRow b X1.toArray).setRow b X2.toArray).heap[b]? = some (.cells X2.toArray 39 (0, 0)) := setRow_heap _ b _ X2.toArray 39 (0, 0) hb1
  have HF : Hid (∃ cur' : Array Value, ((w.drew.setRow b X1.toArray).setRow b X2.toArray).heap[b]? = some (.cells cur' 39 (0, 0)) ∧ cur'.size = c * 2 ∧ cur'.toList.take ((n + 1) * 2) = cells.take (i * 2) ++ (news ++ cells.drop (i * 2)) ∧ KB b w ((w.drew.setRow b X1.toArray).setRow b X2.toArray)) :=
    ⟨X2.toArray, hb2, by simpa using hf1, hf2, kb1.trans (KB.setRow _ _ _)⟩
  have HQ : Hid (∀ w', (∃ cur' : Array Value, w'.heap[b]? = some (.cells cur' 39 (0, 0)) ∧ cur'.size = c * 2 ∧ cur'.toList.take ((n + 1) * 2) = cells.take (i * 2) ++ (news ++ cells.drop (i * 2)) ∧ KB b w w') → (InP b n c i cells news w) (.returned (.slice (some ⟨b, 0, none⟩) (n + 1) c)) w') := fun w' ⟨cur', h⟩ => ⟨cur', rfl, h⟩
  generalize (InP b n c i cells news w) = Q at HQ ⊢
  have HC1 := hcp1 3 (c - (i + 1)) (c - i)
  have HC2 := hcp2 3 (c - i)
  have hov1 := fun lb cb => hov w lb cb hb hv
  have s1 := fun W => sl_from b 0 n c i (by omega) (by omega) W
  have s2 : ∀ W, (Instr.slice 23 (.slice (some ⟨b, 0, none⟩) n c) none (some (.int .i64 ((n : Int) + 1))) none).run Tryz.prog W = .ok (.slice (some ⟨b, 0, none⟩) (n + 1) c) W := fun W => sl_head b n c (n + 1) hroom W
  have s3 := fun W => sl_from b 0 (n + 1) c i (by omega) (by omega) W
  have q1 : ∀ W, (Instr.slice 23 (.slice (some ⟨b, 0, none⟩) (n + 1) c) (some (.int .i64 ((i : Int) + 1))) none none).run Tryz.prog W = .ok (.slice (some ⟨b, (i + 1) * 2, none⟩) (n - i) (c - (i + 1))) W
    | W => by
      by_cases hci : i + 1 < c
      · have := sl_from b 0 (n + 1) c (i + 1) (by omega) hci W
        rw [show n + 1 - (i + 1) = n - i by omega, Nat.zero_add] at this
        exact this
      · omega
  have hz2 : ((i : Int) == (n : Int)) = false := by simp; omega
  have hz3 : decide ((c : Int) < (n : Int) + 1) = false := decide_eq_false (by omega)
  have hm1 : wrap64 ((n : Int) + 1) = (n : Int) + 1 := wr1 hroom hc
  have hm2 : wrap64 ((i : Int) + 1) = (i : Int) + 1 := wr1 (Nat.lt_trans hi hroom) hc
  simp only [Nat.zero_add] at s1 s3
  have hw1 : IntKind.i64.wrap ((i : Int) + 1) = (i : Int) + 1 := wrI (Nat.lt_trans hi hroom) hc
  have hb1' : (0 : Int) ≤ (i : Int) + 1 := Int.le_add_one (Int.natCast_nonneg i)
  have hin : i ≤ n := Nat.le_of_lt hi
  have htn : ((i : Int) + 1).toNat = i + 1 := by clear hm1 hm2 hw1; omega
  have hb2' : ¬ (c = i + 1) := by clear hm1 hm2 hw1; omega
  have hb3' : (i : Int) ≤ (n : Int) + 1 := by clear hm1 hm2 hw1; omega
  have hb4' : ¬ (c = i) := by clear hm1 hm2 hw1; omega
  clear hcp1 hcp2 hov hb hv hsz htk hcl hd hX1 hX2 hf1 hf2 l1 hb1 kb1 hv1 hb2 h1 h2 hnl hroom hc hvb
  go_enter Tryz.func96, Tryz.ntmps96
  go_wp2_with (simp only [hov1])
  go_region
  go_wp2_with fail
  exact HQ.out _ HF.out
theorem grow_cells {i n G : Nat} {R cells news : List Value} (hi : i < n) (hn : n + 1 ≤ G) (hR : R.length = G * 2) (hRt : R.take (i * 2) = cells.take (i * 2)) (hcl : cells.length = n * 2) (hnl : news.length = 2) :
    ∀ X1 X2, X1 = R.take (i * 2) ++ news ++ R.drop (i * 2 + news.length) → X2 = X1.take ((i + 1) * 2) ++ cells.drop (i * 2) ++ X1.drop ((i + 1) * 2 + (cells.drop (i * 2)).length) → X1.length = G * 2 ∧ X2.length = G * 2 ∧ X2.take ((n + 1) * 2) = cells.take (i * 2) ++ (news ++ cells.drop (i * 2)) := by
  rintro X1 X2 h1 h2
  have hd : (cells.drop (i * 2)).length = (n - i) * 2 := by rw [List.length_drop, hcl]; omega
  have l3 : (cells.take (i * 2)).length = i * 2 := by rw [List.length_take]; omega
  have l1 : X1.length = G * 2 := by rw [h1, hRt]; simp only [List.length_append, List.length_drop, hR, hnl, l3]; omega
  have l2 : X2.length = G * 2 := by rw [h2]; simp only [List.length_append, List.length_take, List.length_drop, l1, hcl]; omega
  have e1 : X1.take ((i + 1) * 2) = cells.take (i * 2) ++ news := by
    rw [h1, hRt, show (i + 1) * 2 = (cells.take (i * 2) ++ news).length by rw [List.length_append, l3, hnl]; omega, List.take_left]
  refine ⟨l1, l2, ?_⟩
  rw [h2, e1, show (n + 1) * 2 = (cells.take (i * 2) ++ news ++ cells.drop (i * 2)).length by rw [List.length_append, List.length_append, l3, hnl, hd]; omega, List.take_left, List.append_assoc]
/-- What Insert into new memory answers. -/
def IgP (n i : Nat) (cells news : List Value) (w : World) (e : Ending) (w' : World) : Prop :=
  ∃ (G : Nat) (cur' : Array Value), e = .returned (.slice (some ⟨w.heap.size, 0, none⟩) (n + 1) G) ∧ w'.heap[w.heap.size]? = some (.cells cur' 39 (0, 0)) ∧ cur'.size = G * 2 ∧ n + 1 ≤ G ∧ G ≤ maxLen ∧ cur'.toList.take ((n + 1) * 2) = cells.take (i * 2) ++ (news ++ cells.drop (i * 2)) ∧ Below w.heap.size w w'
set_option maxHeartbeats 4000000 in
set_option maxRecDepth 100000 in
theorem ins_grow (b n c i vb : Nat) (cur : Array Value) (cells news : List Value) (w : World) (hi : i < n) (hn : n ≤ 1000) (hnc : n ≤ c) (hroom : c < n + 1)
    (hb : w.heap[b]? = some (.cells cur 39 (0, 0))) (hsz : cur.size = c * 2) (htk : cur.toList.take (n * 2) = cells) (hv : w.heap[vb]? = some (.cells news.toArray 39 (0, 0))) (hnl : news.length = 2) (h1 : ∀ z ∈ news, z.oneCell' = true) (h2 : ∀ z ∈ cells, z.oneCell' = true) :
    Calls Tryz.prog 96 #[.slice (some ⟨b, 0, none⟩) n c, .int .i64 (i : Int), .slice (some ⟨vb, 0, none⟩) 1 1] w (IgP n i cells news w) := by
  have hcl : cells.length = n * 2 := by rw [← htk, List.length_take, Array.length_toList]; omega
  have hd : (cells.drop (i * 2)).length = (n - i) * 2 := by rw [List.length_drop, hcl]; omega
  have hce : ∀ j v, cells[j]? = some v → w.cell? ⟨b, j, none⟩ = some v := fun j v hj => by
    have hlt := (List.getElem?_eq_some_iff.1 hj).1
    rw [cell_of_row w b _ cur 39 (0, 0) hb]
    rw [← htk, List.getElem?_take_of_lt (by omega)] at hj
    simpa using hj
  have hbw := lt_of_row hb
  have hvw := lt_of_row hv
  obtain ⟨i0, hi0, hz0, hzs, hzb⟩ := info_parts info56_
  have hik : i + (n + 1 - i) = n + 1 := by omega
  have hkk : (n : Int) + 1 - (i : Int) = ((n + 1 - i : Nat) : Int) := by omega
  have hold : (Builtin.firstCells i0.size i (.slice (some ⟨b, 0, none⟩) i c)).run Tryz.prog w.drew = .ok (cells.take (i * 2)).toArray w.drew := by
    rw [hzs]
    exact run_firstCells_some w.drew 2 i ⟨b, 0, none⟩ i c (cells.take (i * 2)) (by rw [List.length_take]; omega) (fun j v hj => by
      rw [add_plain, Nat.zero_add]
      rw [List.getElem?_take] at hj
      split at hj
      · exact hce j v hj
      · cases hj)
  have hrz : ∀ ty, (Builtin.append_ #[23, 3] ty #[.slice (some ⟨b, 0, none⟩) i c, .int .i64 ((n : Int) + 1 - (i : Int))]).run Tryz.prog w =
      .ok (.slice (some ⟨w.heap.size, 0, none⟩) (n + 1) (grownCap w (n + 1) c 39)) (w.drew.alloc (.cells ((cells.take (i * 2)).toArray ++ Builtin.zeroCells (Value.agg #[.string ⟨#[]⟩, .slice none 0 0]).cells (n + 1 - i) ++ Builtin.zeroCells (Value.agg #[.string ⟨#[]⟩, .slice none 0 0]).cells (grownCap w (n + 1) c 39 - (n + 1))) 39)) := fun ty => by
    have h := Lib.run_append_grow_zeros w 23 3 ty 39 i0 _ .i64 .i64 Tryz.underlying23 Tryz.underlying3 hi0 hz0 (some ⟨b, 0, none⟩) i c (cells.take (i * 2)) hold (n + 1 - i) (by omega) (by omega) (by omega) (by omega) (by rw [hzb]; omega) (by rw [hzb, hik]; exact growslice_fits hroom (by omega))
    rw [hik] at h
    rw [hkk]
    exact h
  have hGn : n + 1 ≤ grownCap w (n + 1) c 39 := grownCap_ge w _ _ _
  have hGm := grownCap_le_maxLen w (n + 1) c 39 (by unfold maxLen; omega)
  generalize grownCap w (n + 1) c 39 = G at hrz hGn hGm
  obtain ⟨R, hR⟩ : ∃ R : List Value, R.toArray = (cells.take (i * 2)).toArray ++ Builtin.zeroCells (Value.agg #[.string ⟨#[]⟩, .slice none 0 0]).cells (n + 1 - i) ++ Builtin.zeroCells (Value.agg #[.string ⟨#[]⟩, .slice none 0 0]).cells (G - (n + 1)) := ⟨_, Array.toArray_toList⟩
  have hRl : R.length = G * 2 := by
    have e : R.toArray.size = G * 2 := by rw [hR]; simp [size_zeroCells, Value.cells]; omega
    simpa using e
  have hRt : R.take (i * 2) = cells.take (i * 2) := by
    have e : R = (R.toArray).toList := rfl
    rw [e, hR, Array.toList_append, Array.toList_append, List.append_assoc]
    have l3 : (cells.take (i * 2)).length = i * 2 := by rw [List.length_take]; omega
    show (cells.take (i * 2) ++ _).take (i * 2) = _
    rw [List.take_append_of_le_length (by omega), List.take_of_length_le (by omega)]
  rw [← hR] at hrz
  obtain ⟨X1, hX1⟩ : ∃ X1 : List Value, X1 = R.take (i * 2) ++ news ++ R.drop (i * 2 + news.length) := ⟨_, rfl⟩
  obtain ⟨X2, hX2⟩ : ∃ X2 : List Value, X2 = X1.take ((i + 1) * 2) ++ cells.drop (i * 2) ++ X1.drop ((i + 1) * 2 + (cells.drop (i * 2)).length) := ⟨_, rfl⟩
  obtain ⟨l1, hf1, hf2⟩ := grow_cells hi hGn hRl hRt hcl hnl X1 X2 hX1 hX2
  have hg0 : (w.drew.alloc (.cells R.toArray 39)).heap[w.heap.size]? = some (.cells R.toArray 39 (0, 0)) := heap_alloc_last w.drew _
  have hB0 : Below w.heap.size w (w.drew.alloc (.cells R.toArray 39)) := (Below.refl _ w).drew.alloc (Nat.le_refl _) _
  generalize w.drew.alloc (.cells R.toArray 39) = W1 at hrz hg0 hB0
  have hb1 := row_below hB0 hb
  have hv1 := row_below hB0 hv
  have hA : (Builtin.copy_ #[23, 23] 3 #[.slice (some ⟨w.heap.size, i * 2, none⟩) (n + 1 - i) (G - i), .slice (some ⟨vb, 0, none⟩) 1 1]).run Tryz.prog W1 = .ok (goInt ((1 : Nat) : Int)) (W1.setRow w.heap.size X1.toArray) := by
    have := run_copy_rowK W1 23 23 3 39 w.heap.size (i * 2) (n + 1 - i) (G - i) ⟨vb, 0, none⟩ 1 1 2 1 R.toArray 39 news Tryz.underlying23 info56s_ hg0 (by simp only [Nat.min_def]; split <;> omega) (by omega) (fun j v hj => by
      rw [add_plain, Nat.zero_add, cell_of_row _ vb j _ 39 (0, 0) hv1]
      simpa using hj) (by simp only [List.size_toArray, hRl, hnl]; omega) h1
    refine this.trans ?_
    rw [hX1]
  have hg1 : (W1.setRow w.heap.size X1.toArray).heap[w.heap.size]? = some (.cells X1.toArray 39 (0, 0)) := setRow_heap _ _ _ X1.toArray 39 (0, 0) hg0
  have hB1 : Below w.heap.size w (W1.setRow w.heap.size X1.toArray) := below_setRow hB0 (Nat.le_refl _) _
  have hb2 := row_below hB1 hb
  have hBB : (Builtin.copy_ #[23, 23] 3 #[.slice (some ⟨w.heap.size, (i + 1) * 2, none⟩) (n - i) (G - (i + 1)), .slice (some ⟨b, i * 2, none⟩) (n - i) (c - i)]).run Tryz.prog (W1.setRow w.heap.size X1.toArray).drew = .ok (goInt ((n - i : Nat) : Int)) ((W1.setRow w.heap.size X1.toArray).drew.setRow w.heap.size X2.toArray) := by
    have := run_copy_rowK (W1.setRow w.heap.size X1.toArray).drew 23 23 3 39 w.heap.size ((i + 1) * 2) (n - i) (G - (i + 1)) ⟨b, i * 2, none⟩ (n - i) (c - i) 2 (n - i) X1.toArray 39 (cells.drop (i * 2)) Tryz.underlying23 info56s_ hg1 (by simp only [Nat.min_def]; split <;> omega) hd (fun j v hj => by
      rw [add_plain]
      show (W1.setRow w.heap.size X1.toArray).cell? _ = _
      rw [cell_of_row _ b _ cur 39 (0, 0) hb2]
      rw [List.getElem?_drop] at hj
      have := hce _ _ hj
      rw [cell_of_row w b _ cur 39 (0, 0) hb] at this
      exact this) (by simp only [List.size_toArray, l1, hd]; omega) (fun v hv => h2 v (List.mem_of_mem_drop hv))
    refine this.trans ?_
    rw [hX2]
  have hg2 : ((W1.setRow w.heap.size X1.toArray).drew.setRow w.heap.size X2.toArray).heap[w.heap.size]? = some (.cells X2.toArray 39 (0, 0)) := setRow_heap _ _ _ X2.toArray 39 (0, 0) hg1
  have HQ : Hid (IgP n i cells news w (.returned (.slice (some ⟨w.heap.size, 0, none⟩) (n + 1) G)) ((W1.setRow w.heap.size X1.toArray).drew.setRow w.heap.size X2.toArray)) :=
    ⟨G, X2.toArray, rfl, hg2, by simpa using hf1, hGn, hGm, hf2, below_setRow hB1.drew (Nat.le_refl _) _⟩
  generalize IgP n i cells news w = Q at HQ ⊢
  have hz2 : ((i : Int) == (n : Int)) = false := by simp; omega
  have hz3 : decide ((c : Int) < (n : Int) + 1) = true := decide_eq_true (by omega)
  have s1 := fun W => sl_from b 0 n c i (by omega) (by omega) W
  have s2 := fun W => sl_head b n c i (by omega) W
  have s3 := fun W => sl_from w.heap.size 0 (n + 1) G i (by omega) (by omega) W
  have q1 : ∀ W, (Instr.slice 23 (.slice (some ⟨w.heap.size, 0, none⟩) (n + 1) G) (some (.int .i64 ((i : Int) + 1))) none none).run Tryz.prog W = .ok (.slice (some ⟨w.heap.size, (i + 1) * 2, none⟩) (n - i) (G - (i + 1))) W
    | W => by
      have := sl_from w.heap.size 0 (n + 1) G (i + 1) (by omega) (by omega) W
      rw [show n + 1 - (i + 1) = n - i by omega, Nat.zero_add] at this
      exact this
  simp only [Nat.zero_add] at s1 s3
  have hb1' : (0 : Int) ≤ (i : Int) + 1 := Int.le_add_one (Int.natCast_nonneg i)
  have hin : i ≤ n := Nat.le_of_lt hi
  have htn : ((i : Int) + 1).toNat = i + 1 := by omega
  have hb2' : ¬ (G = i + 1) := by omega
  have hb3' : (i : Int) ≤ (n : Int) := by omega
  have hb4' : ¬ (c = i) := by omega
  have hm1 : wrap64 ((n : Int) + 1) = (n : Int) + 1 := wr1 (Nat.lt_succ_of_le hn) (by omega)
  have hm2 : wrap64 ((i : Int) + 1) = (i : Int) + 1 := wr1 (Nat.lt_of_lt_of_le hi hn) (by clear hm1; omega)
  have hm3 : wrap64 ((n : Int) + 1 - (i : Int)) = (n : Int) + 1 - (i : Int) := wr3 hi hn
  have hw1 : IntKind.i64.wrap ((i : Int) + 1) = (i : Int) + 1 := wrI (Nat.lt_of_lt_of_le hi hn) (by clear hm1 hm2 hm3; omega)
  rw [← hm3] at hrz
  have HRZ : Hid (∀ ty, _) := hrz
  clear hold hrz hcl hd hce hik hkk hbw hvw hGn hGm hR hRl hRt hX1 hX2 l1 hf1 hf2 hg0 hB0 hb1 hv1 hg1 hB1 hb2 hg2 hb hv hsz htk hnl h1 h2 hi0 hz0 hzs hzb hn hnc hroom
  go_enter Tryz.func96, Tryz.ntmps96
  go_wp2_with (at_builtin; refine Lib.wpList_append_run _ rfl _ _ 23 3 rfl _ _ rfl rfl _ _ (HRZ.out _) ?_)
  go_region
  go_wp2_with fail
  exact HQ.out
set_option maxHeartbeats 2000000 in
set_option maxRecDepth 100000 in
theorem insert_calls (lo : Nat) (u : Value) (m i vb : Nat) (cells news : List Value) (w : World) (hO : w.ownsRow lo 39 2 u m cells) (hi : i ≤ m) (hn : m ≤ 500) (hv : w.heap[vb]? = some (.cells news.toArray 39 (0, 0)))
    (hnl : news.length = 2) (hn1 : ∀ z ∈ news, z.oneCell' = true) (ho1 : ∀ z ∈ cells, z.oneCell' = true) (hvu : u.ownBlock ≠ some vb) (hlo : lo ≤ w.heap.size) :
    Calls Tryz.prog 96 #[u, .int .i64 (i : Int), .slice (some ⟨vb, 0, none⟩) 1 1] w fun e w' => ∃ v, e = .returned v ∧ w'.ownsRow lo 39 2 v (m + 1) (cells.take (i * 2) ++ (news ++ cells.drop (i * 2))) ∧ Below lo w w' ∧ (∀ B, B < w.heap.size → u.ownBlock ≠ some B → w'.heap[B]? = w.heap[B]?) ∧ (v.ownBlock = u.ownBlock ∨ v.ownBlock = some w.heap.size) := by
  obtain ⟨i0, hi0, hz0, hz1, hz2⟩ := info_parts info56_
  by_cases hin : i = m
  · subst hin
    obtain ⟨v, w2, hrun, hg2, hb2, hk2, hown⟩ := app2 (src := vb) Tryz.underlying23 hi0 hz0 hz1 hz2 (by rfl) (by decide) hO hnl (fun j z hz => by
      rw [add_plain, Nat.zero_add, cell_of_row _ vb j _ 39 (0, 0) hv]
      simpa using hz) hn1 (by omega) (by omega) hlo
    have hcl : cells.length = i * 2 := hO.1
    have HG : Hid (w2.ownsRow lo 39 2 v (i + 1) (cells.take (i * 2) ++ (news ++ cells.drop (i * 2)))) := by
      show World.ownsRow _ _ _ _ _ _ _
      rw [List.take_of_length_le (by omega), List.drop_of_length_le (by omega), List.append_nil]
      exact hg2
    have HB : Hid (Below lo w w2 ∧ (∀ B, B < w.heap.size → u.ownBlock ≠ some B → w2.heap[B]? = w.heap[B]?) ∧ (v.ownBlock = u.ownBlock ∨ v.ownBlock = some w.heap.size)) := ⟨hb2, hk2, hown⟩
    obtain ⟨a, c, hu⟩ : ∃ a c, u = .slice a i c := by
      obtain ⟨_, ⟨rfl, h0⟩ | ⟨g, cap, cur, rfl, _⟩⟩ := hO
      · exact ⟨none, 0, by rw [h0]⟩
      · exact ⟨_, _, rfl⟩
    subst hu
    obtain ⟨sv, hsv⟩ := sl_from_any a i c i (Nat.le_refl _)
    generalize cells.take (i * 2) ++ (news ++ cells.drop (i * 2)) = ys at HG ⊢
    have HR : Hid (∀ ty, _) := hrun
    have HQ : Hid (∃ v', v = v' ∧ w2.ownsRow lo 39 2 v' (i + 1) ys ∧ Below lo w w2 ∧ (∀ B, B < w.heap.size → (Value.slice a i c).ownBlock ≠ some B → w2.heap[B]? = w.heap[B]?) ∧ (v'.ownBlock = (Value.slice a i c).ownBlock ∨ v'.ownBlock = some w.heap.size)) := ⟨v, rfl, HG.out, HB.out⟩
    clear hO hi hn hv hvu hlo hnl hn1 hg2 hb2 hrun hk2 hown ho1 HG HB hcl hi0 hz0 hz1 hz2
    go_enter Tryz.func96, Tryz.ntmps96
    go_wp2_with (at_builtin; refine Lib.wpList_append_run _ rfl _ _ 23 23 rfl _ _ rfl rfl _ _ (HR.out _) ?_)
    go_ret
    obtain ⟨v', rfl, h⟩ := HQ.out
    exact ⟨_, rfl, h⟩
  · have hlt : i < m := by omega
    obtain ⟨hcl, ⟨_, h0⟩ | ⟨g, cap, cur, rfl, hg0, hg, hle, hm, hsz, htk⟩⟩ := hO
    · omega
    have hgv : vb ≠ g := fun e => hvu (by rw [e]; rfl)
    have hl : (cells.take (i * 2) ++ (news ++ cells.drop (i * 2))).length = (m + 1) * 2 := by simp [hcl, hnl]; omega
    by_cases hroom : m + 1 ≤ cap
    · refine (ins_shift g m cap i vb cur cells news w hlt hroom (by unfold maxLen at hm; omega) hgv hg hsz htk hv hnl hn1 ho1).mono ?_
      rintro e w' ⟨cur', rfl, h1, h2, h3, hk⟩
      exact ⟨_, rfl, ⟨hl, .inr ⟨g, cap, cur', rfl, hg0, h1, hroom, hm, h2, h3⟩⟩, hk.below hg0 hlo, fun B hB hne => hk.2.2.2.2 B hB (fun e => hne (by rw [e]; rfl)), .inl rfl⟩
    · refine (ins_grow g m cap i vb cur cells news w hlt (by omega) hle (by omega) hg hsz htk hv hnl hn1 ho1).mono ?_
      rintro e w' ⟨G, cur', rfl, h1, h2, h4, h5, h3, hb⟩
      exact ⟨_, rfl, ⟨hl, .inr ⟨w.heap.size, G, cur', rfl, hlo, h1, h4, h5, h2, h3⟩⟩, hb.mono hlo, fun B hB _ => hb.block B hB, .inr rfl⟩
end InsB
end Go.Proofs.YtkaaddahegkmgaaGreat
namespace Go.Proofs.YtkaaddahegkmgaaGreat
open Go.ChangeShapes Go.WideShapes Go.ChangeAt Go.RowKit
theorem own_hb {lo : Nat} {w : World} {v : Value} {l : List UInt8} (h : Own lo w v l) : HB (fun B => lo ≤ B) w v l := by
  have ho : w.ownsRow lo 5 1 v l.length (bval l) := by simpa [Own] using h
  have ho2 := ho
  obtain ⟨_, ⟨hu, h2⟩ | ⟨g, cap, cur, hu, hB, _, hle, hm, _⟩⟩ := ho
  · obtain rfl : l = [] := List.eq_nil_of_length_eq_zero h2
    exact ⟨none, 0, hu, Nat.le_refl _, by omega, fun i x h => by simp at h⟩
  · unfold maxLen at hm
    subst hu
    refine ⟨some ⟨g, 0, none⟩, cap, rfl, hle, by omega, fun i x hx => ⟨g, 0, rfl, hB, ?_⟩⟩
    have hlt := (List.getElem?_eq_some_iff.1 hx).1
    rw [Nat.zero_add, World.ownsRow.cellAt ho2 i (by omega)]
    unfold bval eb
    rw [List.getElem?_map, hx]
    rfl
set_option maxHeartbeats 1000000 in
theorem clone_calls (v : Value) (l : List UInt8) (w : World) (hv : Lib.HoldsBytes w v l) (hl : l.length ≤ 70368744177664) :
    Calls Tryz.prog 68 #[v] w fun e w' => ∃ v', e = .returned v' ∧ HB (fun B => w.heap.size ≤ B) w' v' l ∧ Below w.heap.size w w' := by
  obtain ⟨p, cap, rfl, h1, h2⟩ := hv
  obtain ⟨i0, hi, hz0, hz1, hz2⟩ := info_parts info5
  have q22 : ∀ (w : World) (a : Option Addr) (n c n' c' : Nat), (binOp .eql 26 (.slice a n c) (.slice none n' c')).run Tryz.prog w = .ok (.bool a.isNone) w := fun w a n c n' c' => Lib.run_eql_slice_nil w _ _ a n c n' c' Tryz.underlying26
  cases p with
  | none =>
    have hn : l = [] := h1 rfl
    subst hn
    clear h1 h2 hl
    go_enter Tryz.func68, Tryz.ntmps68
    go_wp2
    go_ret
    exact ⟨_, rfl, HB.nil _ w, Below.refl _ _⟩
  | some a =>
    have HC : Hid (∀ (i : Nat) x, l[i]? = some x → w.cell? (a.add i) = some (.int .u8 (x.toNat : Int))) := h2 a rfl
    clear h1 h2
    go_enter Tryz.func68, Tryz.ntmps68
    go_wp2_with (at_builtin; refine wpList_append_own _ rfl _ _ 26 rfl w.heap.size 5 i0 (.int .u8 0) 1 1 Tryz.underlying26 hi hz0 hz1 hz2 rfl (by decide) _ _ _ rfl (World.ownsRow_made w #[] 0 (Nat.le_refl _) (Nat.zero_le _) rfl) a l.length cap (bval l) rfl ?qc1 ?qc2 ?qc3 ?qc4 ?qc5 ?qc6 ?_)
    case qc1 => simp [bval]
    case qc2 =>
      intro j u hj
      unfold bval at hj
      rw [List.getElem?_map] at hj
      obtain ⟨x, hx, rfl⟩ := Option.map_eq_some_iff.1 hj
      exact Lib.cell?_alloc_some _ (HC.out j x hx)
    case qc3 => intro u hu; obtain ⟨x, _, rfl⟩ := List.mem_map.1 hu; rfl
    case qc4 => unfold maxLen; omega
    case qc5 => omega
    case qc6 => simp
    intro v' w1 hown hgrow hnil
    have ho : Own w.heap.size w1 v' l := by simpa [Own] using hown
    go_wp2
    go_ret
    refine ⟨v', rfl, own_hb ho, ?_⟩
    exact ((Below.refl _ w).alloc (Nat.le_refl _) _).grown hgrow (by simp) (by intro k hk; simp [Value.ownBlock] at hk; omega)
/-- append of one item that lies at the head of a block. -/
theorem Gr.app {α : Type} {E : El α} {lo src bytes : Nat} {Q : Nat → Prop} {W : World} {u z : Value} {news : List Value} {xs : List α} {x : α} {t : TypeId} {i0 : TypeInfo} (ht : Tryz.prog.underlying t = some (.slice E.ty)) (hi : Tryz.prog.info? E.ty = some i0) (hz0 : i0.zero = some z) (hz1 : i0.size = E.K) (hz2 : i0.bytes = bytes) (hzc : z.cells.size = E.K) (hsz : 0 < E.K)
    (h : Gr E lo Q W u xs) (hx : E.I (fun B => Q B ∧ u.ownBlock ≠ some B) W news x) (hnews : ∀ j z, news[j]? = some z → W.cell? ⟨src, j, none⟩ = some z) (hk : (xs.length + 1) * bytes ≤ 140737488355328) (hk2 : xs.length ≤ 4611686018427387904) (hB : lo ≤ W.heap.size) :
    ∃ u' w', (∀ ty, (Builtin.append_ #[t, t] ty #[u, .slice (some ⟨src, 0, none⟩) 1 1]).run Tryz.prog W = .ok u' w') ∧ Gr E lo Q w' u' (xs ++ [x]) ∧ Below lo W w' ∧ (∀ B, B < W.heap.size → u.ownBlock ≠ some B → w'.heap[B]? = W.heap[B]?) ∧ (u'.ownBlock = u.ownBlock ∨ u'.ownBlock = some W.heap.size) := by
  obtain ⟨cells, hown, hc⟩ := h
  obtain ⟨u', w', hr, hown', hbel, hkeep, hblk⟩ := app2 ht hi hz0 hz1 hz2 hzc hsz hown (E.len hx) (fun j z hz => by rw [add_plain, Nat.zero_add]; exact hnews j z hz) (E.one hx) hk2 hk hB
  refine ⟨u', w', hr, ?_, hbel, hkeep, hblk⟩
  have hcl : cells.length = xs.length * E.K := hown.1
  have key := Gr.ins (i := xs.length) hown hc (Nat.le_refl _) hx (w' := w') (v := u') (by
    rw [List.take_of_length_le (by omega), List.drop_of_length_le (by omega), List.append_nil]
    exact hown') hkeep hblk
  rwa [List.take_length, List.drop_length] at key
theorem info26_ : (Tryz.prog.info? 26).map (fun i => (i.zero, i.size, i.bytes)) = some (some (.slice none 0 0), 1, 24) := by kernel_rfl
theorem cell_new (w : World) (cs : Array Value) (t : TypeId) (j : Nat) : (w.alloc (.cells cs t)).cell? ⟨w.heap.size, j, none⟩ = cs[j]? := cell_of_row _ _ _ _ _ _ (heap_alloc_last w _)
/-- A slice literal of one event, and append of it. -/
theorem app_ev {lo : Nat} {W : World} {u v : Value} {xs : List (List UInt8)} {x : List UInt8} (h : Gr evE lo (fun B => lo ≤ B) W u xs) (hx : HB (fun B => lo ≤ B ∧ u.ownBlock ≠ some B) W v x) (hk : xs.length ≤ 100000) (hB : lo ≤ W.heap.size) :
    ∃ u' w', (∀ ty, (Builtin.append_ #[37, 37] ty #[u, .slice (some ⟨W.heap.size, 0, none⟩) 1 1]).run Tryz.prog (W.alloc (.cells #[v] 26)) = .ok u' w') ∧ Gr evE lo (fun B => lo ≤ B) w' u' (xs ++ [x]) ∧ Below lo W w' := by
  obtain ⟨i0, hi, hz0, hz1, hz2⟩ := info_parts info26_
  obtain ⟨u', w', hr, hg, hb, _, _⟩ := Gr.app (E := evE) (src := W.heap.size) (news := [v]) (x := x) (Q := fun B => lo ≤ B) (lo := lo) Tryz.underlying37 hi hz0 hz1 hz2 rfl (by decide) (h.below (bel1 W (.cells #[v] 26))) ⟨v, rfl, hx.below (bel1 W _)⟩ (fun j z hj => by
    rw [cell_new]
    simpa using hj) (by omega) (by omega) (by simp; omega)
  exact ⟨u', w', hr, hg, ((Below.refl _ W).alloc hB _).trans hb⟩
set_option maxHeartbeats 2000000 in
set_option maxRecDepth 100000 in
theorem cloneEvents_calls (v : Value) (ls : List (List UInt8)) (w : World) (hv : Sl evE (fun _ => True) w v ls) (hn : ls.length ≤ 100000) (hl : ∀ e ∈ ls, e.length ≤ 70368744177664) :
    Calls Tryz.prog 93 #[v] w fun e w' => ∃ v', e = .returned v' ∧ Gr evE w.heap.size (fun B => w.heap.size ≤ B) w' v' ls ∧ Below w.heap.size w w' := by
  obtain ⟨a, c, rfl, h1, h2, h3⟩ := hv
  have HV : Hid (Ls evE (fun _ => True) w a ls) := h3
  have HN : Hid (ls.length ≤ 100000) := hn
  have HL : Hid (∀ e ∈ ls, e.length ≤ 70368744177664) := hl
  clear h1 h2 h3 hn hl
  go_enter Tryz.func93, Tryz.ntmps93
  go_wp2_with fail
  go_loopw [3, 5, 8] (fun u _ i wr => ∃ j : Nat, j ≤ ls.length ∧ i = .int .i64 (j : Int) ∧ Hid (Gr evE w.heap.size (fun B => w.heap.size ≤ B) wr u (ls.take j)) ∧ Hid (Below w.heap.size w wr)) (fun _ _ i _ => ls.length - (intOf i).toNat)
  case atStart => exact ⟨0, Nat.zero_le _, rfl, Gr.nil _ _ _, Below.refl _ _⟩
  case round =>
    obtain ⟨j, hj, rfl, HG, HB⟩ := hrel
    by_cases hlt : j < ls.length
    · obtain ⟨B, o, vb, rfl, _, hc, hv⟩ := (HV.out.below HB.out).ev j _ (List.getElem?_eq_getElem hlt)
      have HW : Hid (wrap64 ((j : Int) + 1) = ((j + 1 : Nat) : Int)) := wr1 hlt (by have := HN.out; omega)
      have hjl : (j : Int) < (ls.length : Int) := by omega
      obtain ⟨pv, cv, rfl, _⟩ := hv.shape
      have CC : Hid (Calls Tryz.prog 68 _ wr _) := clone_calls _ ls[j] wr hv.bytes (HL.out _ (List.getElem_mem hlt))
      obtain ⟨pu, cu, hu, _⟩ := HG.out.shape
      have hnj : (ls.take j).length = j := by rw [List.length_take]; omega
      rw [hnj] at hu
      subst hu
      clear hv
      go_wp2_with fail
      refine CC.out.mono ?_
      rintro e w2 ⟨v2, rfl, hv2, hb2⟩
      obtain ⟨p2, c2, rfl, _⟩ := hv2.shape
      have hlu := HG.out.lt
      have s1 := HB.out.size
      have s2 := hb2.size
      have hk2 : (ls.take j).length ≤ 100000 := by have := HN.out; omega
      have hx2 := hv2.all (P' := fun B => w.heap.size ≤ B ∧ (Value.slice pu j cu).ownBlock ≠ some B) (fun B hB => ⟨Nat.le_trans s1 hB, fun e => Nat.lt_irrefl _ (Nat.lt_of_lt_of_le (hlu B e).2 hB)⟩)
      obtain ⟨u', w3, hr, hg3, hb3⟩ := app_ev (HG.out.below hb2) hx2 hk2 (Nat.le_trans s1 s2)
      have HG3 : Hid (Gr evE w.heap.size (fun B => w.heap.size ≤ B) w3 u' (ls.take (j + 1))) := by
        show Gr _ _ _ _ _ _
        rw [List.take_add_one, List.getElem?_eq_getElem hlt]
        exact hg3
      have HB3 : Hid (Below w.heap.size w w3) := (bel2 HB.out hb2).trans hb3
      obtain ⟨pu', cu', hu', _⟩ := HG3.out.shape
      have hnn : (ls.take (j + 1)).length = j + 1 := by rw [List.length_take]; omega
      rw [hnn] at hu'
      subst hu'
      clear hg3 hb3 hv2 hb2 hlu hc hx2 s1 s2 hk2
      go_wp2_with (at_builtin; refine Lib.wpList_append_run _ rfl _ _ 37 37 rfl _ _ rfl rfl _ _ (hr _) ?_)
      exact ⟨⟨j + 1, hlt, rfl, HG3, HB3⟩, meas hlt rfl⟩
    · obtain rfl : j = ls.length := by omega
      go_wp2_with fail
      go_ret
      have hg := HG.out
      rw [List.take_length] at hg
      exact ⟨_, rfl, hg, HB.out⟩
end Go.Proofs.YtkaaddahegkmgaaGreat
namespace Go.Proofs.YtkaaddahegkmgaaGreat
open Go.ChangeShapes Go.WideShapes Go.ChangeAt Go.RowKit
theorem ta96 (p : Value) (w : World) : (Instr.typeAssert (.iface 77 p) 20 77 true).run Tryz.prog w = .ok (.tuple #[p, .bool true]) w := by
  simp [Instr.typeAssert, run_underlying Tryz.underlying77]
theorem ta98 (p : Value) (w : World) : (Instr.typeAssert (.iface 79 p) 20 79 true).run Tryz.prog w = .ok (.tuple #[p, .bool true]) w := by
  simp [Instr.typeAssert, run_underlying Tryz.underlying79]
theorem ta9n (p : Value) (w : World) : (Instr.typeAssert (.iface 79 p) 20 77 true).run Tryz.prog w = .ok (.tuple #[.pointer none, .bool false]) w := by
  have h : (Tryz.prog.info? 77).map (·.zero) = some (some (.pointer none)) := by kernel_rfl
  obtain ⟨j, hj, hz⟩ := Option.map_eq_some_iff.1 h
  simp [Instr.typeAssert, run_underlying Tryz.underlying77, typeInfo, zeroValue, hj, hz]
set_option maxRecDepth 100000 in
theorem keyRow_calls (w : World) (B o : Nat) (k : ByteArray) (h : w.cell? ⟨B, o, none⟩ = some (.string k)) : Calls Tryz.prog 74 #[.pointer (some ⟨B, o, none⟩)] w fun e w' => e = .returned (.string k) ∧ w' = w := by
  go_enter Tryz.func74, Tryz.ntmps74
  go_wp2_with (simp only [ta96])
  go_ret
  exact ⟨rfl, rfl⟩
set_option maxRecDepth 100000 in
theorem keyBr_calls (w : World) (B o : Nat) (k : ByteArray) (h : w.cell? ⟨B, o, none⟩ = some (.string k)) : Calls Tryz.prog 75 #[.pointer (some ⟨B, o, none⟩)] w fun e w' => e = .returned (.string k) ∧ w' = w := by
  go_enter Tryz.func75, Tryz.ntmps75
  go_wp2_with (simp only [ta98, ta9n])
  go_ret
  exact ⟨rfl, rfl⟩
theorem row_cell {w : World} {g j t : Nat} {cs : Array Value} {fr : Nat × Nat} {v : Value} (h : w.heap[g]? = some (.cells cs t fr)) (hj : cs[j]? = some v) : w.cell? ⟨g, j, none⟩ = some v := by
  rw [cell_of_row w g j cs t fr h]
  exact hj
theorem old2 (w : World) (a b : Obj) : ((w.alloc a).alloc b).heap[w.heap.size]? = some a := row_below (bel1 _ _) (heap_alloc_last w a)
theorem new2 (w : World) (a b : Obj) : ((w.alloc a).alloc b).heap[w.heap.size + 1]? = some b := by
  have := heap_alloc_last (w.alloc a) b
  simpa using this
theorem set3 {w : World} {g t : Nat} {x y z : Value} {fz : Nat × Nat} (h : w.heap[g]? = some (.cells #[x, y, z] t fz)) (a b c : Value) : (((w.setCell ⟨g, 0, none⟩ a).setCell ⟨g, 1, none⟩ b).setCell ⟨g, 2, none⟩ c).heap[g]? = some (.cells #[a, b, c] t fz) := by
  simp [World.setCell, Array.getElem?_modify, h]
theorem set2 {w : World} {g t : Nat} {x y : Value} {fz : Nat × Nat} (h : w.heap[g]? = some (.cells #[x, y] t fz)) (a b : Value) : ((w.setCell ⟨g, 0, none⟩ a).setCell ⟨g, 1, none⟩ b).heap[g]? = some (.cells #[a, b] t fz) := by
  simp [World.setCell, Array.getElem?_modify, h]
theorem size37 : (Tryz.prog.info? 47).map (·.size) = some 3 := by kernel_rfl
theorem size56 : (Tryz.prog.info? 39).map (·.size) = some 2 := by kernel_rfl
theorem ret_row {fn : Func} {p : Tmp} (h : fn.results = #[.cell p 47]) (tmps : Array Value) {w : World} {g : Nat} {x y z : Value} (hp : tmps.getD p undef = .pointer (some ⟨g, 0, none⟩)) (hg : w.heap[g]? = some (.cells #[x, y, z] 47 (0, 0))) (a b c : Value) :
    (results fn tmps).run Tryz.prog (((w.setCell ⟨g, 0, none⟩ a).setCell ⟨g, 1, none⟩ b).setCell ⟨g, 2, none⟩ c) = .ok (.agg #[a, b, c]) (((w.setCell ⟨g, 0, none⟩ a).setCell ⟨g, 1, none⟩ b).setCell ⟨g, 2, none⟩ c) :=
  results_cell_row h tmps _ g 47 #[a, b, c] (0, 0) _ hp (set3 hg a b c) Tryz.underlying47 rfl size37
theorem ret_br {fn : Func} {p : Tmp} (h : fn.results = #[.cell p 39]) (tmps : Array Value) {w : World} {g : Nat} {x y : Value} (hp : tmps.getD p undef = .pointer (some ⟨g, 0, none⟩)) (hg : w.heap[g]? = some (.cells #[x, y] 39 (0, 0))) (a b : Value) :
    (results fn tmps).run Tryz.prog ((w.setCell ⟨g, 0, none⟩ a).setCell ⟨g, 1, none⟩ b) = .ok (.agg #[a, b]) ((w.setCell ⟨g, 0, none⟩ a).setCell ⟨g, 1, none⟩ b) :=
  results_cell_row h tmps _ g 39 #[a, b] (0, 0) _ hp (set2 hg a b) Tryz.underlying39 rfl size56
/-- A box of the call's own is set: all that is older stays. -/
theorem below_set {lo g o : Nat} {w w' : World} {v : Value} (h : Below lo w w') (hg : lo ≤ g) : Below lo w (w'.setCell ⟨g, o, none⟩ v) := h.setCell (p := ⟨g, o, none⟩) hg _
theorem HB.set {lo : Nat} {P : Nat → Prop} {w : World} {u v : Value} {l : List UInt8} {g o : Nat} (h : HB P w v l) (hP : ∀ B, P B → lo ≤ B) (hg : g < lo) : HB P (w.setCell ⟨g, o, none⟩ u) v l :=
  h.keep fun B hB _ => ⟨Below.heap_setCell _ _ _ _ (fun e => by have := hP B hB; have e2 : B = g := e; omega), hB⟩
set_option maxHeartbeats 1000000 in
set_option maxRecDepth 100000 in
theorem cloneRow_calls (x : Rw) (v : Value) (w : World) (hv : HB (fun _ => True) w v x.row) (hl : x.row.length ≤ 70368744177664) :
    Calls Tryz.prog 70 #[.agg #[.string x.key, .int .i64 x.ver, v]] w fun e w' => (∃ v', e = .returned (.agg #[.string x.key, .int .i64 x.ver, v']) ∧ HB (fun B => w.heap.size ≤ B) w' v' x.row) ∧ Below w.heap.size w w' := by
  obtain ⟨key, ver, row⟩ := x
  dsimp only at hv hl ⊢
  obtain ⟨p, c, rfl, _⟩ := hv.shape
  have HV : Hid (HB (fun _ => True) w (.slice p row.length c) row) := hv
  have HL : Hid (row.length ≤ 70368744177664) := hl
  clear hv hl
  go_enter Tryz.func70, Tryz.ntmps70
  go_wp2_with (simp only [ta96])
  have HA : Hid (Below w.heap.size w ((w.alloc (.cells #[.string key, .int .i64 ver, .slice p row.length c] 47)).alloc (.cells #[.string ⟨#[]⟩, .int .i64 0, .slice none 0 0] 47))) := bel2 (bel1 _ _) (bel1 _ _)
  have HO := old2 w (.cells #[.string key, .int .i64 ver, .slice p row.length c] 47) (.cells #[.string ⟨#[]⟩, .int .i64 0, .slice none 0 0] 47)
  have HO2 := new2 w (.cells #[.string key, .int .i64 ver, .slice p row.length c] 47) (.cells #[.string ⟨#[]⟩, .int .i64 0, .slice none 0 0] 47)
  generalize (w.alloc (.cells #[.string key, .int .i64 ver, .slice p row.length c] 47)).alloc (.cells #[.string ⟨#[]⟩, .int .i64 0, .slice none 0 0] 47) = w1 at HA HO HO2 ⊢
  refine (clone_calls _ row w1 (HV.out.below HA.out).bytes HL.out).mono ?_
  rintro e w2 ⟨v2, rfl, hv2, hb2⟩
  obtain ⟨p2, c2, rfl, _⟩ := hv2.shape
  have r1 := row_below hb2 HO
  have r2 := row_below hb2 HO2
  have HB2 : Hid (Below w.heap.size w w2) := bel2 HA.out hb2
  have HV2 : Hid (HB (fun B => w1.heap.size ≤ B) w2 (.slice p2 row.length c2) row) := hv2
  have HL1 : Hid (w.heap.size + 1 < w1.heap.size) := lt_of_row HO2
  have c10 := row_cell r1 (j := 0) rfl
  have c11 := row_cell r1 (j := 1) rfl
  have c12 := row_cell r1 (j := 2) rfl
  have c20 := row_cell r2 (j := 0) rfl
  have c21 := row_cell r2 (j := 1) rfl
  have c22 := row_cell r2 (j := 2) rfl
  have f1 := row_frozen r1
  have f2 := row_frozen r2
  have HR : Hid ((w2.setCell ⟨w.heap.size, 2, none⟩ (.slice p2 row.length c2)).heap[w.heap.size + 1]? = _) := (Below.heap_setCell _ _ _ _ (fun e => Nat.succ_ne_self _ e)).trans r2
  clear hv2 hb2 HO HO2 r1 r2
  go_wp2_with (simp only)
  refine bodyPost_ret (ret_row Tryz.results70 _ rfl HR.out _ _ _) rfl ?_
  have hz := HL1.out
  exact ⟨⟨_, rfl, ((((HV2.out.set (lo := w1.heap.size) (fun _ h => h) (by omega)).set (lo := w1.heap.size) (fun _ h => h) hz).set (lo := w1.heap.size) (fun _ h => h) hz).set (lo := w1.heap.size) (fun _ h => h) hz).all (fun B hB => by omega)⟩,
    below_set (below_set (below_set (below_set HB2.out (Nat.le_refl _)) (by omega)) (by omega)) (by omega)⟩
end Go.Proofs.YtkaaddahegkmgaaGreat
