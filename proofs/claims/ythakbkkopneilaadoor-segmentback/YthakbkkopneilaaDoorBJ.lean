/- Lists of numbers and of texts that the call appends to; an argument that is a list of texts. -/
import Derived.Test.YthakbkkopneilaaDoorBH
import Derived.Deep.Slices
import Derived.ChangeArms
import Derived.ChangeSame
namespace Go.Proofs.YthakbkkopneilaaDoor
open Go.ChangeShapes Go.WideShapes Go.ChangeAt Go.RowKit Go.Deep
theorem z22 (w : World) : (Go.sizeOf 22).run Tryd.prog w = .ok 1 w := by kernel_rfl
theorem elem28 : Tryd.prog.elem 28 = 22 := by kernel_rfl
theorem und28 : Tryd.prog.underlying 28 = some (.slice (Tryd.prog.elem 28)) := by kernel_rfl
theorem add_zero' (a : Addr) : a.add 0 = a := by unfold Addr.add; simp
theorem cut_h28 (a : Option Addr) (n c m : Nat) (h : m ≤ c) (W : World) : (Instr.slice 28 (.slice a n c) none (some (.int .i64 (m : Int))) none).run Tryd.prog W = .ok (.slice a m c) W := by
  rw [run_slice_h W 28 a n c und28 .i64 m (by omega) (by omega), elem28, z22]
  cases a <;> simp [Result.andThen, sliced, add_zero']
theorem cut_h22 (a : Option Addr) (n c m : Nat) (h : m ≤ c) (W : World) : (Instr.slice 22 (.slice a n c) none (some (.int .i64 (m : Int))) none).run Tryd.prog W = .ok (.slice a m c) W := by
  rw [run_slice_h W 22 a n c und22 .i64 m (by omega) (by omega), elem22, z5]
  cases a <;> simp [Result.andThen, sliced, add_zero']
theorem Hb.take {w : World} {a : Option Addr} {n c : Nat} {l : List UInt8} (h : Hb w (.slice a n c) l) (m : Nat) (hm : m ≤ n) : n = l.length ∧ n ≤ c ∧ Hb w (.slice a m c) (l.take m) := by
  obtain ⟨p, c', e, hc, p2, c2, e2, q1, q2⟩ := h
  cases e
  cases e2
  refine ⟨rfl, hc, _, _, by rw [List.length_take, Nat.min_eq_left hm], by rw [List.length_take, Nat.min_eq_left hm]; omega, ?_⟩
  rw [List.length_take, Nat.min_eq_left hm]
  refine ⟨_, _, by rw [List.length_take, Nat.min_eq_left hm], fun e => by rw [q1 e]; simp, fun b hb i x hx => ?_⟩
  have : i < m := by have := (List.getElem?_eq_some_iff.1 hx).1; simp at this; omega
  rw [List.getElem?_take_of_lt this] at hx
  exact q2 b hb i x hx
theorem info3 : (Tryd.prog.info? 3).map (fun i => (i.zero, i.size, i.bytes)) = some (some (.int .i64 0), 1, 8) := by kernel_rfl
/-- The numbers zs, in memory of the call's own. -/
def Zs (B : Nat) (w : World) (v : Value) (zs : List Int) : Prop := w.ownsRow B 3 1 v zs.length (zs.map fun z => .int .i64 z)
theorem Zs.kt {S : TypeId → Prop} {B : Nat} {w w' : World} {v : Value} {zs : List Int} (h : Zs B w v zs) (hk : KT S w w') (h1 : S 3) : Zs B w' v zs := row_kt h hk h1
theorem Zs.below {B : Nat} {w w' : World} {v : Value} {zs : List Int} (h : Zs B w v zs) (hb : Below w.heap.size w w') : Zs B w' v zs := row_below h hb
theorem Zs.nil (B : Nat) (w : World) : Zs B w (.slice none 0 0) [] := World.ownsRow_nil _ _ _ _
theorem Zs.ir {B : Nat} {w : World} {v : Value} {zs : List Int} (h : Zs B w v zs) : Ir w v zs := by
  have h2 := h
  obtain ⟨h1, ⟨rfl, hn⟩ | ⟨g, cap, cur, rfl, _, hg, _⟩⟩ := h
  · have : zs = [] := List.eq_nil_of_length_eq_zero (by omega)
    subst this
    exact ⟨none, 0, rfl, fun i y hy => by simp at hy⟩
  · refine ⟨some ⟨g, 0, none⟩, cap, rfl, fun i y hy => ⟨g, 0, rfl, ?_⟩⟩
    have : i < zs.length := (List.getElem?_eq_some_iff.1 hy).1
    rw [Nat.zero_add, World.ownsRow.cellAt h2 i (by simpa using this), List.getElem?_map, hy]
    rfl
theorem Zs.shape {B : Nat} {w : World} {v : Value} {zs : List Int} (h : Zs B w v zs) : ∃ a c, v = .slice a zs.length c := by
  obtain ⟨h1, ⟨rfl, hn⟩ | ⟨g, cap, cur, rfl, _, hg, _⟩⟩ := h
  · exact ⟨none, 0, by rw [hn]⟩
  · exact ⟨_, _, rfl⟩
/-- append of one number. -/
theorem iapp_run {B src : Nat} {W : World} {v : Value} {zs : List Int} {y : Int} (ho : Zs B W v zs) (hs : W.cell? ⟨src, 0, none⟩ = some (.int .i64 y)) (hB : B ≤ W.heap.size) (hn : zs.length ≤ 1000000) :
    ∃ v' w', (∀ ty, (Builtin.append_ #[37, 37] ty #[v, .slice (some ⟨src, 0, none⟩) 1 1]).run Tryd.prog W = .ok v' w') ∧ Zs B w' v' (zs ++ [y]) ∧ KT (fun t => t ≠ 3) W w' ∧ Below B W w' := by
  obtain ⟨i0, hi, hz0, hz1, hz2⟩ := info_parts info3
  have key : ∀ ty, ∃ v' w', (Builtin.append_ #[37, 37] ty #[v, .slice (some ⟨src, 0, none⟩) 1 1]).run Tryd.prog W = .ok v' w' ∧ w'.ownsRow B 3 1 v' (zs.length + 1) ((zs.map fun z => .int .i64 z) ++ [.int .i64 y]) ∧ W.grownBy w' v.ownBlock ∧ _ := fun ty =>
    run_append_own (P := Tryd.prog) (w := W) B 37 ty 3 i0 _ 1 8 Tryd.underlying37 hi hz0 hz1 hz2 rfl (by decide) v zs.length (zs.map fun z => .int .i64 z) ho ⟨src, 0, none⟩ 1 1 [.int .i64 y] rfl
      (fun j u hj => by
        match j, hj with
        | 0, hj => cases hj; exact hs
        | j + 1, hj => simp at hj)
      (fun u hu => by simp only [List.mem_cons, List.not_mem_nil, or_false] at hu; subst hu; rfl) (by unfold maxLen; omega) (by omega) hB
  obtain ⟨v', w', hr, hown, hgrow, _⟩ := key 37
  refine ⟨v', w', fun ty => hr, ?_, kt_grown ho hgrow, (Below.refl _ _).grown hgrow hB (fun k hk => (World.ownsRow.lt ho k hk).1)⟩
  show w'.ownsRow B 3 1 v' (zs ++ [y]).length ((zs ++ [y]).map fun z => .int .i64 z)
  rw [List.length_append, List.map_append]
  exact hown
theorem app_run2 {B : Nat} {w : World} {v x : Value} {l m : List UInt8} (ho : Own B w v l) (hx : Lib.HoldsBytes w x m) (hB : B ≤ w.heap.size) (hl : l.length + m.length ≤ 140737488355328) :
    ∃ v' w', (∀ ty, (Builtin.append_ #[22, 22] ty #[v, x]).run Tryd.prog w = .ok v' w') ∧ Own B w' v' (l ++ m) ∧ Below B w w' ∧ KT (fun t => t ≠ 5) w w' := by
  obtain ⟨v', w', hr, ho', hb⟩ := app_run ho hx hB hl
  refine ⟨v', w', hr, ho', hb, ?_⟩
  obtain ⟨i0, hi, hz0, hz1, hz2⟩ := info_parts info5
  obtain ⟨p, cap, rfl, h1, h2⟩ := hx
  cases p with
  | none =>
    have hn : m = [] := h1 rfl
    subst hn
    have e : (Builtin.append_ #[22, 22] 22 #[v, .slice none 0 cap]).run Tryd.prog w = .ok v w := by
      obtain ⟨_, ⟨rfl, h2⟩ | ⟨g, cap', cur, rfl, _, hg, hle, hml, hc, ht⟩⟩ := ho
      · simp [Builtin.append_, run_underlying Tryd.underlying22, sizeOf, typeInfo, hi, Builtin.lenOf, Builtin.firstCells]
      · simp [Builtin.append_, run_underlying Tryd.underlying22, sizeOf, typeInfo, hi, Builtin.lenOf, Builtin.firstCells, loadCells, hle, storeCells]
    have e2 := (hr 22).symm.trans e
    cases e2
    exact fun _ _ _ _ h _ => h
  | some a =>
    obtain ⟨v2, w2, hr2, _, hgrow, _⟩ := run_append_own (P := Tryd.prog) (w := w) B 22 22 5 i0 (.int .u8 0) 1 1 Tryd.underlying22 hi hz0 hz1 hz2 rfl (by decide) v l.length (bval l) ho a m.length cap (bval m) (by simp [bval])
        (fun j u hj => by obtain ⟨x, hx, rfl⟩ := bval_at hj; exact h2 a rfl j x hx) (bval_one m) (by unfold maxLen; omega) (by omega) hB
    have e2 := (hr 22).symm.trans hr2
    cases e2
    exact kt_grown ho hgrow
/-- A list of texts of the call's own; the texts lie where w0 has them. -/
def Ts (B : Nat) (w0 w : World) (v : Value) (ls : List (List UInt8)) : Prop :=
  ∃ xs : List Value, xs.length = ls.length ∧ w.ownsRow B 22 1 v ls.length xs ∧ ∀ (i : Nat) x l, xs[i]? = some x → ls[i]? = some l → Hb w0 x l
theorem Ts.nil (B : Nat) (w0 w : World) : Ts B w0 w (.slice none 0 0) [] := ⟨[], rfl, World.ownsRow_nil _ _ _ _, fun i x f h => by simp at h⟩
theorem Ts.kt {S : TypeId → Prop} {B : Nat} {w0 w w' : World} {v : Value} {ls : List (List UInt8)} (h : Ts B w0 w v ls) (hk : KT S w w') (h1 : S 22) : Ts B w0 w' v ls := by
  obtain ⟨xs, hl, ho, hp⟩ := h
  exact ⟨xs, hl, row_kt ho hk h1, hp⟩
theorem Ts.shape {B : Nat} {w0 w : World} {v : Value} {ls : List (List UInt8)} (h : Ts B w0 w v ls) : ∃ a c, v = .slice a ls.length c ∧ ls.length ≤ c := by
  obtain ⟨_, _, ⟨_, ⟨rfl, h2⟩ | ⟨g, cap, cur, rfl, _, _, hle, _⟩⟩, _⟩ := h
  · exact ⟨none, 0, by rw [h2], by omega⟩
  · exact ⟨_, _, rfl, hle⟩
theorem Ts.lr {B : Nat} {w0 w : World} {v : Value} {ls : List (List UInt8)} (h : Ts B w0 w v ls) (hb : Below w0.heap.size w0 w) (m : Nat) (hm : m ≤ ls.length) : ∃ a c, v = .slice a ls.length c ∧ ls.length ≤ c ∧ LR w (.slice a m c) (ls.take m) := by
  obtain ⟨xs, hl, hrow, hp⟩ := h
  have hr2 := hrow
  obtain ⟨h1, ⟨rfl, h2⟩ | ⟨g, cap, cur, rfl, hB, hg, hle, r⟩⟩ := hrow
  · have : ls = [] := List.eq_nil_of_length_eq_zero h2
    subst this
    have : m = 0 := by simpa using hm
    subst this
    exact ⟨none, 0, rfl, Nat.le_refl _, none, 0, rfl, fun i p hi => by simp at hi⟩
  · refine ⟨some ⟨g, 0, none⟩, cap, rfl, hle, some ⟨g, 0, none⟩, cap, by simp; omega, fun i p hi => ?_⟩
    have him : i < m := by have := (List.getElem?_eq_some_iff.1 hi).1; simp at this; omega
    rw [List.getElem?_take_of_lt him] at hi
    have hlt : i < ls.length := (List.getElem?_eq_some_iff.1 hi).1
    have hx : xs[i]? = some (xs[i]'(by omega)) := List.getElem?_eq_getElem (by omega)
    exact ⟨g, 0, _, rfl, by rw [Nat.zero_add, World.ownsRow.cellAt hr2 i (by omega)]; exact hx, (hp i _ p hx hi).below hb⟩
/-- append of one text. -/
theorem tapp_run {B src : Nat} {w0 W : World} {v x : Value} {ls : List (List UInt8)} {p : List UInt8} (ho : Ts B w0 W v ls) (hs : W.cell? ⟨src, 0, none⟩ = some x) (hx : Hb w0 x p) (hB : B ≤ W.heap.size) (hn : ls.length ≤ 1000000) :
    ∃ v' w', (∀ ty, (Builtin.append_ #[28, 28] ty #[v, .slice (some ⟨src, 0, none⟩) 1 1]).run Tryd.prog W = .ok v' w') ∧ Ts B w0 w' v' (ls ++ [p]) ∧ KT (fun t => t ≠ 22) W w' ∧ Below B W w' := by
  obtain ⟨xs, hl, hrow, hp⟩ := ho
  obtain ⟨i0, hi, hz0, hz1, hz2⟩ := info_parts info22
  have x1 : x.oneCell' = true := by obtain ⟨a, c, rfl, _⟩ := hx; rfl
  have key : ∀ ty, ∃ v' w', (Builtin.append_ #[28, 28] ty #[v, .slice (some ⟨src, 0, none⟩) 1 1]).run Tryd.prog W = .ok v' w' ∧ w'.ownsRow B 22 1 v' (ls.length + 1) (xs ++ [x]) ∧ W.grownBy w' v.ownBlock ∧ _ := fun ty =>
    run_append_own (P := Tryd.prog) (w := W) B 28 ty 22 i0 _ 1 24 Tryd.underlying28 hi hz0 hz1 hz2 rfl (by decide) v ls.length xs hrow ⟨src, 0, none⟩ 1 1 [x] rfl
      (fun j u hj => by
        match j, hj with
        | 0, hj => cases hj; exact hs
        | j + 1, hj => simp at hj)
      (fun u hu => by simp only [List.mem_cons, List.not_mem_nil, or_false] at hu; subst hu; exact x1) (by unfold maxLen; omega) (by omega) hB
  obtain ⟨v', w', hr, hown, hgrow, _⟩ := key 28
  refine ⟨v', w', fun ty => hr, ⟨xs ++ [x], by simp [hl], by rw [List.length_append]; exact hown, ?_⟩, kt_grown hrow hgrow, (Below.refl _ _).grown hgrow hB (fun k hk => (World.ownsRow.lt hrow k hk).1)⟩
  intro i y f hy hf
  by_cases hi : i < ls.length
  · rw [List.getElem?_append_left hi] at hf
    rw [List.getElem?_append_left (by omega)] at hy
    exact hp i y f hy hf
  · have hi2 : i = ls.length := by
      have := (List.getElem?_eq_some_iff.1 hf).1
      simp at this
      omega
    subst hi2
    rw [List.getElem?_append_right (by omega)] at hf
    rw [List.getElem?_append_right (by omega), hl] at hy
    simp at hf hy
    subst hf hy
    exact hx
theorem open_bytes {H : Type} {enc : TypeId × Value → H} {W : World} {fuel : Nat} {c : Value} {x : DataW H × List MemPlace}
    (h : DataW.trod enc Tryd.prog W 0 (fun _ => true) true fuel 22 [c] = some x) : ∃ l, Hb W c l := by
  rcases open_ints Tryd.underlying22 Tryd.underlying5 (by kernel_rfl) h with ⟨hcs, _⟩ | ⟨x, l, cp, zs, hcs, _, hl, hm, hz, hx, hcell, hwz⟩
  · simp at hcs
    subst hcs
    exact ⟨[], Hb.nil W⟩
  · simp at hcs
    subst hcs
    obtain ⟨l', hl', hb⟩ := row_hb (w := W) (a := some x) (len := l) (cap := cp) (zs := zs) (.inr ⟨_, rfl, hl, hm, by simpa using hz, hcell, hwz⟩)
    exact ⟨l', hb⟩
theorem cells22 : Tryd.prog.cellsOf 22 = 1 := by kernel_rfl
theorem list1 {α : Type} : ∀ {l : List α}, l.length = 1 → ∃ a, l = [a]
  | [a], _ => ⟨a, rfl⟩
set_option maxRecDepth 100000 in
theorem open_texts {H : Type} {enc : TypeId × Value → H} {W : World} (fuel : Nat) (cs : List Value) (x : DataW H × List MemPlace)
    (h : DataW.trod enc Tryd.prog W 0 (fun _ => true) true fuel 28 cs = some x) : ∃ a n c ls, cs = [.slice a n c] ∧ n = ls.length ∧ n ≤ c ∧ c ≤ 9223372036854775807 ∧ LR W (.slice a n c) ls := by
  rcases DataW.trod_slice Tryd.underlying28 h with ⟨h4, _⟩ | ⟨a, len, cap, elems, rest, q, hq, h4, _, _, hl, hm, he, hx, _, _⟩
  · exact ⟨none, 0, 0, [], h4, rfl, Nat.le_refl _, by omega, none, 0, rfl, fun i p hi => by simp at hi⟩
  · unfold maxLen at hm
    have each : ∀ i, i < len → ∃ r : List UInt8 × Value, ∃ B o, a = ⟨B, o, none⟩ ∧ W.cell? ⟨B, o + i, none⟩ = some r.2 ∧ Hb W r.2 r.1 := by
      have open1 : ∀ i, i < len → ∃ c0 p, W.cells? 0 (a.add (i * 1)) 1 = some [c0] ∧ Hb W c0 p := by
        intro i hi
        have key := hx i hi
        rw [List.getElem?_eq_getElem (by omega)] at key
        obtain ⟨cs', k1, k2⟩ := Option.bind_eq_some_iff.1 key
        rw [cells22] at k1
        obtain ⟨_, hlen, _⟩ := World.cells?_some k1
        obtain ⟨c0, rfl⟩ := list1 (by simpa using hlen)
        obtain ⟨p, hp⟩ := open_bytes k2
        exact ⟨c0, p, k1, hp⟩
      intro i hi
      obtain ⟨c0, p, k1, hp⟩ := open1 i hi
      have hsp : a.spot = none := by
        obtain ⟨d0, _, k10, _⟩ := open1 0 (by omega)
        obtain ⟨_, _, hcell0⟩ := World.cells?_some k10
        have q0 := hcell0 0 (by simp)
        rw [add_add] at q0
        have := plain_addr q0
        simpa [Addr.add] using this
      obtain ⟨_, _, hcell⟩ := World.cells?_some k1
      have p0 := hcell 0 (by simp)
      obtain ⟨B, o, sp⟩ := a
      cases hsp
      rw [add_plain, add_plain] at p0
      exact ⟨(p, c0), B, o, rfl, by simpa using p0, hp⟩
    have inh : Inhabited (List UInt8 × Value) := ⟨[], undef⟩
    obtain ⟨F, hF⟩ := choose_lt each
    refine ⟨some a, len, cap, (List.range len).map fun i => (F i).1, h4, by simp, hl, by omega, some a, cap, by simp, fun i p hi => ?_⟩
    have hlt : i < len := by have := (List.getElem?_eq_some_iff.1 hi).1; simpa using this
    rw [List.getElem?_map, List.getElem?_range hlt] at hi
    obtain ⟨B, o, ha, h0, hb⟩ := hF i hlt
    simp only [Option.map_some, Option.some.injEq] at hi
    rw [hi] at hb
    exact ⟨B, o, _, by rw [ha], h0, hb⟩
end Go.Proofs.YthakbkkopneilaaDoor
