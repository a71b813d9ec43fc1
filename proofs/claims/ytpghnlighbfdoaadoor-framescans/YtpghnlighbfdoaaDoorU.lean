/- The walk of FrameScans. -/
import Derived.Test.YtpghnlighbfdoaaDoorT
import Derived.Deep.RegionLaw
import Derived.BigRegion
import Derived.Deep.DeepCutAuto
import Derived.Deep.CutBlock
namespace Go.Proofs.YtpghnlighbfdoaaDoor
open Go.ChangeShapes Go.WideShapes Go.ChangeAt Go.RowKit
theorem kb_kb (k : Int) : kb (k % 256) = kb k := by unfold kb; rw [Int.emod_emod_of_dvd k (by decide)]
theorem z29 (w : World) : (Go.sizeOf 29).run Tryd.prog w = .ok 2 w := by kernel_rfl
theorem elem33 : Tryd.prog.elem 33 = 29 := by kernel_rfl
theorem und33 : Tryd.prog.underlying 33 = some (.slice (Tryd.prog.elem 33)) := by kernel_rfl
theorem add_zero' (a : Addr) : a.add 0 = a := by unfold Addr.add; simp
theorem cut_h33 (a : Option Addr) (n c m : Nat) (h : m ≤ c) (W : World) : (Instr.slice 33 (.slice a n c) none (some (.int .i64 (m : Int))) none).run Tryd.prog W = .ok (.slice a m c) W := by
  rw [run_slice_h W 33 a n c und33 .i64 m (by omega) (by omega), elem33, z29]
  cases a <;> simp [Result.andThen, sliced, add_zero']
theorem cut_h22 (a : Option Addr) (n c m : Nat) (h : m ≤ c) (W : World) : (Instr.slice 22 (.slice a n c) none (some (.int .i64 (m : Int))) none).run Tryd.prog W = .ok (.slice a m c) W := by
  rw [run_slice_h W 22 a n c und22 .i64 m (by omega) (by omega), elem22, z5]
  cases a <;> simp [Result.andThen, sliced, add_zero']
theorem Hb.take {w : World} {a : Option Addr} {n c : Nat} {l : List UInt8} (h : Hb w (.slice a n c) l) (m : Nat) (hm : m ≤ n) : n = l.length ∧ n ≤ c ∧ Hb w (.slice a m c) (l.take m) := by
  obtain ⟨p, c', e, hc, p2, c2, e2, q1, q2⟩ := h
  cases e
  cases e2
  refine ⟨rfl, hc, _, _, by rw [List.length_take, Nat.min_eq_left hm], by rw [List.length_take, Nat.min_eq_left hm]; omega, ?_⟩
  rw [List.length_take, Nat.min_eq_left hm]
  refine ⟨_, _, by rw [List.length_take, Nat.min_eq_left hm], fun e => by rw [q1 e]; simp, fun b hb i x hx => ?_⟩
  have : i < m := by have := (List.getElem?_eq_some_iff.1 hx).1; simp at this; omega
  rw [List.getElem?_take_of_lt this] at hx
  exact q2 b hb i x hx
/-- The frame that FrameScans makes of one. -/
def cutF (f : Int × List UInt8) : UInt8 × List UInt8 := (kb f.1, f.2.take 1000)
/-- The frames of the law's own list; their payloads lie where w0 has them. -/
def Gs (B : Nat) (w0 w : World) (v : Value) (fs : List (UInt8 × List UInt8)) : Prop :=
  ∃ xs : List Value, xs.length = fs.length ∧ w.ownsRow B 29 2 v fs.length (fcells fs xs) ∧ ∀ (i : Nat) x f, xs[i]? = some x → fs[i]? = some f → Hb w0 x f.2
/-- The ends of frames. -/
def endsL : Nat → List (UInt8 × List UInt8) → List Value
  | _, [] => []
  | n, f :: fs => .int .i64 ((n + (9 + f.2.length) : Nat) : Int) :: endsL (n + (9 + f.2.length)) fs
theorem kt_grown {B e k n : Nat} {v : Value} {xs : List Value} {W w' : World} (hrow : W.ownsRow B e k v n xs) (hg : W.grownBy w' v.ownBlock) : KT (fun t => t ≠ e) W w' := fun j cur t fz hj ht => by
  have hlt : j < W.heap.size := by
    rcases Nat.lt_or_ge j W.heap.size with h | h
    · exact h
    · rw [Array.getElem?_eq_none h] at hj; cases hj
  rw [hg.block j hlt (fun e => ?_), hj]
  obtain ⟨_, ⟨rfl, _⟩ | ⟨g, cap, cur', rfl, _, hg', _⟩⟩ := hrow
  · simp [Value.ownBlock] at e
  · simp only [Value.ownBlock, Option.some.injEq] at e
    subst e
    rw [hj] at hg'
    injection hg' with hg'
    injection hg' with _ ht2 _
    exact ht ht2
theorem info3 : (Tryd.prog.info? 3).map (fun i => (i.zero, i.size, i.bytes)) = some (some (.int .i64 0), 1, 8) := by kernel_rfl
/-- append of one number. -/
theorem iapp_run {B n src : Nat} {W : World} {v : Value} {xs : List Value} {y : Int} (ho : W.ownsRow B 3 1 v n xs) (hs : W.cell? ⟨src, 0, none⟩ = some (.int .i64 y)) (hB : B ≤ W.heap.size) (hn : n ≤ 1000000) :
    ∃ v' w', (∀ ty, (Builtin.append_ #[39, 39] ty #[v, .slice (some ⟨src, 0, none⟩) 1 1]).run Tryd.prog W = .ok v' w') ∧ w'.ownsRow B 3 1 v' (n + 1) (xs ++ [.int .i64 y]) ∧ KT (fun t => t ≠ 3) W w' ∧ Below B W w' := by
  obtain ⟨i0, hi, hz0, hz1, hz2⟩ := info_parts info3
  have key : ∀ ty, ∃ v' w', (Builtin.append_ #[39, 39] ty #[v, .slice (some ⟨src, 0, none⟩) 1 1]).run Tryd.prog W = .ok v' w' ∧ w'.ownsRow B 3 1 v' (n + 1) (xs ++ [.int .i64 y]) ∧ W.grownBy w' v.ownBlock ∧ _ := fun ty =>
    run_append_own (P := Tryd.prog) (w := W) B 39 ty 3 i0 _ 1 8 Tryd.underlying39 hi hz0 hz1 hz2 rfl (by decide) v n xs ho ⟨src, 0, none⟩ 1 1 [.int .i64 y] rfl
      (fun j u hj => by
        match j, hj with
        | 0, hj => cases hj; exact hs
        | j + 1, hj => simp at hj)
      (fun u hu => by simp only [List.mem_cons, List.not_mem_nil, or_false] at hu; subst hu; rfl) (by unfold maxLen; omega) (by omega) hB
  obtain ⟨v', w', hr, hown, hgrow, _⟩ := key 39
  exact ⟨v', w', fun ty => hr, hown, kt_grown ho hgrow, (Below.refl _ _).grown hgrow hB (fun k hk => (World.ownsRow.lt ho k hk).1)⟩
/-- append of one frame of the law's own. -/
theorem gapp_run {B src : Nat} {w0 W : World} {v x : Value} {fs : List (UInt8 × List UInt8)} {k : UInt8} {p : List UInt8} (ho : Gs B w0 W v fs) (h0 : W.cell? ⟨src, 0, none⟩ = some (.int .i64 (k.toNat : Int))) (h1 : W.cell? ⟨src, 1, none⟩ = some x) (hx : Hb w0 x p) (hB : B ≤ W.heap.size) (hn : fs.length ≤ 1000000) :
    ∃ v' w', (∀ ty, (Builtin.append_ #[33, 33] ty #[v, .slice (some ⟨src, 0, none⟩) 1 1]).run Tryd.prog W = .ok v' w') ∧ Gs B w0 w' v' (fs ++ [(k, p)]) ∧ KT (fun t => t ≠ 29) W w' ∧ Below B W w' := by
  obtain ⟨xs, hl, hrow, hp⟩ := ho
  obtain ⟨i0, hi, hz0, hz1, hz2⟩ := info_parts info29
  have x1 : x.oneCell' = true := by obtain ⟨a, c, rfl, _⟩ := hx; rfl
  have key : ∀ ty, ∃ v' w', (Builtin.append_ #[33, 33] ty #[v, .slice (some ⟨src, 0, none⟩) 1 1]).run Tryd.prog W = .ok v' w' ∧ w'.ownsRow B 29 2 v' (fs.length + 1) (fcells fs xs ++ [.int .i64 (k.toNat : Int), x]) ∧ W.grownBy w' v.ownBlock ∧ _ := fun ty =>
    run_append_own (P := Tryd.prog) (w := W) B 33 ty 29 i0 _ 2 32 Tryd.underlying33 hi hz0 hz1 hz2 rfl (by decide) v fs.length (fcells fs xs) hrow ⟨src, 0, none⟩ 1 1 [.int .i64 (k.toNat : Int), x] rfl
      (fun j u hj => by
        rw [add_plain, Nat.zero_add]
        match j, hj with
        | 0, hj => cases hj; exact h0
        | 1, hj => cases hj; exact h1
        | j + 2, hj => simp at hj)
      (fun u hu => by
        simp only [List.mem_cons, List.not_mem_nil, or_false] at hu
        rcases hu with rfl | rfl
        · rfl
        · exact x1) (by unfold maxLen; omega) (by omega) hB
  obtain ⟨v', w', hr, hown, hgrow, _⟩ := key 33
  refine ⟨v', w', fun ty => hr, ⟨xs ++ [x], by simp [hl], ?_, ?_⟩, kt_grown hrow hgrow, (Below.refl _ _).grown hgrow hB (fun k hk => (World.ownsRow.lt hrow k hk).1)⟩
  · rw [fcells_snoc fs xs (k, p) x hl, List.length_append]
    exact hown
  · intro i y f hy hf
    by_cases hi : i < fs.length
    · rw [List.getElem?_append_left hi] at hf
      rw [List.getElem?_append_left (by omega)] at hy
      exact hp i y f hy hf
    · have hi2 : i = fs.length := by
        have := (List.getElem?_eq_some_iff.1 hf).1
        simp at this
        omega
      subst hi2
      rw [List.getElem?_append_right (by omega)] at hf
      rw [List.getElem?_append_right (by omega), hl] at hy
      simp at hf hy
      subst hf hy
      exact hx
theorem Gs.kt {S : TypeId → Prop} {B : Nat} {w0 w w' : World} {v : Value} {fs : List (UInt8 × List UInt8)} (h : Gs B w0 w v fs) (hk : KT S w w') (h1 : S 29) : Gs B w0 w' v fs := by
  obtain ⟨xs, hl, ho, hp⟩ := h
  exact ⟨xs, hl, row_kt ho hk h1, hp⟩
theorem Own.kt {S : TypeId → Prop} {B : Nat} {w w' : World} {v : Value} {l : List UInt8} (h : Own B w v l) (hk : KT S w w') (h1 : S 5) : Own B w' v l := row_kt h hk h1
theorem app_run2 {B : Nat} {w : World} {v x : Value} {l m : List UInt8} (ho : Own B w v l) (hx : Lib.HoldsBytes w x m) (hB : B ≤ w.heap.size) (hl : l.length + m.length ≤ 140737488355328) :
    ∃ v' w', (∀ ty, (Builtin.append_ #[22, 22] ty #[v, x]).run Tryd.prog w = .ok v' w') ∧ Own B w' v' (l ++ m) ∧ Below B w w' ∧ KT (fun t => t ≠ 5) w w' := by
  obtain ⟨v', w', hr, ho', hb⟩ := app_run ho hx hB hl
  refine ⟨v', w', hr, ho', hb, ?_⟩
  obtain ⟨i0, hi, hz0, hz1, hz2⟩ := info_parts info5
  obtain ⟨p, cap, rfl, h1, h2⟩ := hx
  cases p with
  | none =>
    have hn : m = [] := h1 rfl
    subst hn
    have e : (Builtin.append_ #[22, 22] 22 #[v, .slice none 0 cap]).run Tryd.prog w = .ok v w := by
      obtain ⟨_, ⟨rfl, h2⟩ | ⟨g, cap', cur, rfl, _, hg, hle, hml, hc, ht⟩⟩ := ho
      · simp [Builtin.append_, run_underlying Tryd.underlying22, sizeOf, typeInfo, hi, Builtin.lenOf, Builtin.firstCells]
      · simp [Builtin.append_, run_underlying Tryd.underlying22, sizeOf, typeInfo, hi, Builtin.lenOf, Builtin.firstCells, loadCells, hle, storeCells]
    have e2 := (hr 22).symm.trans e
    cases e2
    exact fun _ _ _ _ h _ => h
  | some a =>
    obtain ⟨v2, w2, hr2, _, hgrow, _⟩ := run_append_own (P := Tryd.prog) (w := w) B 22 22 5 i0 (.int .u8 0) 1 1 Tryd.underlying22 hi hz0 hz1 hz2 rfl (by decide) v l.length (bval l) ho a m.length cap (bval m) (by simp [bval])
        (fun j u hj => by obtain ⟨x, hx, rfl⟩ := bval_at hj; exact h2 a rfl j x hx) (bval_one m) (by unfold maxLen; omega) (by omega) hB
    have e2 := (hr 22).symm.trans hr2
    cases e2
    exact kt_grown ho hgrow
theorem wide_cut (l : List (Int × List UInt8)) : wide (l.map cutF) ≤ l.length * 1009 := by
  induction l with
  | nil => simp [wide]
  | cons f l ih => simp [wide, cutF]; omega
theorem last1 (w : World) (a b : Obj) : ((w.alloc a).alloc b).heap[w.heap.size + 1]? = some b := by
  have := heap_last (w.alloc a) b
  have e : (w.alloc a).heap.size = w.heap.size + 1 := by simp
  rwa [e] at this
theorem last0 (w : World) (a b : Obj) : ((w.alloc a).alloc b).heap[w.heap.size]? = some a := by
  rw [Below.heap_alloc _ _ _ (by simp)]
  exact heap_last w a
/-- append whose run is known, as one step of a region that draws. -/
theorem step_app_run {P : Program} {ops : Array Oper} {o : Oper} {a : Act} {w : World} {K : Act → World → Prop} {Q : Exit → Act → World → Prop} {E : Prop}
    (hg : o.guard = none) (s x : Operand) (t : TypeId) (hop : o.op = Op.call { callee := Callee.builtin Builtin.append, args := #[s, x], argTypes := #[t, t] })
    (vs vx : Value) (hs : a.eval s = vs) (hx : a.eval x = vx) {v' : Value} {w' : World} (hr : ∀ ty, (Builtin.append_ #[t, t] ty #[vs, vx]).run P w = .ok v' w') (hK : K (a.put o.dst v') w') :
    if Region.wanted o (yielded ops a.tmps) = true then Oper.wp P o a w K Q else E := by
  have hw : Region.wanted o (yielded ops a.tmps) = true := by simp [Region.wanted, hg]
  rw [if_pos hw]
  have hrun := hr o.type
  unfold Oper.wp
  simp [execOp, hop, resolve, invoke, builtin, hs, hx, hrun, Result.andThen]
  exact hK
theorem endsL_at : ∀ (n : Nat) (fs : List (UInt8 × List UInt8)) (i : Nat), i < fs.length → (endsL n fs)[i]? = some (.int .i64 ((n + wide (fs.take (i + 1)) : Nat) : Int))
  | n, [], i, h => by simp at h
  | n, g :: fs, 0, h => by simp [endsL, wide]
  | n, g :: fs, i + 1, h => by
    have := endsL_at (n + (9 + g.2.length)) fs i (by simpa using h)
    have e : n + (9 + g.2.length) + wide (fs.take (i + 1)) = n + (9 + g.2.length + wide (fs.take (i + 1))) := by omega
    rw [e] at this
    simp only [endsL, List.getElem?_cons_succ, this, List.take_succ_cons, wide]
theorem row_int {B n : Nat} {w : World} {v : Value} {xs : List Value} (h : w.ownsRow B 3 1 v n xs) : ∃ a c, v = .slice a n c ∧ ∀ (i : Nat) y, xs[i]? = some y → ∃ g, a = some ⟨g, 0, none⟩ ∧ w.cell? ⟨g, i, none⟩ = some y := by
  have h2 := h
  obtain ⟨h1, ⟨rfl, hn⟩ | ⟨g, cap, cur, rfl, _, hg, _⟩⟩ := h
  · subst hn
    refine ⟨none, 0, rfl, fun i y hy => ?_⟩
    have : xs = [] := List.eq_nil_of_length_eq_zero (by omega)
    subst this
    simp at hy
  · refine ⟨some ⟨g, 0, none⟩, cap, rfl, fun i y hy => ⟨g, rfl, ?_⟩⟩
    have : i < xs.length := (List.getElem?_eq_some_iff.1 hy).1
    rw [World.ownsRow.cellAt h2 i (by omega), hy]
theorem Gs.fr {B : Nat} {w0 w : World} {v : Value} {fs : List (UInt8 × List UInt8)} (h : Gs B w0 w v fs) (hb : Below w0.heap.size w0 w) (m : Nat) (hm : m ≤ fs.length) : ∃ a c, v = .slice a fs.length c ∧ fs.length ≤ c ∧ FR w (.slice a m c) ((fs.take m).map fi) := by
  obtain ⟨xs, hl, hrow, hp⟩ := h
  have hr2 := hrow
  obtain ⟨h1, ⟨rfl, h2⟩ | ⟨g, cap, cur, rfl, hB, hg, hle, r⟩⟩ := hrow
  · have : fs = [] := List.eq_nil_of_length_eq_zero h2
    subst this
    have : m = 0 := by simpa using hm
    subst this
    exact ⟨none, 0, rfl, Nat.le_refl _, none, 0, rfl, fun i k p hi => by simp at hi⟩
  · refine ⟨some ⟨g, 0, none⟩, cap, rfl, hle, some ⟨g, 0, none⟩, cap, by simp; omega, fun i k p hi => ?_⟩
    rw [List.getElem?_map] at hi
    obtain ⟨f, hf, he⟩ := Option.map_eq_some_iff.1 hi
    unfold fi at he
    simp only [Prod.mk.injEq] at he
    obtain ⟨rfl, rfl⟩ := he
    have him : i < m := by have := (List.getElem?_eq_some_iff.1 hf).1; simp at this; omega
    rw [List.getElem?_take_of_lt him] at hf
    have hlt : i < fs.length := (List.getElem?_eq_some_iff.1 hf).1
    have hx : xs[i]? = some (xs[i]'(by omega)) := List.getElem?_eq_getElem (by omega)
    have hc := fcells_at fs xs i f _ hf hx
    refine ⟨g, 0, _, rfl, ?_, ?_, (hp i _ f hx hf).below hb⟩
    · rw [Nat.zero_add, World.ownsRow.cellAt hr2 (i * 2) (by omega)]; exact hc.1
    · rw [Nat.zero_add, World.ownsRow.cellAt hr2 (i * 2 + 1) (by omega)]; exact hc.2
theorem scan_cut (L : List (UInt8 × List UInt8)) (hL : ∀ f ∈ L, f.2.length ≤ 1048576) (wh ct : Nat) (hwh : wh ≤ L.length) (h1 : wide (L.take wh) ≤ ct) (h2 : wh = L.length ∨ ct < wide (L.take (wh + 1))) (_hct : ct ≤ wide L) : scanL ((flat L).take ct) = L.take wh := by
  have e1 : L = L.take wh ++ L.drop wh := (List.take_append_drop wh L).symm
  have e2 : flat L = flat (L.take wh) ++ flat (L.drop wh) := by rw [← flat_append, ← e1]
  have e3 : (flat L).take ct = flat (L.take wh) ++ (flat (L.drop wh)).take (ct - wide (L.take wh)) := by
    rw [e2, List.take_append, flat_length, List.take_of_length_le (by rw [flat_length]; exact h1)]
  rw [e3, scanL_flat _ _ (fun f hf => hL f (List.mem_of_mem_take hf))]
  have e4 : scanL ((flat (L.drop wh)).take (ct - wide (L.take wh))) = [] := by
    rcases h2 with h2 | h2
    · rw [h2, List.drop_length]
      simp [flat]
      rfl
    · by_cases hw : wh < L.length
      · rw [List.drop_eq_getElem_cons hw]
        have hw2 : wide (L.take (wh + 1)) = wide (L.take wh) + (9 + L[wh].2.length) := by
          rw [List.take_add_one, List.getElem?_eq_getElem hw, wide_append]
          simp [wide]
        exact scanL_torn L[wh] _ _ (hL _ (List.getElem_mem hw)) (by omega)
      · rw [List.drop_of_length_le (by omega)]
        simp [flat]
        rfl
  rw [e4, List.append_nil]
theorem cut_num (cut : Int) (W : Nat) (hW : W ≤ 20180) : ∃ ct : Nat, wrap64 ((IntKind.u64.wrap cut).tmod ((W : Int) + 1)) = (ct : Int) ∧ ct ≤ W := by
  rw [IntKind.wrap_u64]
  have h0 : 0 ≤ cut % 18446744073709551616 := Int.emod_nonneg _ (by omega)
  rw [Int.tmod_eq_emod_of_nonneg h0]
  have h1 : 0 ≤ cut % 18446744073709551616 % ((W : Int) + 1) := Int.emod_nonneg _ (by omega)
  have h2 : cut % 18446744073709551616 % ((W : Int) + 1) < (W : Int) + 1 := Int.emod_lt_of_pos _ (by omega)
  refine ⟨(cut % 18446744073709551616 % ((W : Int) + 1)).toNat, ?_, by omega⟩
  unfold wrap64
  omega
theorem endsL_snoc : ∀ (n : Nat) (fs : List (UInt8 × List UInt8)) (f : UInt8 × List UInt8), endsL n (fs ++ [f]) = endsL n fs ++ [.int .i64 ((n + wide fs + (9 + f.2.length) : Nat) : Int)]
  | n, [], f => rfl
  | n, g :: fs, f => by
    have := endsL_snoc (n + (9 + g.2.length)) fs f
    simp only [List.cons_append, endsL, this, wide]
    congr 5
    omega
theorem take_snoc {gs : List (Int × List UInt8)} {j : Nat} {f : Int × List UInt8} (h : gs[j]? = some f) : (gs.take (j + 1)).map cutF = (gs.take j).map cutF ++ [cutF f] := by
  rw [List.take_add_one, h]
  simp
set_option maxHeartbeats 8000000 in
set_option maxRecDepth 100000 in
theorem scans_walk (a : Option Addr) (c : Nat) (cut : Int) (fs : List (Int × List UInt8)) (w : World) (hF : FR w (.slice a fs.length c) fs) (hc : fs.length ≤ c) (_hc2 : c ≤ 9223372036854775807) (ht : Tb w) :
    Calls Tryd.prog 5 #[.slice a fs.length c, .int .i64 cut] w fun e w' => e = .returned (.bool true) ∧ Below w.heap.size w w' := by
  obtain ⟨m, hm⟩ : ∃ m, m = min fs.length 20 := ⟨_, rfl⟩
  have hmm : min (fs.length : Int) 20 = (m : Int) := by omega
  have s33 := cut_h33 a fs.length c m (by omega)
  obtain ⟨gs, hgs⟩ : ∃ gs, gs = fs.take m := ⟨_, rfl⟩
  have HGL : Hid (gs.length = m ∧ m ≤ 20) := by rw [hgs]; exact ⟨by simp; omega, by omega⟩
  have HG : Hid (∀ (i : Nat) k p, gs[i]? = some (k, p) → ∃ B o x, a = some ⟨B, o, none⟩ ∧ w.cell? ⟨B, o + i * 2, none⟩ = some (.int .i64 k) ∧ w.cell? ⟨B, o + i * 2 + 1, none⟩ = some x ∧ Hb w x p) := by
    intro i k p hi
    have hlt : i < m := by have := (List.getElem?_eq_some_iff.1 hi).1; rw [hgs] at this; simp at this; omega
    rw [hgs, List.getElem?_take_of_lt hlt] at hi
    obtain ⟨a', c', e, hh⟩ := hF
    cases e
    exact hh i k p hi
  have HT : Hid (∀ W, Below w.heap.size w W → Tb W) := fun W hW => ht.below hW
  clear hF hm hgs ht
  have hm20 : (m : Int) ≤ 20 := by have := HGL.out.2; omega
  go_enter Tryd.func5, Tryd.ntmps5
  go_wp2_with fail
  go_loopw [5, 6, 7, 23] (fun u5 u6 u7 i wr => ∃ (j : Nat), j ≤ m ∧ i = .int .i64 (j : Int) ∧ Hid (Own w.heap.size wr u5 (flat ((gs.take j).map cutF))) ∧ Hid (wr.ownsRow w.heap.size 3 1 u6 j (endsL 0 ((gs.take j).map cutF))) ∧ Hid (Gs w.heap.size w wr u7 ((gs.take j).map cutF)) ∧ Hid (Below w.heap.size w wr)) (fun _ _ _ i _ => m - (intOf i).toNat)
  case atStart => exact ⟨0, Nat.zero_le _, rfl, Own.nil _ _, World.ownsRow_nil _ _ _ _, ⟨[], rfl, World.ownsRow_nil _ _ _ _, fun i x f h => by simp at h⟩, Below.refl _ _⟩
  case round =>
    obtain ⟨j, hj, rfl, HO, HE, HGs, HB⟩ := hrel
    by_cases hlt : j < m
    · obtain ⟨⟨k, p⟩, hkp⟩ : ∃ f, gs[j]? = some f := ⟨_, List.getElem?_eq_getElem (by have := HGL.out.1; omega)⟩
      obtain ⟨B, o, x, ha, h0, h1, hx⟩ := HG.out j k p hkp
      subst ha
      obtain ⟨xa, xc, rfl, hxc, hxh⟩ := hx
      obtain ⟨q, hq⟩ : ∃ q, q = min p.length 1000 := ⟨_, rfl⟩
      have hqm : min (p.length : Int) 1000 = (q : Int) := by omega
      have s22 := cut_h22 xa p.length xc q (by omega)
      have HX : Hid (Hb w (.slice xa q xc) (p.take 1000)) := by
        have := (Hb.take (a := xa) (n := p.length) (c := xc) (l := p) ⟨_, _, rfl, hxc, hxh⟩ q (by omega)).2.2
        have e : p.take q = p.take 1000 := by
          rw [hq]
          by_cases h : p.length ≤ 1000
          · rw [Nat.min_eq_left h, List.take_length, List.take_of_length_le h]
          · rw [Nat.min_eq_right (by omega)]
        rwa [e] at this
      have HQL : Hid ((p.take 1000).length = q ∧ q ≤ 1000) := by refine ⟨?_, by omega⟩; rw [List.length_take, hq, Nat.min_comm]
      have e0 := cell_below h0 HB.out
      have e1 := cell_below h1 HB.out
      have hjl : (j : Int) < (m : Int) := by omega
      have hqb : (q : Int) ≤ 1000 := by omega
      have HKP : Hid (gs[j]? = some (k, p)) := hkp
      clear h0 h1 hxh hxc hq hkp
      have hwk : IntKind.i64.wrap (k % 256) = k % 256 := by rw [IntKind.wrap_i64]; omega
      have huk : IntKind.u8.wrap k = k % 256 := by rw [IntKind.wrap_u8]
      go_wp2_with fail
      generalize hW1 : wr.alloc (Obj.cells #[Value.int IntKind.i64 k, Value.slice xa p.length xc] 29) = W1
      have c0 : W1.cell? ⟨wr.heap.size, 0, none⟩ = some (.int .i64 k) := by rw [← hW1]; exact bx0 wr _ _
      have c1 : W1.cell? ⟨wr.heap.size, 1, none⟩ = some (.slice xa p.length xc) := by rw [← hW1]; exact bx1 wr _ _
      have f0 : W1.frozen? ⟨wr.heap.size, 0, none⟩ = false := by rw [← hW1]; exact World.frozen?_alloc_mark wr _ 29 0 0 0 |>.trans (by simp)
      have f1 : W1.frozen? ⟨wr.heap.size, 1, none⟩ = false := by rw [← hW1]; exact World.frozen?_alloc_mark wr _ 29 0 0 1 |>.trans (by simp)
      have HW1 : Hid (W1 = wr.alloc (Obj.cells #[Value.int IntKind.i64 k, Value.slice xa p.length xc] 29)) := hW1.symm
      clear hW1
      go_region
      generalize hW2 : ((W1.setCell ⟨wr.heap.size, 0, none⟩ (Value.int IntKind.i64 (k % 256))).setCell ⟨wr.heap.size, 1, none⟩ (Value.slice xa q xc)).drew = W2
      have B1 : Below wr.heap.size wr W1 := by rw [HW1.out]; exact below_alloc wr _
      have B2 : Hid (Below wr.heap.size wr W2) := by show Below _ _ _; rw [← hW2]; exact (below_set2 B1 (Nat.le_refl _) _ _).drew
      have d0 : W2.cell? ⟨wr.heap.size, 0, none⟩ = some (.int .i64 (k % 256)) := by rw [← hW2]; exact set20 _ _ c0
      have d1 : W2.cell? ⟨wr.heap.size, 1, none⟩ = some (.slice xa q xc) := by rw [← hW2]; exact set21 _ _ c1
      have HH2 : Hid (W2.heap[wr.heap.size]? = some (Obj.cells #[Value.int IntKind.i64 (k % 256), Value.slice xa q xc] 29 (0, 0))) := by
        show _ = _
        rw [← hW2]
        have h1 : W1.heap[wr.heap.size]? = some (Obj.cells #[Value.int IntKind.i64 k, Value.slice xa p.length xc] 29 (0, 0)) := by rw [HW1.out]; exact heap_last wr _
        have h2 := heap_setCell_same W1 wr.heap.size 0 _ 29 (Value.int IntKind.i64 (k % 256)) h1
        have h3 := heap_setCell_same (W1.setCell ⟨wr.heap.size, 0, none⟩ (Value.int IntKind.i64 (k % 256))) wr.heap.size 1 _ 29 (Value.slice xa q xc) h2
        exact h3
      clear hW2 c0 c1 f0 f1 B1 HW1 hwk huk s22 s33 hqm hmm
      have BW : Hid (Below w.heap.size w W2) := HB.out.trans (B2.out.mono HB.out.size)
      have SC : Hid (Calls Tryd.prog 7 #[.int .i64 (k % 256), .slice xa q xc] W2 (NB W2 (sealL (kb k) (p.take 1000)))) := by
        have := seal_calls (k % 256) (.slice xa q xc) (p.take 1000) W2 (HX.out.below BW.out) (HT.out W2 BW.out) (by have := HQL.out; omega)
        rwa [kb_kb] at this
      go_wp2_with fail
      refine SC.out.mono ?_
      rintro e w3 ⟨v3, rfl, ho3, hb3⟩
      have B3 : Hid (Below wr.heap.size wr w3) := below_step B2.out hb3
      have BW3 : Hid (Below w.heap.size w w3) := HB.out.trans (B3.out.mono HB.out.size)
      have D0 : Hid (w3.cell? ⟨wr.heap.size, 0, none⟩ = _) := cell_below d0 hb3
      have D1 : Hid (w3.cell? ⟨wr.heap.size, 1, none⟩ = _) := cell_below d1 hb3
      have hwid : wide ((gs.take j).map cutF) ≤ j * 1009 := Nat.le_trans (wide_cut _) (Nat.mul_le_mul_right _ (by simp; omega))
      have hlen : (flat ((gs.take j).map cutF)).length + (sealL (kb k) (p.take 1000)).length ≤ 140737488355328 := by
        rw [flat_length, sealL_length]
        have := HQL.out
        omega
      obtain ⟨v4, w4, hr4, ho4, hb4, k4⟩ := app_run2 (HO.out.below B3.out) ho3.holds BW3.out.size hlen
      have BW4 : Hid (Below w.heap.size w w4) := BW3.out.trans hb4
      obtain ⟨N, hN⟩ : ∃ N, N = wide ((gs.take j).map cutF) + (9 + (p.take 1000).length) := ⟨_, rfl⟩
      have hL4 : (flat ((gs.take j).map cutF) ++ sealL (kb k) (p.take 1000)).length = N := by rw [List.length_append, flat_length, sealL_length, hN]
      obtain ⟨p4, c4, hv4⟩ : ∃ p4 c4, v4 = .slice p4 N c4 := by obtain ⟨a, c, h, _⟩ := ho4.hb; exact ⟨a, c, by rw [h, hL4]⟩
      subst hv4
      have HN : Hid (N = wide ((gs.take j).map cutF) + (9 + (p.take 1000).length)) := hN
      clear hN
      have hE4 : w4.ownsRow w.heap.size 3 1 u6 j (endsL 0 ((gs.take j).map cutF)) := row_kt (row_below HE.out B3.out) k4 (by decide)
      have hG4 : Gs w.heap.size w w4 u7 ((gs.take j).map cutF) := (HGs.out.kt (S := fun t => t ≠ 5) (KT.below B3.out) (by decide)).kt k4 (by decide)
      have hF4 : w4.heap[wr.heap.size]? = some (Obj.cells #[Value.int IntKind.i64 (k % 256), Value.slice xa q xc] 29 (0, 0)) := k4 _ _ _ _ (KT.below (S := fun _ => True) hb3 _ _ _ _ HH2.out trivial) (by decide)
      have hkb : ((kb k).toNat : Int) = k % 256 := kb_val k
      have bx1 : Below w4.heap.size w4 ((w4.alloc (Obj.cells #[Value.int IntKind.i64 (k % 256), Value.slice xa q xc] 29)).alloc (Obj.cells #[Value.int IntKind.i64 (N : Int)] 3)).drew := (below_step (below_alloc w4 _) (below_alloc _ _)).drew
      obtain ⟨vE1, y1, r1E, e1, k1, b1⟩ := iapp_run (src := w4.heap.size + 1) (y := (N : Int)) (W := ((w4.alloc (Obj.cells #[Value.int IntKind.i64 (k % 256), Value.slice xa q xc] 29)).alloc (Obj.cells #[Value.int IntKind.i64 (N : Int)] 3)).drew) (row_below hE4 bx1) (cell_of_row _ _ 0 _ 3 (0, 0) (last1 w4 _ _)) (Nat.le_trans BW4.out.size bx1.size) (by omega)
      have ky1 : KT (fun t => t ≠ 3) w4 y1 := (KT.below bx1).trans k1
      have by1 : Below w.heap.size w y1 := (BW4.out.trans (bx1.mono BW4.out.size)).trans b1
      have hf1 := k1 _ _ _ _ (last0 w4 _ _) (by decide)
      obtain ⟨vG1, z1, r1G, g1, q1, c1⟩ := gapp_run (src := w4.heap.size) (k := kb k) (x := .slice xa q xc) (p := p.take 1000) (W := y1) (hG4.kt ky1 (by decide)) (by rw [cell_of_row _ _ 0 _ 29 (0, 0) hf1, hkb]; rfl) (by rw [cell_of_row _ _ 1 _ 29 (0, 0) hf1]; rfl) HX.out by1.size (by simp; omega)
      have bx2 : Below w4.heap.size w4 ((w4.alloc (Obj.cells #[Value.int IntKind.i64 (N : Int)] 3)).alloc (Obj.cells #[Value.int IntKind.i64 (k % 256), Value.slice xa q xc] 29)).drew := (below_step (below_alloc w4 _) (below_alloc _ _)).drew
      obtain ⟨vE2, y2, r2E, e2, k2, b2⟩ := iapp_run (src := w4.heap.size) (y := (N : Int)) (W := ((w4.alloc (Obj.cells #[Value.int IntKind.i64 (N : Int)] 3)).alloc (Obj.cells #[Value.int IntKind.i64 (k % 256), Value.slice xa q xc] 29)).drew) (row_below hE4 bx2) (cell_of_row _ _ 0 _ 3 (0, 0) (last0 w4 _ _)) (Nat.le_trans BW4.out.size bx2.size) (by omega)
      have ky2 : KT (fun t => t ≠ 3) w4 y2 := (KT.below bx2).trans k2
      have by2 : Below w.heap.size w y2 := (BW4.out.trans (bx2.mono BW4.out.size)).trans b2
      have hf2 := k2 _ _ _ _ (last1 w4 _ _) (by decide)
      obtain ⟨vG2, z2, r2G, g2, q2, c2⟩ := gapp_run (src := w4.heap.size + 1) (k := kb k) (x := .slice xa q xc) (p := p.take 1000) (W := y2) (hG4.kt ky2 (by decide)) (by rw [cell_of_row _ _ 0 _ 29 (0, 0) hf2, hkb]; rfl) (by rw [cell_of_row _ _ 1 _ 29 (0, 0) hf2]; rfl) HX.out by2.size (by simp; omega)
      have bx3 : Below w4.heap.size w4 (w4.alloc (Obj.cells #[Value.int IntKind.i64 (N : Int)] 3)).drew := (below_alloc w4 _).drew
      obtain ⟨vE3, y3, r3E, e3, k3, b3⟩ := iapp_run (src := w4.heap.size) (y := (N : Int)) (W := (w4.alloc (Obj.cells #[Value.int IntKind.i64 (N : Int)] 3)).drew) (row_below hE4 bx3) (cell_of_row _ _ 0 _ 3 (0, 0) (heap_last w4 _)) (Nat.le_trans BW4.out.size bx3.size) (by omega)
      have ky3 : KT (fun t => t ≠ 3) w4 (y3.alloc (Obj.cells #[Value.int IntKind.i64 (k % 256), Value.slice xa q xc] 29)) := ((KT.below bx3).trans k3).trans (KT.below (below_alloc y3 _))
      have by3 : Below w.heap.size w (y3.alloc (Obj.cells #[Value.int IntKind.i64 (k % 256), Value.slice xa q xc] 29)) := ((BW4.out.trans (bx3.mono BW4.out.size)).trans b3).alloc ((BW4.out.trans (bx3.mono BW4.out.size)).trans b3).size _
      obtain ⟨vG3, z3, r3G, g3, q3, c3⟩ := gapp_run (src := y3.heap.size) (k := kb k) (x := .slice xa q xc) (p := p.take 1000) (W := (y3.alloc (Obj.cells #[Value.int IntKind.i64 (k % 256), Value.slice xa q xc] 29))) (hG4.kt ky3 (by decide)) (by rw [cell_of_row _ _ 0 _ 29 (0, 0) (heap_last y3 _), hkb]; rfl) (by rw [cell_of_row _ _ 1 _ 29 (0, 0) (heap_last y3 _)]; rfl) HX.out by3.size (by simp; omega)
      have fin3 : ∃ Y3, Y3 = (y3.alloc (Obj.cells #[Value.int IntKind.i64 (k % 256), Value.slice xa q xc] 29)) := ⟨_, rfl⟩
      obtain ⟨FIN, hFIN⟩ : ∃ FIN : Value → Value → World → Prop, FIN = fun vE vG z => Own w.heap.size z (.slice p4 N c4) (flat ((gs.take j).map cutF) ++ sealL (kb k) (p.take 1000)) ∧ z.ownsRow w.heap.size 3 1 vE (j + 1) (endsL 0 ((gs.take j).map cutF) ++ [.int .i64 (N : Int)]) ∧ Gs w.heap.size w z vG ((gs.take j).map cutF ++ [(kb k, p.take 1000)]) ∧ Below w.heap.size w z := ⟨_, rfl⟩
      have FN1 : Hid (FIN vE1 vG1 z1) := by show FIN _ _ _; rw [hFIN]; exact ⟨(ho4.kt ky1 (by decide)).kt q1 (by decide), row_kt e1 q1 (by decide), g1, by1.trans c1⟩
      have FN2 : Hid (FIN vE2 vG2 z2) := by show FIN _ _ _; rw [hFIN]; exact ⟨(ho4.kt ky2 (by decide)).kt q2 (by decide), row_kt e2 q2 (by decide), g2, by2.trans c2⟩
      have FN3 : Hid (FIN vE3 vG3 z3) := by show FIN _ _ _; rw [hFIN]; exact ⟨(ho4.kt ky3 (by decide)).kt q3 (by decide), row_kt (row_below e3 (below_alloc y3 _)) q3 (by decide), g3, by3.trans c3⟩
      have hFa : (w4.alloc (Obj.cells #[Value.int IntKind.i64 (N : Int)] 3)).heap[wr.heap.size]? = _ := KT.below (S := fun _ => True) (below_alloc w4 _) _ _ _ _ hF4 trivial
      have hFy : y3.heap[wr.heap.size]? = _ := k3 _ _ _ _ hFa (by decide)
      have l0 : w4.cell? ⟨wr.heap.size, 0, none⟩ = some (.int .i64 (k % 256)) := by rw [cell_of_row _ _ 0 _ 29 (0, 0) hF4]; rfl
      have l1 : w4.cell? ⟨wr.heap.size, 1, none⟩ = some (.slice xa q xc) := by rw [cell_of_row _ _ 1 _ 29 (0, 0) hF4]; rfl
      have la0 : (w4.alloc (Obj.cells #[Value.int IntKind.i64 (N : Int)] 3)).cell? ⟨wr.heap.size, 0, none⟩ = some (.int .i64 (k % 256)) := by rw [cell_of_row _ _ 0 _ 29 (0, 0) hFa]; rfl
      have la1 : (w4.alloc (Obj.cells #[Value.int IntKind.i64 (N : Int)] 3)).cell? ⟨wr.heap.size, 1, none⟩ = some (.slice xa q xc) := by rw [cell_of_row _ _ 1 _ 29 (0, 0) hFa]; rfl
      have ly0 : y3.cell? ⟨wr.heap.size, 0, none⟩ = some (.int .i64 (k % 256)) := by rw [cell_of_row _ _ 0 _ 29 (0, 0) hFy]; rfl
      have ly1 : y3.cell? ⟨wr.heap.size, 1, none⟩ = some (.slice xa q xc) := by rw [cell_of_row _ _ 1 _ 29 (0, 0) hFy]; rfl
      have hsn := take_snoc HKP.out
      have DN : Hid (∀ vE vG z, FIN vE vG z → Hid (Own w.heap.size z (.slice p4 N c4) (flat ((gs.take (j + 1)).map cutF))) ∧ Hid (z.ownsRow w.heap.size 3 1 vE (j + 1) (endsL 0 ((gs.take (j + 1)).map cutF))) ∧ Hid (Gs w.heap.size w z vG ((gs.take (j + 1)).map cutF)) ∧ Hid (Below w.heap.size w z)) := by
        intro vE vG z hz
        rw [hFIN] at hz
        obtain ⟨q1, q2, q3, q4⟩ := hz
        refine ⟨?_, ?_, ?_, q4⟩
        · show Own _ _ _ _
          rw [hsn, flat_append]
          have e : flat [cutF (k, p)] = sealL (kb k) (p.take 1000) := by simp [flat, cutF]
          rw [e]
          exact q1
        · show World.ownsRow _ _ _ _ _ _ _
          rw [hsn, endsL_snoc]
          have e : ((0 + wide ((gs.take j).map cutF) + (9 + (cutF (k, p)).2.length) : Nat) : Int) = (N : Int) := by rw [HN.out]; simp [cutF]
          rw [e]
          exact q2
        · show Gs _ _ _ _ _
          rw [hsn]
          exact q3
      clear hsn hFa hFy hFIN hF4 hE4 hG4 hkb hL4 hwid hlen bx1 bx2 bx3 ky1 ky2 ky3 by1 by2 by3 hf1 hf2 e1 e2 e3 k1 k2 k3 k4 b1 b2 b3 g1 g2 g3 q1 q2 q3 c1 c2 c3 ho3 hb3 ho4 hb4 d0 d1 fin3
      go_wp2_with (at_builtin; refine Lib.wpList_append_run _ rfl _ _ 22 22 rfl _ _ rfl rfl _ _ (hr4 _) ?_)
      go_region_law (first | (refine step_app_run rfl (.tmp 47) (.tmp 50) 39 rfl u6 (.slice (some ⟨w4.heap.size + 1, 0, none⟩) 1 1) rfl rfl (by with_reducible assumption) ?_) | (refine step_app_run rfl (.tmp 47) (.tmp 50) 39 rfl u6 (.slice (some ⟨w4.heap.size, 0, none⟩) 1 1) rfl rfl (by with_reducible assumption) ?_) | (refine step_app_run rfl (.tmp 52) (.tmp 54) 33 rfl u7 (.slice (some ⟨w4.heap.size, 0, none⟩) 1 1) rfl rfl (by with_reducible assumption) ?_) | (refine step_app_run rfl (.tmp 52) (.tmp 54) 33 rfl u7 (.slice (some ⟨w4.heap.size + 1, 0, none⟩) 1 1) rfl rfl (by with_reducible assumption) ?_) | (refine step_app_run rfl (.tmp 52) (.tmp 54) 33 rfl u7 (.slice (some ⟨y3.heap.size, 0, none⟩) 1 1) rfl rfl (by with_reducible assumption) ?_))
      all_goals go_wp2_with fail
      all_goals refine ⟨⟨j + 1, hlt, by simp, ?_⟩, by simp only [intOf]; omega⟩
      all_goals first | exact DN.out _ _ _ FN1.out | exact DN.out _ _ _ FN2.out | exact DN.out _ _ _ FN3.out
    · obtain rfl : j = m := by omega
      have hall : gs.take j = gs := by rw [← HGL.out.1, List.take_length]
      rw [hall] at HO HE HGs
      obtain ⟨L, hL⟩ : ∃ L, L = gs.map cutF := ⟨_, rfl⟩
      rw [← hL] at HO HE HGs
      have HLn : Hid (L.length = j ∧ j ≤ 20) := by refine ⟨?_, HGL.out.2⟩; rw [hL, List.length_map]; exact HGL.out.1
      have HLp : Hid (∀ f ∈ L, f.2.length ≤ 1048576) := by
        intro f hf
        rw [hL] at hf
        obtain ⟨g, _, rfl⟩ := List.mem_map.1 hf
        simp [cutF]
        omega
      have HWd : Hid (wide L ≤ 20180) := by
        show _ ≤ _
        have a1 := wide_cut gs
        rw [← hL] at a1
        have a2 := HGL.out
        omega
      have hsc : scanL (flat L) = L := by
        have := scanL_flat L [] HLp.out
        rw [List.append_nil] at this
        rw [this]
        exact List.append_nil L
      have SC : Hid (Calls Tryd.prog 14 #[u5] wr (SX wr L)) := by
        have := scan_calls u5 (flat L) wr HO.out.hb (by have := HWd.out; rw [flat_length]; omega) (HT.out wr HB.out)
        rwa [hsc] at this
      obtain ⟨W, hW⟩ : ∃ W, W = wide L := ⟨_, rfl⟩
      obtain ⟨pa, pc, hv5, hpc⟩ : ∃ pa pc, u5 = .slice pa W pc ∧ W ≤ pc := by obtain ⟨a, c, h, h2, _⟩ := HO.out.hb; exact ⟨a, c, by rw [h, flat_length, hW], by rw [flat_length] at h2; omega⟩
      subst hv5
      have HWe : Hid (W = wide L) := hW
      have hWb : (W : Int) ≤ 20180 := by have := HWd.out; omega
      clear hW hsc hL hall
      go_wp2_with fail
      refine SC.out.mono ?_
      rintro e w1 ⟨v1, rfl, hF1, hb1⟩
      rw [← HWe.out]
      have B1 : Hid (Below w.heap.size w w1) := HB.out.trans (hb1.mono HB.out.size)
      have HO1 : Hid (Own w.heap.size w1 (.slice pa W pc) (flat L)) := HO.out.below hb1
      have HE1 : Hid (w1.ownsRow w.heap.size 3 1 u6 j (endsL 0 L)) := row_below HE.out hb1
      have HG1 : Hid (Gs w.heap.size w w1 u7 L) := HGs.out.kt (S := fun _ => True) (KT.below hb1) trivial
      have F1 : Hid (FR w1 v1 (L.map fi)) := hF1.fr
      obtain ⟨ga, gc, hv7, hgc, hfr7⟩ := HG1.out.fr B1.out L.length (Nat.le_refl _)
      rw [List.take_length] at hfr7
      obtain ⟨ea, ec, hv6, hcell6⟩ := row_int HE1.out
      have HC6 : Hid (∀ (i : Nat) y, (endsL 0 L)[i]? = some y → ∃ g, ea = some ⟨g, 0, none⟩ ∧ w1.cell? ⟨g, i, none⟩ = some y) := hcell6
      subst hv7 hv6
      have EQ : Hid (Calls Tryd.prog 17 #[v1, .slice ga L.length gc, .func (.func 16) #[] #[]] w1 fun e w' => (∃ r : Bool, e = .returned (.bool r) ∧ (r = true ↔ L.map fi = L.map fi)) ∧ Below w1.heap.size w1 w') := fequal_calls v1 _ (L.map fi) (L.map fi) w1 (by have := HLn.out; simp; omega) F1.out hfr7
      have hgc' : L.length ≤ gc := hgc
      obtain ⟨xv, nv, cv, rfl⟩ : ∃ a n c, v1 = .slice a n c := by obtain ⟨a, c, h, _⟩ := F1.out; exact ⟨_, _, _, h⟩
      clear hF1 hb1 hfr7 hcell6 hgc
      have dW : ((W : Int) != (W : Int)) = false := by simp
      go_wp2_with fail
      refine EQ.out.mono ?_
      rintro e w2 ⟨⟨r, rfl, hr⟩, hb2⟩
      obtain rfl : r = true := hr.2 (by simp)
      have B2 : Hid (Below w1.heap.size w1 w2) := hb2
      clear hb2 hr
      obtain ⟨ct, hct, hctW⟩ := cut_num cut W (by omega)
      have HCT : Hid (ct ≤ W) := hctW
      go_upto_block 2 with fail
      rw [hct]
      clear hct hctW
      go_cut [12] (fun i wc => ∃ wh : Nat, wh ≤ j ∧ i = .int .i64 (wh : Int) ∧ Hid (wide (L.take wh) ≤ ct) ∧ Hid (wh = j ∨ ct < wide (L.take (wh + 1))) ∧ wc = w2)
      case first =>
        go_wp2_with fail
        go_loop [12] (fun i => ∃ wh : Nat, wh ≤ j ∧ i = .int .i64 (wh : Int) ∧ Hid (wide (L.take wh) ≤ ct)) (fun i => j - (intOf i).toNat)
        case atStart => exact ⟨0, Nat.zero_le _, rfl, by show _ ≤ _; simp [wide]⟩
        case round =>
          obtain ⟨wh, hwh, rfl, HWh⟩ := hrel
          by_cases hwl : wh < j
          · obtain ⟨g6, hg6, hc6⟩ := HC6.out wh _ (endsL_at 0 L wh (by have := HLn.out.1; omega))
            subst hg6
            have h6 := cell_below hc6 B2.out
            rw [Nat.zero_add] at h6
            obtain ⟨E, hE⟩ : ∃ E, E = wide (L.take (wh + 1)) := ⟨_, rfl⟩
            rw [← hE] at h6
            have HEE : Hid (E = wide (L.take (wh + 1))) := hE
            have dl : decide ((wh : Int) < (j : Int)) = true := decide_eq_true (by omega)
            have hlj : (wh : Int) < (j : Int) := by omega
            clear hc6 hE
            by_cases hEc : E ≤ ct
            · have dE : decide ((E : Int) ≤ (ct : Int)) = true := decide_eq_true (by omega)
              go_wp2_with fail
              go_round
              case rel => exact ⟨wh + 1, hwl, by go_num, by show _ ≤ _; rw [← HEE.out]; exact hEc⟩
              case measure => simp [intOf]; omega
            · have dE : decide ((E : Int) ≤ (ct : Int)) = false := decide_eq_false (by omega)
              go_wp2_with fail
              go_meet
              case rel => exact ⟨wh, hwh, rfl, HWh, by show _ ∨ _; right; rw [← HEE.out]; omega, rfl⟩
          · obtain rfl : wh = j := by omega
            have dl : decide ((wh : Int) < (wh : Int)) = false := decide_eq_false (by omega)
            go_wp2_with fail
            go_meet
            case rel => exact ⟨wh, Nat.le_refl _, rfl, HWh, .inl rfl, rfl⟩
      case rest =>
        obtain ⟨wh, hwh, rfl, HWh, HWx, rfl⟩ := hcut
        have BC : Hid (Below w.heap.size w wc) := B1.out.trans (B2.out.mono B1.out.size)
        have hwL : wh ≤ L.length := by have := HLn.out.1; omega
        have s22 := cut_h22 pa W pc ct (by have := HCT.out; omega)
        have s33 := cut_h33 ga L.length gc wh (by omega)
        have hbc : Hb wc (.slice pa ct pc) ((flat L).take ct) := (Hb.take (HO1.out.below B2.out).hb ct HCT.out).2.2
        have hsc := scan_cut L HLp.out wh ct hwL HWh.out (by rcases HWx.out with h | h; exact .inl (by rw [HLn.out.1]; exact h); exact .inr h) (by rw [← HWe.out]; exact HCT.out)
        have SC2 : Hid (Calls Tryd.prog 14 #[.slice pa ct pc] wc (SX wc (L.take wh))) := by
          have := scan_calls (.slice pa ct pc) ((flat L).take ct) wc hbc (by have := HWd.out; rw [List.length_take, flat_length]; omega) (HT.out wc BC.out)
          rwa [hsc] at this
        have hctb : (ct : Int) ≤ 20180 := by have := HCT.out; omega
        have hwhb : (wh : Int) ≤ 20 := by have := HLn.out.2; omega
        clear hbc hsc
        obtain ⟨M, hM⟩ : ∃ M, M = wide (L.take wh) := ⟨_, rfl⟩
        have HM : Hid (M = wide (L.take wh)) := hM
        clear hM
        go_wp2_with fail
        refine SC2.out.mono ?_
        rintro e w3 ⟨v3, rfl, hF3, hb3⟩
        rw [← HM.out]
        have B3 : Hid (Below w.heap.size w w3) := BC.out.trans (hb3.mono BC.out.size)
        have Bq : Hid (Below w1.heap.size w1 w3) := below_step B2.out hb3
        have F3 : Hid (FR w3 v3 ((L.take wh).map fi)) := hF3.fr
        obtain ⟨xv3, nv3, cv3, rfl⟩ : ∃ a n c, v3 = .slice a n c := by obtain ⟨a, c, h, _⟩ := F3.out; exact ⟨_, _, _, h⟩
        have hG3 : Gs w.heap.size w w3 (.slice ga L.length gc) L := HG1.out.kt (S := fun _ => True) (KT.below Bq.out) trivial
        obtain ⟨ga', gc', hv7, _, hfr7⟩ := hG3.fr B3.out wh hwL
        cases hv7
        have EQ2 : Hid (Calls Tryd.prog 17 #[.slice xv3 nv3 cv3, .slice ga wh gc, .func (.func 16) #[] #[]] w3 fun e w' => (∃ r : Bool, e = .returned (.bool r) ∧ (r = true ↔ (L.take wh).map fi = (L.take wh).map fi)) ∧ Below w3.heap.size w3 w') := fequal_calls _ _ ((L.take wh).map fi) ((L.take wh).map fi) w3 (by simp; omega) F3.out hfr7
        clear hF3 hb3 hG3 hfr7
        have dM : ((M : Int) == (M : Int)) = true := by simp
        cases wh with
        | zero =>
          have hM0 : M = 0 := by rw [HM.out]; rfl
          have dm0 : ((M : Int) == 0) = true := by rw [hM0]; rfl
          have HM0 : Hid (M = 0) := hM0
          clear hM0
          go_wp2_with fail
          refine EQ2.out.mono ?_
          rintro e w4 ⟨⟨r, rfl, hr⟩, hb4⟩
          obtain rfl : r = true := hr.2 (by simp)
          have B4 : Hid (Below w.heap.size w w4) := B3.out.trans (hb4.mono B3.out.size)
          clear hb4 hr
          go_wp2_with fail
          refine (awake_calls w4 (HT.out w4 B4.out)).mono ?_
          rintro e w5 ⟨rfl, hb5⟩
          have B5 : Hid (Below w.heap.size w w5) := B4.out.trans (hb5.mono B4.out.size)
          clear hb5
          go_wp2_with fail
          go_ret
          exact ⟨rfl, B5.out⟩
        | succ t =>
          obtain ⟨g6, hg6, hc6⟩ := HC6.out t _ (endsL_at 0 L t (by omega))
          subst hg6
          have h6 := cell_below hc6 Bq.out
          rw [Nat.zero_add, ← HM.out] at h6
          have dgt : decide ((0 : Int) < ((t + 1 : Nat) : Int)) = true := decide_eq_true (by omega)
          have hsub : wrap64 (((t + 1 : Nat) : Int) - 1) = (t : Int) := by unfold wrap64; omega
          have hsub2 : ((t + 1 : Nat) : Int) - 1 = (t : Int) := by omega
          have htj : (t : Int) < (j : Int) := by omega
          clear hc6
          go_wp2_with fail
          refine EQ2.out.mono ?_
          rintro e w4 ⟨⟨r, rfl, hr⟩, hb4⟩
          obtain rfl : r = true := hr.2 (by simp)
          have B4 : Hid (Below w.heap.size w w4) := B3.out.trans (hb4.mono B3.out.size)
          clear hb4 hr
          go_wp2_with fail
          refine (awake_calls w4 (HT.out w4 B4.out)).mono ?_
          rintro e w5 ⟨rfl, hb5⟩
          have B5 : Hid (Below w.heap.size w w5) := B4.out.trans (hb5.mono B4.out.size)
          clear hb5
          go_wp2_with fail
          go_ret
          exact ⟨rfl, B5.out⟩
end Go.Proofs.YtpghnlighbfdoaaDoor
