/- Arguments that are rows, and arguments that are a batch: as plain data, in memory. -/
import Derived.Test.YtkaaddahegkmgaaRB
import Derived.Test.YtkaaddahegkmgaaOA
namespace Go.Proofs.Ytkaaddahegkmgaa
open Go.ChangeShapes Go.WideShapes Go.ChangeAt Go.RowKit Go.Deep
theorem spot_zero {W : World} {a : Addr} {v : Value} (h : W.cell? (a.add 0) = some v) : ∃ B o, a = ⟨B, o, none⟩ := by
  have hs := plain_addr h
  obtain ⟨B, o, sp⟩ := a
  cases sp with
  | none => exact ⟨B, o, rfl⟩
  | some k => simp [Addr.add] at hs
/-- A write in a list. -/
def wtE : El Wt where
  K := 5
  ty := 47
  I := fun P w cs t => ∃ e, cs = [.string t.br, .string t.fk, .int .i64 t.kp, .int .i64 t.ta, e] ∧ Sl evE P w e t.ev
  len := fun ⟨_, h, _⟩ => by rw [h]; rfl
  one := fun ⟨e, h, he⟩ z hz => by
    rw [h] at hz
    simp only [List.mem_cons, List.not_mem_nil, or_false] at hz
    rcases hz with rfl | rfl | rfl | rfl | rfl
    · rfl
    · rfl
    · rfl
    · rfl
    · exact he.one
  keep := fun ⟨e, h, he⟩ hk => ⟨e, h, he.keep hk⟩
/-- v is the batch b. -/
def BtS (P : Nat → Prop) (w : World) (v : Value) (b : Bt) : Prop := ∃ vr vw, v = .agg #[.string b.key, .int .i64 b.ex, vr, vw] ∧ HB P w vr b.row ∧ Sl wtE P w vw b.ws
theorem BtS.keep {P P' : Nat → Prop} {w w' : World} {v : Value} {b : Bt} (h : BtS P w v b) (hk : ∀ B, P B → B < w.heap.size → w'.heap[B]? = w.heap[B]? ∧ P' B) : BtS P' w' v b := by
  obtain ⟨vr, vw, hv, h1, h2⟩ := h
  exact ⟨vr, vw, hv, h1.keep hk, h2.keep hk⟩
theorem BtS.below {P : Nat → Prop} {w w' : World} {v : Value} {b : Bt} (h : BtS P w v b) (hb : Below w.heap.size w w') : BtS P w' v b := h.keep fun B hB hl => ⟨hb.block B hl, hB⟩
theorem lr_of {P : Nat → Prop} {w : World} {v : Value} {l : List (List UInt8)} (h : Sl evE P w v l) : LR w v l := by
  obtain ⟨a, c, hv, h1, h2, h3⟩ := h
  refine ⟨a, c, hv, Nat.le_trans h1 h2, fun i p hp => ?_⟩
  obtain ⟨B, o, x, ha, _, hc, hx⟩ := h3.ev i p hp
  exact ⟨B, o, x, ha, hc, hx.bytes⟩
theorem BtS.bis {P : Nat → Prop} {w : World} {v : Value} {b : Bt} (h : BtS P w v b) : BIs w v b := by
  obtain ⟨vr, vw, hv, hr, a, d, rfl, h1, h2, h3⟩ := h
  obtain ⟨p, c, rfl, _⟩ := hr.shape
  refine ⟨p, b.row.length, c, a, d, hv, hr.bytes, Nat.le_trans h1 h2, fun i t ht => ?_⟩
  obtain ⟨B, o, cs, ha, _, hc, e, rfl, he⟩ := h3 i t ht
  exact ⟨B, o, e, ha, ⟨hc 0 _ rfl, hc 1 _ rfl, hc 2 _ rfl, hc 3 _ rfl, hc 4 _ rfl⟩, lr_of he⟩
theorem Ls.wt {P : Nat → Prop} {w : World} {a : Option Addr} {xs : List Wt} (h : Ls wtE P w a xs) (i : Nat) (t) (ht : xs[i]? = some t) : ∃ B o e, a = some ⟨B, o, none⟩ ∧ P B ∧ w.cell? ⟨B, o + i * 5, none⟩ = some (.string t.br) ∧ w.cell? ⟨B, o + i * 5 + 1, none⟩ = some (.string t.fk) ∧ w.cell? ⟨B, o + i * 5 + 2, none⟩ = some (.int .i64 t.kp) ∧ w.cell? ⟨B, o + i * 5 + 3, none⟩ = some (.int .i64 t.ta) ∧ w.cell? ⟨B, o + i * 5 + 4, none⟩ = some e ∧ Sl evE P w e t.ev := by
  obtain ⟨B, o, cs, ha, hB, hc, e, rfl, he⟩ := h i t ht
  exact ⟨B, o, e, ha, hB (by decide), hc 0 _ rfl, hc 1 _ rfl, hc 2 _ rfl, hc 3 _ rfl, hc 4 _ rfl, he⟩
theorem cells37 : Try.prog.cellsOf 37 = 3 := by kernel_rfl
theorem cells56 : Try.prog.cellsOf 56 = 2 := by kernel_rfl
theorem cellsD25 : Try.prog.cellsOf 25 = 2 := by kernel_rfl
theorem list2 {α : Type} : ∀ {l : List α}, l.length = 2 → ∃ a b, l = [a, b]
  | [a, b], _ => ⟨a, b, rfl⟩
theorem list3 {α : Type} : ∀ {l : List α}, l.length = 3 → ∃ a b c, l = [a, b, c]
  | [a, b, c], _ => ⟨a, b, c, rfl⟩
section
variable {H : Type} {enc : TypeId × Value → H} {W : World} {base : Nat} {spare : Nat → Bool} {held : Bool}
theorem open_hb (fuel : Nat) (cs : List Value) (x : DataW H × List MemPlace) (h : DataW.trod enc Try.prog W base spare held fuel 26 cs = some x) : ∃ v l, cs = [v] ∧ HB (fun _ => True) W v l := by
  rcases open_ints Try.underlying26 Try.underlying5 (by kernel_rfl) h with ⟨hcs, _⟩ | ⟨y, len, c, zs, hcs, _, hl, hm, hz, hx, hcell, hwz⟩
  · exact ⟨_, [], hcs, HB.nil _ W⟩
  · have hzl : len ≤ zs.length := by
      have hz2 : zs.length = if spare y.block = true then c else len := by simpa using hz
      rw [hz2]
      split
      · exact hl
      · exact Nat.le_refl _
    have hlen : ((zs.take len).map fun z => UInt8.ofNat z.toNat).length = len := by rw [List.length_map, List.length_take]; omega
    unfold maxLen at hm
    refine ⟨_, (zs.take len).map fun z => UInt8.ofNat z.toNat, hcs, some y, c, by rw [hlen], by rw [hlen]; exact hl, by omega, ?_⟩
    intro i u hu
    rw [List.getElem?_map] at hu
    obtain ⟨z, hz1, rfl⟩ := Option.map_eq_some_iff.1 hu
    have hi : i < (zs.take len).length := (List.getElem?_eq_some_iff.1 hz1).1
    rw [List.length_take] at hi
    rw [List.getElem?_take_of_lt (by omega)] at hz1
    have hw := hwz z (List.mem_of_getElem? hz1)
    simp only [Lit.wf, IntKind.min, IntKind.max, IntKind.signed, IntKind.bits, Bool.and_eq_true, decide_eq_true_eq, Bool.false_eq_true, if_false] at hw
    have e : ((UInt8.ofNat z.toNat).toNat : Int) = z := by rw [UInt8.toNat_ofNat']; omega
    have hc := hcell i (by omega)
    rw [List.getD_eq_getElem?_getD, hz1] at hc
    obtain ⟨B, o, rfl⟩ := spot_zero (hcell 0 (by omega))
    refine ⟨B, o, rfl, trivial, ?_⟩
    rw [addp] at hc
    rw [hc, eb, e]
    rfl
/-- A list, where its items are opened. -/
theorem open_list {α : Type} {E : El α} {T : TypeId} (hK : 0 < E.K) (hu : Try.prog.underlying T = some (.slice E.ty)) (hcells : Try.prog.cellsOf E.ty = E.K)
    (el : ∀ (fuel : Nat) (cs : List Value) (x : DataW H × List MemPlace), DataW.trod enc Try.prog W base spare held fuel E.ty cs = some x → ∃ y, E.I (fun _ => True) W cs y)
    (fuel : Nat) (cs : List Value) (x : DataW H × List MemPlace) (h : DataW.trod enc Try.prog W base spare held fuel T cs = some x) : ∃ v ls, cs = [v] ∧ Sl E (fun _ => True) W v ls := by
  rcases DataW.trod_slice hu h with ⟨h4, _⟩ | ⟨a, len, cap, elems, rest, q, hq, h4, _, _, hl, hm, he, hx, _, _⟩
  · exact ⟨_, [], h4, Sl.nil _ _⟩
  · unfold maxLen at hm
    have each : ∀ i, i < len → ∃ y : α, ∃ B o, ∃ cs : List Value, a = ⟨B, o, none⟩ ∧ (∀ r z, cs[r]? = some z → W.cell? ⟨B, o + i * E.K + r, none⟩ = some z) ∧ E.I (fun _ => True) W cs y := by
      intro i hi
      have key := hx i hi
      rw [List.getElem?_eq_getElem (by omega)] at key
      obtain ⟨cs', k1, k2⟩ := Option.bind_eq_some_iff.1 key
      obtain ⟨y, hy⟩ := el q cs' _ k2
      rw [hcells] at k1
      obtain ⟨_, hl', hcell⟩ := World.cells?_some k1
      have hcl := E.len hy
      have hsp : ∃ B o, a = ⟨B, o, none⟩ := by
        have key0 := hx 0 (by omega)
        rw [List.getElem?_eq_getElem (by omega)] at key0
        obtain ⟨cs0, k10, k20⟩ := Option.bind_eq_some_iff.1 key0
        obtain ⟨y0, hy0⟩ := el q cs0 _ k20
        rw [hcells] at k10
        obtain ⟨_, _, hcell0⟩ := World.cells?_some k10
        have hcl0 := E.len hy0
        have p0 := hcell0 0 (by omega)
        rw [add_add, Nat.zero_mul, Nat.add_zero] at p0
        have hz0 : cs0[0]? = some cs0[0] := List.getElem?_eq_getElem (by omega)
        rw [hz0] at p0
        exact spot_zero p0
      obtain ⟨B, o, rfl⟩ := hsp
      refine ⟨y, B, o, cs', rfl, fun r z hz => ?_, hy⟩
      have hr : r < E.K := by have := (List.getElem?_eq_some_iff.1 hz).1; omega
      have pr := hcell r (by omega)
      rw [addp, addp] at pr
      rw [pr, hz]
    rcases Nat.eq_zero_or_pos len with h0 | h0
    · subst h0
      exact ⟨_, [], h4, some a, cap, rfl, Nat.zero_le _, by omega, Ls.nil _ _ _⟩
    have inh : Inhabited α := ⟨(each 0 h0).choose⟩
    obtain ⟨F, hF⟩ := choose_lt each
    refine ⟨_, (List.range len).map F, h4, some a, cap, by simp, by simpa using hl, by omega, fun i p hp => ?_⟩
    have hi : i < len := by have := (List.getElem?_eq_some_iff.1 hp).1; simpa using this
    rw [List.getElem?_map, List.getElem?_range hi] at hp
    cases hp
    obtain ⟨B, o, cs, ha, hc, hI⟩ := hF i hi
    exact ⟨B, o, cs, by rw [ha], fun _ => trivial, hc, hI⟩
theorem open_ev (fuel : Nat) (cs : List Value) (x : DataW H × List MemPlace) (h : DataW.trod enc Try.prog W base spare held fuel 26 cs = some x) : ∃ y, evE.I (fun _ => True) W cs y := by
  obtain ⟨v, l, hc, hv⟩ := open_hb fuel cs x h
  exact ⟨l, v, hc, hv⟩
theorem open_evl (fuel : Nat) (cs : List Value) (x : DataW H × List MemPlace) (h : DataW.trod enc Try.prog W base spare held fuel 40 cs = some x) : ∃ v ls, cs = [v] ∧ Sl evE (fun _ => True) W v ls :=
  open_list (E := evE) (by decide) Try.underlying40 cells22 open_ev fuel cs x h
set_option maxRecDepth 100000 in
theorem open_rw (fuel : Nat) (cs : List Value) (x : DataW H × List MemPlace) (h : DataW.trod enc Try.prog W base spare held fuel 37 cs = some x) : ∃ y, rowE.I (fun _ => True) W cs y := by
  obtain ⟨xs, k, hk, hxy, hlen, hxl, hf⟩ := DataW.trod_struct Try.underlying37 h
  rw [cells37] at hlen
  obtain ⟨c0, c1, c2, rfl⟩ := list3 hlen
  obtain ⟨y0, y1, y2, rfl⟩ := list3 (l := xs) hxl
  have g0 := hf 0 _ rfl
  have g1 := hf 1 _ rfl
  have g2 := hf 2 _ rfl
  clear hf hxl hlen hxy h
  simp only [List.getElem?_cons_zero, List.getElem?_cons_succ] at g0 g1 g2
  obtain ⟨s0, e0, _, _⟩ := DataW.trod_string Try.underlying9 g0
  obtain ⟨n1, e1, _, _⟩ := DataW.trod_int Try.underlying3 g1
  obtain ⟨v2, l, e2, hv⟩ := open_hb _ _ _ g2
  cases e0; cases e1; cases e2
  exact ⟨⟨s0, n1, l⟩, _, rfl, hv⟩
set_option maxRecDepth 100000 in
theorem open_bn (fuel : Nat) (cs : List Value) (x : DataW H × List MemPlace) (h : DataW.trod enc Try.prog W base spare held fuel 56 cs = some x) : ∃ y, brE.I (fun _ => True) W cs y := by
  obtain ⟨xs, k, hk, hxy, hlen, hxl, hf⟩ := DataW.trod_struct Try.underlying56 h
  rw [cells56] at hlen
  obtain ⟨c0, c1, rfl⟩ := list2 hlen
  obtain ⟨y0, y1, rfl⟩ := list2 (l := xs) hxl
  have g0 := hf 0 _ rfl
  have g1 := hf 1 _ rfl
  clear hf hxl hlen hxy h
  simp only [List.getElem?_cons_zero, List.getElem?_cons_succ] at g0 g1
  obtain ⟨s0, e0, _, _⟩ := DataW.trod_string Try.underlying9 g0
  obtain ⟨v1, l, e1, hv⟩ := open_evl _ _ _ g1
  cases e0; cases e1
  exact ⟨⟨s0, l⟩, _, rfl, hv⟩
set_option maxRecDepth 100000 in
/-- An argument that is rows. -/
theorem open_db (fuel : Nat) (cs : List Value) (x : DataW H × List MemPlace) (h : DataW.trod enc Try.prog W base spare held fuel 25 cs = some x) : ∃ u b r, cs = [u, b] ∧ IsR (fun _ => True) W (.agg #[u, b]) r := by
  obtain ⟨xs, k, hk, hxy, hlen, hxl, hf⟩ := DataW.trod_struct Try.underlying25 h
  rw [cellsD25] at hlen
  obtain ⟨c0, c1, rfl⟩ := list2 hlen
  obtain ⟨y0, y1, rfl⟩ := list2 (l := xs) hxl
  have g0 := hf 0 _ rfl
  have g1 := hf 1 _ rfl
  clear hf hxl hlen hxy h
  simp only [List.getElem?_cons_zero, List.getElem?_cons_succ] at g0 g1
  obtain ⟨u, rs, e0, hu⟩ := open_list (E := rowE) (by decide) Try.underlying22 cells37 open_rw _ _ _ g0
  obtain ⟨b, bs, e1, hb⟩ := open_list (E := brE) (by decide) Try.underlying23 cells56 open_bn _ _ _ g1
  cases e0; cases e1
  exact ⟨_, _, ⟨rs, bs⟩, rfl, _, _, rfl, hu, hb⟩
set_option maxRecDepth 100000 in
theorem open_wtE (fuel : Nat) (cs : List Value) (x : DataW H × List MemPlace) (h : DataW.trod enc Try.prog W base spare held fuel 47 cs = some x) : ∃ t, wtE.I (fun _ => True) W cs t := by
  obtain ⟨xs, k, hk, hxy, hlen, hxl, hf⟩ := DataW.trod_struct Try.underlying47 h
  rw [cells42] at hlen
  obtain ⟨c0, c1, c2, c3, c4, rfl⟩ := list5 hlen
  obtain ⟨y0, y1, y2, y3, y4, rfl⟩ := list5 (l := xs) hxl
  have g0 := hf 0 _ rfl
  have g1 := hf 1 _ rfl
  have g2 := hf 2 _ rfl
  have g3 := hf 3 _ rfl
  have g4 := hf 4 _ rfl
  clear hf hxl hlen hxy h
  simp only [List.getElem?_cons_zero, List.getElem?_cons_succ] at g0 g1 g2 g3 g4
  obtain ⟨s0, e0, _, _⟩ := DataW.trod_string Try.underlying9 g0
  obtain ⟨s1, e1, _, _⟩ := DataW.trod_string Try.underlying9 g1
  obtain ⟨n2, e2, _, _⟩ := DataW.trod_int Try.underlying3 g2
  obtain ⟨n3, e3, _, _⟩ := DataW.trod_int Try.underlying3 g3
  obtain ⟨v4, ls, e4, hl⟩ := open_evl _ _ _ g4
  cases e0; cases e1; cases e2; cases e3; cases e4
  exact ⟨⟨s0, s1, n2, n3, ls⟩, _, rfl, hl⟩
set_option maxRecDepth 100000 in
/-- An argument that is a batch. -/
theorem open_btS (fuel : Nat) (cs : List Value) (x : DataW H × List MemPlace) (h : DataW.trod enc Try.prog W base spare held fuel 29 cs = some x) : ∃ c0 c1 c2 c3 b, cs = [c0, c1, c2, c3] ∧ BtS (fun _ => True) W (.agg #[c0, c1, c2, c3]) b := by
  obtain ⟨xs, k, hk, hxy, hlen, hxl, hf⟩ := DataW.trod_struct Try.underlying29 h
  rw [cells25] at hlen
  obtain ⟨c0, c1, c2, c3, rfl⟩ := list4 hlen
  obtain ⟨y0, y1, y2, y3, rfl⟩ := list4 (l := xs) hxl
  have g0 := hf 0 _ rfl
  have g1 := hf 1 _ rfl
  have g2 := hf 2 _ rfl
  have g3 := hf 3 _ rfl
  clear hf hxl hlen hxy h
  simp only [List.getElem?_cons_zero, List.getElem?_cons_succ] at g0 g1 g2 g3
  obtain ⟨s0, e0, _, _⟩ := DataW.trod_string Try.underlying9 g0
  obtain ⟨n1, e1, _, _⟩ := DataW.trod_int Try.underlying3 g1
  obtain ⟨vr, row, e2, hr⟩ := open_hb _ _ _ g2
  obtain ⟨vw, ws, e3, hw⟩ := open_list (E := wtE) (by decide) Try.underlying27 cells42 open_wtE _ _ _ g3
  cases e0; cases e1; cases e2; cases e3
  exact ⟨_, _, _, _, ⟨s0, n1, row, ws⟩, rfl, _, _, rfl, hr, hw⟩
end
end Go.Proofs.Ytkaaddahegkmgaa
