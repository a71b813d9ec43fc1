/- An argument that is a batch: as plain data, in memory. -/
import Derived.Test.YtkaaddahegkmgaaBA
import Derived.Deep.Slices
import Derived.ChangeArms
import Derived.ChangeSame
import Derived.OpenShut
namespace Go.Proofs.Ytkaaddahegkmgaa
open Go.ChangeShapes Go.WideShapes Go.ChangeAt Go.RowKit Go.Deep
theorem cells25 : Try.prog.cellsOf 29 = 4 := by kernel_rfl
theorem cells42 : Try.prog.cellsOf 47 = 5 := by kernel_rfl
theorem cells22 : Try.prog.cellsOf 26 = 1 := by kernel_rfl
/-- An address whose cell is read has no spot. -/
theorem plain_addr {w : World} {a : Addr} {v : Value} (h : w.cell? a = some v) : a.spot = none := by
  obtain ⟨b, o, s⟩ := a
  unfold World.cell? at h
  cases s with
  | none => rfl
  | some k => split at h <;> simp at h
theorem addp (b o i : Nat) : (⟨b, o, none⟩ : Addr).add i = ⟨b, o + i, none⟩ := by unfold Addr.add; split <;> simp_all
theorem list4 {α : Type} : ∀ {l : List α}, l.length = 4 → ∃ a b c d, l = [a, b, c, d]
  | [a, b, c, d], _ => ⟨a, b, c, d, rfl⟩
theorem list5 {α : Type} : ∀ {l : List α}, l.length = 5 → ∃ a b c d e, l = [a, b, c, d, e]
  | [a, b, c, d, e], _ => ⟨a, b, c, d, e, rfl⟩
section
variable {H : Type} {enc : TypeId × Value → H} {W : World} {base : Nat} {spare : Nat → Bool} {held : Bool}
theorem open_by (fuel : Nat) (cs : List Value) (x : DataW H × List MemPlace) (h : DataW.trod enc Try.prog W base spare held fuel 26 cs = some x) : ∃ a n c l, cs = [.slice a n c] ∧ Lib.HoldsBytes W (.slice a n c) l := by
  rcases open_ints Try.underlying26 Try.underlying5 (by kernel_rfl) h with ⟨hcs, _⟩ | ⟨y, len, c, zs, hcs, _, hl, hm, hz, hx, hcell, hwz⟩
  · exact ⟨none, 0, 0, [], hcs, holds_nil W⟩
  · have hzl : len ≤ zs.length := by
      have hz2 : zs.length = if spare y.block = true then c else len := by simpa using hz
      rw [hz2]
      split
      · exact hl
      · exact Nat.le_refl _
    have hlen : ((zs.take len).map fun z => UInt8.ofNat z.toNat).length = len := by rw [List.length_map, List.length_take]; omega
    refine ⟨some y, len, c, (zs.take len).map fun z => UInt8.ofNat z.toNat, hcs, some y, c, by rw [hlen], (fun h => by cases h), ?_⟩
    intro b hb i u hu
    cases hb
    rw [List.getElem?_map] at hu
    obtain ⟨z, hz1, rfl⟩ := Option.map_eq_some_iff.1 hu
    have hi : i < (zs.take len).length := (List.getElem?_eq_some_iff.1 hz1).1
    rw [List.length_take] at hi
    rw [List.getElem?_take_of_lt (by omega)] at hz1
    have hw := hwz z (List.mem_of_getElem? hz1)
    simp only [Lit.wf, IntKind.min, IntKind.max, IntKind.signed, IntKind.bits, Bool.and_eq_true, decide_eq_true_eq, Bool.false_eq_true, if_false] at hw
    rw [hcell i (by omega), List.getD_eq_getElem?_getD, hz1]
    have e : ((UInt8.ofNat z.toNat).toNat : Int) = z := by rw [UInt8.toNat_ofNat']; omega
    rw [e]
    rfl
set_option maxRecDepth 100000 in
theorem open_evs (fuel : Nat) (cs : List Value) (x : DataW H × List MemPlace) (h : DataW.trod enc Try.prog W base spare held fuel 40 cs = some x) : ∃ v ls, cs = [v] ∧ LR W v ls := by
  rcases DataW.trod_slice Try.underlying40 h with ⟨h4, _⟩ | ⟨a, len, cap, elems, rest, q, hq, h4, _, _, hl, hm, he, hx, _, _⟩
  · exact ⟨_, [], h4, none, 0, rfl, by decide, fun i p hp => by simp at hp⟩
  · unfold maxLen at hm
    have each : ∀ i, i < len → ∃ r : Value × List UInt8, ∃ B o, a = ⟨B, o, none⟩ ∧ W.cell? ⟨B, o + i, none⟩ = some r.1 ∧ Lib.HoldsBytes W r.1 r.2 := by
      intro i hi
      have key := hx i hi
      rw [List.getElem?_eq_getElem (by omega)] at key
      obtain ⟨cs', k1, k2⟩ := Option.bind_eq_some_iff.1 key
      obtain ⟨a', n', c', l', rfl, hh⟩ := open_by q cs' _ k2
      rw [cells22] at k1
      obtain ⟨_, _, hcell⟩ := World.cells?_some k1
      have p0 := hcell 0 (by simp)
      have hsp : a.spot = none := by
        have key0 := hx 0 (by omega)
        rw [List.getElem?_eq_getElem (by omega)] at key0
        obtain ⟨cs0, k10, k20⟩ := Option.bind_eq_some_iff.1 key0
        obtain ⟨_, _, _, _, rfl, _⟩ := open_by q cs0 _ k20
        rw [cells22] at k10
        obtain ⟨_, _, hcell0⟩ := World.cells?_some k10
        have q0 := hcell0 0 (by simp)
        rw [add_add] at q0
        have := plain_addr q0
        simpa [Addr.add] using this
      obtain ⟨B, o, sp⟩ := a
      cases hsp
      rw [addp, addp] at p0
      exact ⟨(.slice a' n' c', l'), B, o, rfl, by simpa using p0, hh⟩
    have inh : Inhabited (Value × List UInt8) := ⟨(undef, [])⟩
    obtain ⟨F, hF⟩ := choose_lt each
    refine ⟨_, (List.range len).map fun i => (F i).2, h4, some a, cap, by simp, by simp; omega, fun i p hp => ?_⟩
    have hi : i < len := by have := (List.getElem?_eq_some_iff.1 hp).1; simpa using this
    rw [List.getElem?_map, List.getElem?_range hi] at hp
    cases hp
    obtain ⟨B, o, ha, h5, hI⟩ := hF i hi
    exact ⟨B, o, _, by rw [ha], h5, hI⟩
set_option maxRecDepth 100000 in
theorem open_wt (fuel : Nat) (cs : List Value) (x : DataW H × List MemPlace) (h : DataW.trod enc Try.prog W base spare held fuel 47 cs = some x) : ∃ (t : Wt) (e : Value), cs = [.string t.br, .string t.fk, .int .i64 t.kp, .int .i64 t.ta, e] ∧ LR W e t.ev := by
  obtain ⟨xs, k, hk, hxy, hlen, hxl, hf⟩ := DataW.trod_struct Try.underlying47 h
  rw [cells42] at hlen
  obtain ⟨c0, c1, c2, c3, c4, rfl⟩ := list5 hlen
  obtain ⟨y0, y1, y2, y3, y4, rfl⟩ := list5 (l := xs) hxl
  have g0 := hf 0 _ rfl
  have g1 := hf 1 _ rfl
  have g2 := hf 2 _ rfl
  have g3 := hf 3 _ rfl
  have g4 := hf 4 _ rfl
  clear hf hxl hlen hxy h
  simp only [List.getElem?_cons_zero, List.getElem?_cons_succ] at g0 g1 g2 g3 g4
  obtain ⟨s0, e0, _, _⟩ := DataW.trod_string Try.underlying9 g0
  obtain ⟨s1, e1, _, _⟩ := DataW.trod_string Try.underlying9 g1
  obtain ⟨n2, e2, _, _⟩ := DataW.trod_int Try.underlying3 g2
  obtain ⟨n3, e3, _, _⟩ := DataW.trod_int Try.underlying3 g3
  obtain ⟨v4, ls, e4, hl⟩ := open_evs _ _ _ g4
  cases e0; cases e1; cases e2; cases e3; cases e4
  exact ⟨⟨s0, s1, n2, n3, ls⟩, _, rfl, hl⟩
set_option maxRecDepth 100000 in
theorem open_bt (fuel : Nat) (cs : List Value) (x : DataW H × List MemPlace) (h : DataW.trod enc Try.prog W base spare held fuel 29 cs = some x) : ∃ c0 c1 c2 c3 b, cs = [c0, c1, c2, c3] ∧ BIs W (.agg #[c0, c1, c2, c3]) b := by
  obtain ⟨xs, k, hk, hxy, hlen, hxl, hf⟩ := DataW.trod_struct Try.underlying29 h
  rw [cells25] at hlen
  obtain ⟨c0, c1, c2, c3, rfl⟩ := list4 hlen
  obtain ⟨y0, y1, y2, y3, rfl⟩ := list4 (l := xs) hxl
  have g0 := hf 0 _ rfl
  have g1 := hf 1 _ rfl
  have g2 := hf 2 _ rfl
  have g3 := hf 3 _ rfl
  clear hf hxl hlen hxy h
  simp only [List.getElem?_cons_zero, List.getElem?_cons_succ] at g0 g1 g2 g3
  obtain ⟨s0, e0, _, _⟩ := DataW.trod_string Try.underlying9 g0
  obtain ⟨n1, e1, _, _⟩ := DataW.trod_int Try.underlying3 g1
  obtain ⟨ra, rn, rc, row, e2, hrow⟩ := open_by _ _ _ g2
  cases e0; cases e1; cases e2
  rcases DataW.trod_slice Try.underlying27 g3 with ⟨h4, _⟩ | ⟨a, len, cap, elems, rest, q, hq, h4, _, _, hl, hm, he, hx, _, _⟩
  · cases h4
    exact ⟨_, _, _, _, ⟨s0, n1, row, []⟩, rfl, ra, rn, rc, none, 0, rfl, hrow, Nat.zero_le _, fun i t ht => by simp at ht⟩
  · cases h4
    unfold maxLen at hm
    have each : ∀ i, i < len → ∃ r : Wt × Value, ∃ B o, a = ⟨B, o, none⟩ ∧ At5 W B (o + i * 5) (.string r.1.br) (.string r.1.fk) (.int .i64 r.1.kp) (.int .i64 r.1.ta) r.2 ∧ LR W r.2 r.1.ev := by
      intro i hi
      have key := hx i hi
      rw [List.getElem?_eq_getElem (by omega)] at key
      obtain ⟨cs', k1, k2⟩ := Option.bind_eq_some_iff.1 key
      obtain ⟨t, e, rfl, hI⟩ := open_wt q cs' _ k2
      rw [cells42] at k1
      obtain ⟨_, _, hcell⟩ := World.cells?_some k1
      have p0 := hcell 0 (by simp)
      have hsp : a.spot = none := by
        have key0 := hx 0 (by omega)
        rw [List.getElem?_eq_getElem (by omega)] at key0
        obtain ⟨cs0, k10, k20⟩ := Option.bind_eq_some_iff.1 key0
        obtain ⟨_, _, rfl, _⟩ := open_wt q cs0 _ k20
        rw [cells42] at k10
        obtain ⟨_, _, hcell0⟩ := World.cells?_some k10
        have q0 := hcell0 0 (by simp)
        rw [add_add] at q0
        have := plain_addr q0
        simpa [Addr.add] using this
      obtain ⟨B, o, sp⟩ := a
      cases hsp
      have ad : ∀ r, ((⟨B, o, none⟩ : Addr).add (i * 5)).add r = ⟨B, o + i * 5 + r, none⟩ := by
        intro r
        rw [addp, addp]
      have p1 := hcell 1 (by simp)
      have p2 := hcell 2 (by simp)
      have p3 := hcell 3 (by simp)
      have p4 := hcell 4 (by simp)
      rw [ad] at p0 p1 p2 p3 p4
      exact ⟨(t, e), B, o, rfl, ⟨by simpa using p0, by simpa using p1, by simpa using p2, by simpa using p3, by simpa using p4⟩, hI⟩
    have inh : Inhabited (Wt × Value) := ⟨(⟨⟨#[]⟩, ⟨#[]⟩, 0, 0, []⟩, undef)⟩
    obtain ⟨F, hF⟩ := choose_lt each
    refine ⟨_, _, _, _, ⟨s0, n1, row, (List.range len).map fun i => (F i).1⟩, rfl, ra, rn, rc, some a, cap, by simp, hrow, by simp; omega, fun i t ht => ?_⟩
    have hi : i < len := by have := (List.getElem?_eq_some_iff.1 ht).1; simpa using this
    rw [List.getElem?_map, List.getElem?_range hi] at ht
    cases ht
    obtain ⟨B, o, ha, h5, hI⟩ := hF i hi
    exact ⟨B, o, _, by rw [ha], h5, hI⟩
end
end Go.Proofs.Ytkaaddahegkmgaa
