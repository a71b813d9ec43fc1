/- An argument that is a list of frames. -/
import Derived.Test.YtpghnlighbfdoaaDoorS
import Derived.Deep.Slices
import Derived.ChangeArms
import Derived.ChangeSame
namespace Go.Proofs.YtpghnlighbfdoaaDoor
open Go.ChangeShapes Go.WideShapes Go.ChangeAt Go.RowKit Go.Deep
theorem cells29 : Tryd.prog.cellsOf 29 = 2 := by kernel_rfl
theorem list2 {α : Type} : ∀ {l : List α}, l.length = 2 → ∃ a b, l = [a, b]
  | [a, b], _ => ⟨a, b, rfl⟩
theorem open_bytes {H : Type} {enc : TypeId × Value → H} {W : World} {fuel : Nat} {c : Value} {x : DataW H × List MemPlace}
    (h : DataW.trod enc Tryd.prog W 0 (fun _ => true) true fuel 22 [c] = some x) : ∃ l, Hb W c l := by
  rcases open_ints Tryd.underlying22 Tryd.underlying5 (by kernel_rfl) h with ⟨hcs, _⟩ | ⟨x, l, cp, zs, hcs, _, hl, hm, hz, hx, hcell, hwz⟩
  · simp at hcs
    subst hcs
    exact ⟨[], Hb.nil W⟩
  · simp at hcs
    subst hcs
    obtain ⟨l', hl', hb⟩ := row_hb (w := W) (a := some x) (len := l) (cap := cp) (zs := zs) (.inr ⟨_, rfl, hl, hm, by simpa using hz, hcell, hwz⟩)
    exact ⟨l', hb⟩
set_option maxRecDepth 100000 in
theorem open_frames {H : Type} {enc : TypeId × Value → H} {W : World} (fuel : Nat) (cs : List Value) (x : DataW H × List MemPlace)
    (h : DataW.trod enc Tryd.prog W 0 (fun _ => true) true fuel 33 cs = some x) : ∃ a n c fs, cs = [.slice a n c] ∧ n = fs.length ∧ n ≤ c ∧ c ≤ 9223372036854775807 ∧ FR W (.slice a n c) fs := by
  rcases DataW.trod_slice Tryd.underlying33 h with ⟨h4, _⟩ | ⟨a, len, cap, elems, rest, q, hq, h4, _, _, hl, hm, he, hx, _, _⟩
  · exact ⟨none, 0, 0, [], h4, rfl, Nat.le_refl _, by omega, none, 0, rfl, fun i k p hi => by simp at hi⟩
  · unfold maxLen at hm
    have each : ∀ i, i < len → ∃ r : (Int × List UInt8) × Value, ∃ B o, a = ⟨B, o, none⟩ ∧ W.cell? ⟨B, o + i * 2, none⟩ = some (.int .i64 r.1.1) ∧ W.cell? ⟨B, o + i * 2 + 1, none⟩ = some r.2 ∧ Hb W r.2 r.1.2 := by
      have open1 : ∀ i, i < len → ∃ c0 c1 k p, W.cells? 0 (a.add (i * 2)) 2 = some [c0, c1] ∧ c0 = .int .i64 k ∧ Hb W c1 p := by
        intro i hi
        have key := hx i hi
        rw [List.getElem?_eq_getElem (by omega)] at key
        obtain ⟨cs', k1, k2⟩ := Option.bind_eq_some_iff.1 key
        rw [cells29] at k1
        obtain ⟨xs, k, hk, hxy, hlen, hxl, hf⟩ := DataW.trod_struct Tryd.underlying29 k2
        rw [cells29] at hlen
        obtain ⟨c0, c1, rfl⟩ := list2 hlen
        obtain ⟨y0, y1, rfl⟩ := list2 (l := xs) hxl
        have g0 := hf 0 _ rfl
        have g1 := hf 1 _ rfl
        simp only [List.getElem?_cons_zero, List.getElem?_cons_succ] at g0 g1
        obtain ⟨n0, e0, _, w0⟩ := DataW.trod_int Tryd.underlying3 g0
        cases e0
        obtain ⟨p, hp⟩ := open_bytes g1
        exact ⟨_, _, n0, p, k1, rfl, hp⟩
      intro i hi
      obtain ⟨c0, c1, k, p, k1, rfl, hp⟩ := open1 i hi
      have hsp : a.spot = none := by
        obtain ⟨d0, d1, _, _, k10, _, _⟩ := open1 0 (by omega)
        obtain ⟨_, _, hcell0⟩ := World.cells?_some k10
        have q0 := hcell0 0 (by simp)
        rw [add_add] at q0
        have := plain_addr q0
        simpa [Addr.add] using this
      obtain ⟨_, _, hcell⟩ := World.cells?_some k1
      have p0 := hcell 0 (by simp)
      have p1 := hcell 1 (by simp)
      obtain ⟨B, o, sp⟩ := a
      cases hsp
      rw [add_plain, add_plain] at p0 p1
      exact ⟨((k, p), c1), B, o, rfl, by simpa using p0, by simpa using p1, hp⟩
    have inh : Inhabited ((Int × List UInt8) × Value) := ⟨(0, []), undef⟩
    obtain ⟨F, hF⟩ := choose_lt each
    refine ⟨some a, len, cap, (List.range len).map fun i => (F i).1, h4, by simp, hl, by omega, some a, cap, by simp, fun i k p hi => ?_⟩
    have hlt : i < len := by have := (List.getElem?_eq_some_iff.1 hi).1; simpa using this
    rw [List.getElem?_map, List.getElem?_range hlt] at hi
    obtain ⟨B, o, ha, h0, h1, hb⟩ := hF i hlt
    simp only [Option.map_some, Option.some.injEq] at hi
    rw [hi] at h0 hb
    exact ⟨B, o, _, by rw [ha], h0, h1, hb⟩
end Go.Proofs.YtpghnlighbfdoaaDoor
