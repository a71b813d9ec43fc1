/- An argument that is a list of segments, or of numbers; the walk of SegmentChains. -/
import Derived.Test.YthakbkkopneilaaDoorCI
import Derived.Test.YthakbkkopneilaaDoorCJ
namespace Go.Proofs.YthakbkkopneilaaDoor
open Go.ChangeShapes Go.WideShapes Go.ChangeAt Go.RowKit Go.Deep
theorem cells30 : Tryd.prog.cellsOf 30 = 7 := by kernel_rfl
theorem z30 (w : World) : (Go.sizeOf 30).run Tryd.prog w = .ok 7 w := by kernel_rfl
theorem z3 (w : World) : (Go.sizeOf 3).run Tryd.prog w = .ok 1 w := by kernel_rfl
theorem elem36 : Tryd.prog.elem 36 = 30 := by kernel_rfl
theorem elem37 : Tryd.prog.elem 37 = 3 := by kernel_rfl
theorem und36 : Tryd.prog.underlying 36 = some (.slice (Tryd.prog.elem 36)) := by kernel_rfl
theorem und37 : Tryd.prog.underlying 37 = some (.slice (Tryd.prog.elem 37)) := by kernel_rfl
theorem cut_h36 (a : Option Addr) (n c m : Nat) (h : m ≤ c) (W : World) : (Instr.slice 36 (.slice a n c) none (some (.int .i64 (m : Int))) none).run Tryd.prog W = .ok (.slice a m c) W := by
  rw [run_slice_h W 36 a n c und36 .i64 m (by omega) (by omega), elem36, z30]
  cases a <;> simp [Result.andThen, sliced, add_zero']
theorem cut_h37 (a : Option Addr) (n c m : Nat) (h : m ≤ c) (W : World) : (Instr.slice 37 (.slice a n c) none (some (.int .i64 (m : Int))) none).run Tryd.prog W = .ok (.slice a m c) W := by
  rw [run_slice_h W 37 a n c und37 .i64 m (by omega) (by omega), elem37, z3]
  cases a <;> simp [Result.andThen, sliced, add_zero']
theorem list7 {α : Type} : ∀ {l : List α}, l.length = 7 → ∃ a b c d e f g, l = [a, b, c, d, e, f, g]
  | [a, b, c, d, e, f, g], _ => ⟨a, b, c, d, e, f, g, rfl⟩
theorem lo64 {a : Int} (h : (Lit.int .i64 a).wf = true) : -9223372036854775808 ≤ a ∧ a ≤ 9223372036854775807 := by
  simp only [Lit.wf, IntKind.min, IntKind.max, IntKind.signed, IntKind.bits, Bool.and_eq_true, decide_eq_true_eq, if_true] at h
  omega
theorem slice_shape {H : Type} {enc : TypeId × Value → H} {W : World} {fuel t e : Nat} {c : Value} {x : DataW H × List MemPlace} (hu : Tryd.prog.underlying t = some (.slice e))
    (h : DataW.trod enc Tryd.prog W 0 (fun _ => true) true fuel t [c] = some x) : ∃ a n m, c = .slice a n m ∧ n ≤ 9223372036854775807 := by
  rcases DataW.trod_slice hu h with ⟨h4, _⟩ | ⟨a, len, cap, elems, rest, q, hq, h4, _, _, hl, hm, _⟩
  · cases h4
    exact ⟨none, 0, 0, rfl, by omega⟩
  · cases h4
    unfold maxLen at hm
    exact ⟨_, _, _, rfl, by omega⟩
set_option maxRecDepth 100000 in
theorem open_segs {H : Type} {enc : TypeId × Value → H} {W : World} (fuel : Nat) (cs : List Value) (x : DataW H × List MemPlace)
    (h : DataW.trod enc Tryd.prog W 0 (fun _ => true) true fuel 36 cs = some x) : ∃ a n c l, cs = [.slice a n c] ∧ n = l.length ∧ n ≤ c ∧ c ≤ 9223372036854775807 ∧ SrA W (.slice a n c) l ∧ ∀ (i : Nat) s, l[i]? = some s → SgF s := by
  rcases DataW.trod_slice Tryd.underlying36 h with ⟨h4, _⟩ | ⟨a, len, cap, elems, rest, q, hq, h4, _, _, hl, hm, he, hx, _, _⟩
  · exact ⟨none, 0, 0, [], h4, rfl, Nat.le_refl _, by omega, ⟨none, 0, rfl, fun i p hi => by simp at hi⟩, fun i s hi => by simp at hi⟩
  · unfold maxLen at hm
    have open1 : ∀ i, i < len → ∃ (s : Sg) (xa : Option Addr) (xn xc : Nat) (ra : Option Addr) (rc : Nat) (z : Int), W.cells? 0 (a.add (i * 7)) 7 = some [.int .i64 s.n, .int .i64 s.f, .bool s.hs, .slice xa xn xc, .slice ra s.rn rc, .int .i64 z, .bool s.tn] ∧ SgF s := by
      intro i hi
      have key := hx i hi
      rw [List.getElem?_eq_getElem (by omega)] at key
      obtain ⟨cs', k1, k2⟩ := Option.bind_eq_some_iff.1 key
      rw [cells30] at k1
      obtain ⟨xs, k, hk, hxy, hlen, hxl, hf⟩ := DataW.trod_struct Tryd.underlying30 k2
      rw [cells30] at hlen
      obtain ⟨c0, c1, c2, c3, c4, c5, c6, rfl⟩ := list7 hlen
      obtain ⟨y0, y1, y2, y3, y4, y5, y6, rfl⟩ := list7 (l := xs) hxl
      have g0 := hf 0 _ rfl
      have g1 := hf 1 _ rfl
      have g2 := hf 2 _ rfl
      have g3 := hf 3 _ rfl
      have g4 := hf 4 _ rfl
      have g5 := hf 5 _ rfl
      have g6 := hf 6 _ rfl
      simp only [List.getElem?_cons_zero, List.getElem?_cons_succ] at g0 g1 g2 g3 g4 g5 g6
      obtain ⟨n0, e0, _, w0⟩ := DataW.trod_int Tryd.underlying3 g0
      obtain ⟨n1, e1, _, w1⟩ := DataW.trod_int Tryd.underlying3 g1
      obtain ⟨b2, e2, _⟩ := DataW.trod_bool Tryd.underlying4 g2
      obtain ⟨xa, xn, xc, e3, _⟩ := slice_shape Tryd.underlying22 g3
      obtain ⟨ra, rn, rc, e4, hrn⟩ := slice_shape Tryd.underlying28 g4
      obtain ⟨n5, e5, _, w5⟩ := DataW.trod_int Tryd.underlying3 g5
      obtain ⟨b6, e6, _⟩ := DataW.trod_bool Tryd.underlying4 g6
      cases e0; cases e1; cases e2; cases e5; cases e6
      subst e3 e4
      exact ⟨⟨n0, n1, b2, rn, b6⟩, xa, xn, xc, ra, rc, n5, k1, ⟨hrn, (lo64 w1).1, (lo64 w1).2⟩, (lo64 w0).1, (lo64 w0).2⟩
    have each : ∀ i, i < len → ∃ s : Sg, ∃ B o, a = ⟨B, o, none⟩ ∧ SgAll W B (o + i * 7) s ∧ SgF s := by
      intro i hi
      obtain ⟨s, xa, xn, xc, ra, rc, z, k1, hs⟩ := open1 i hi
      have hsp : a.spot = none := by
        obtain ⟨s0, _, _, _, _, _, _, k10, _⟩ := open1 0 (by omega)
        obtain ⟨_, _, hcell0⟩ := World.cells?_some k10
        have q0 := hcell0 0 (by simp)
        rw [add_add] at q0
        have := plain_addr q0
        simpa [Addr.add] using this
      obtain ⟨_, _, hcell⟩ := World.cells?_some k1
      have p0 := hcell 0 (by simp)
      have p1 := hcell 1 (by simp)
      have p2 := hcell 2 (by simp)
      have p3 := hcell 3 (by simp)
      have p4 := hcell 4 (by simp)
      have p5 := hcell 5 (by simp)
      have p6 := hcell 6 (by simp)
      obtain ⟨B, o, sp⟩ := a
      cases hsp
      rw [add_plain, add_plain] at p0 p1 p2 p3 p4 p5 p6
      exact ⟨s, B, o, rfl, ⟨⟨by simpa using p0, by simpa using p1, by simpa using p2, ⟨ra, rc, by simpa using p4⟩, by simpa using p6⟩, ⟨xa, xn, xc, by simpa using p3⟩, ⟨z, by simpa using p5⟩⟩, hs⟩
    have inh : Inhabited Sg := ⟨⟨0, 0, false, 0, false⟩⟩
    obtain ⟨F, hF⟩ := choose_lt each
    refine ⟨some a, len, cap, (List.range len).map F, h4, by simp, hl, by omega, ⟨some a, cap, by simp, fun i s hi => ?_⟩, fun i s hi => ?_⟩
    · have hlt : i < len := by have := (List.getElem?_eq_some_iff.1 hi).1; simpa using this
      rw [List.getElem?_map, List.getElem?_range hlt] at hi
      simp only [Option.map_some, Option.some.injEq] at hi
      obtain ⟨B, o, ha, h0, _⟩ := hF i hlt
      rw [hi] at h0
      exact ⟨B, o, by rw [ha], h0⟩
    · have hlt : i < len := by have := (List.getElem?_eq_some_iff.1 hi).1; simpa using this
      rw [List.getElem?_map, List.getElem?_range hlt] at hi
      simp only [Option.map_some, Option.some.injEq] at hi
      obtain ⟨_, _, _, _, h1⟩ := hF i hlt
      rw [hi] at h1
      exact h1
end Go.Proofs.YthakbkkopneilaaDoor
