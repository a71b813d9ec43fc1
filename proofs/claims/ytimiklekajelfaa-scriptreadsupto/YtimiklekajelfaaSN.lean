/- Arguments that are steps: as plain data, in memory. -/
import Derived.Test.YtimiklekajelfaaSA
import Derived.Deep.Slices
import Derived.ChangeArms
import Derived.ChangeSame
import Derived.OpenShut
namespace Go.Proofs.Ytimiklekajelfaa
open Go.ChangeShapes Go.WideShapes Go.ChangeAt Go.RowKit Go.Deep
theorem cells28 : Try.prog.cellsOf 28 = 5 := by kernel_rfl
/-- An address whose cell is read has no spot. -/
theorem plain_addr {w : World} {a : Addr} {v : Value} (h : w.cell? a = some v) : a.spot = none := by
  obtain ⟨b, o, s⟩ := a
  unfold World.cell? at h
  cases s with
  | none => rfl
  | some k => split at h <;> simp at h
theorem addp (b o i : Nat) : (⟨b, o, none⟩ : Addr).add i = ⟨b, o + i, none⟩ := by unfold Addr.add; split <;> simp_all
theorem list5 {α : Type} : ∀ {l : List α}, l.length = 5 → ∃ a b c d e, l = [a, b, c, d, e]
  | [a, b, c, d, e], _ => ⟨a, b, c, d, e, rfl⟩
theorem lo64 {x : Int} (h : (Lit.int .i64 x).wf = true) : In x := by
  have e : IntKind.i64.min = -9223372036854775808 := by decide +kernel
  simp only [Lit.wf, decide_eq_true_eq, Bool.and_eq_true] at h
  exact ⟨by rw [← e]; exact h.1, h.2⟩
section
variable {H : Type} {enc : TypeId × Value → H} {W : World} {base : Nat} {spare : Nat → Bool} {held : Bool}
theorem open_hb2 (fuel : Nat) (cs : List Value) (x : DataW H × List MemPlace) (h : DataW.trod enc Try.prog W base spare held fuel 23 cs = some x) : ∃ (a : Option Addr) (n c : Nat) (l : List UInt8), cs = [.slice a n c] ∧ HL eb (fun _ => True) W (.slice a n c) l ∧ (l = [] ∨ ∃ el sp, x.1 = .slice el sp ∧ el.length = l.length) := by
  rcases open_ints Try.underlying23 Try.underlying5 (by kernel_rfl) h with ⟨hcs, _⟩ | ⟨y, len, c, zs, hcs, _, hl, hm, hz, hx, hcell, hwz⟩
  · exact ⟨none, 0, 0, [], hcs, HL.nil _ _ _, .inl rfl⟩
  · have hzl : len ≤ zs.length := by
      have hz2 : zs.length = if spare y.block = true then c else len := by simpa using hz
      rw [hz2]
      split
      · exact hl
      · exact Nat.le_refl _
    have hlen : ((zs.take len).map fun z => UInt8.ofNat z.toNat).length = len := by rw [List.length_map, List.length_take]; omega
    unfold maxLen at hm
    refine ⟨some y, len, c, (zs.take len).map fun z => UInt8.ofNat z.toNat, hcs, ⟨some y, c, by rw [hlen], by rw [hlen]; exact hl, by omega, ?_⟩, .inr ⟨_, _, congrArg Prod.fst hx, by rw [hlen]; simp only [lits, List.length_map, List.length_take]; omega⟩⟩
    intro i u hu
    rw [List.getElem?_map] at hu
    obtain ⟨z, hz1, rfl⟩ := Option.map_eq_some_iff.1 hu
    have hi : i < (zs.take len).length := (List.getElem?_eq_some_iff.1 hz1).1
    rw [List.length_take] at hi
    rw [List.getElem?_take_of_lt (by omega)] at hz1
    have hw := hwz z (List.mem_of_getElem? hz1)
    simp only [Lit.wf, IntKind.min, IntKind.max, IntKind.signed, IntKind.bits, Bool.and_eq_true, decide_eq_true_eq, Bool.false_eq_true, if_false] at hw
    have hc := hcell i (by omega)
    rw [List.getD_eq_getElem?_getD, hz1] at hc
    have e : ((UInt8.ofNat z.toNat).toNat : Int) = z := by rw [UInt8.toNat_ofNat']; omega
    have hsp := plain_addr (hcell 0 (by omega))
    obtain ⟨B, o, sp⟩ := y
    have : sp = none := by simpa [Addr.add] using hsp
    subst this
    rw [addp] at hc
    refine ⟨B, o, rfl, trivial, ?_⟩
    unfold eb
    rw [e]
    exact hc
theorem open_hb (fuel : Nat) (cs : List Value) (x : DataW H × List MemPlace) (h : DataW.trod enc Try.prog W base spare held fuel 23 cs = some x) : ∃ (a : Option Addr) (n c : Nat) (l : List UInt8), cs = [.slice a n c] ∧ HL eb (fun _ => True) W (.slice a n c) l := by
  obtain ⟨a, n, c, l, h1, h2, _⟩ := open_hb2 fuel cs x h
  exact ⟨a, n, c, l, h1, h2⟩
theorem open_hk (fuel : Nat) (cs : List Value) (x : DataW H × List MemPlace) (h : DataW.trod enc Try.prog W base spare held fuel 26 cs = some x) : ∃ a n c l, cs = [.slice a n c] ∧ HL ei (fun _ => True) W (.slice a n c) l ∧ ∀ z ∈ l, In z := by
  rcases open_ints (by kernel_rfl : Try.prog.underlying 26 = some (.slice 3)) Try.underlying3 (by kernel_rfl) h with ⟨hcs, _⟩ | ⟨y, len, c, zs, hcs, _, hl, hm, hz, hx, hcell, hwz⟩
  · exact ⟨none, 0, 0, [], hcs, HL.nil _ _ _, fun z hz => by simp at hz⟩
  · have hzl : len ≤ zs.length := by
      have hz2 : zs.length = if spare y.block = true then c else len := by simpa using hz
      rw [hz2]
      split
      · exact hl
      · exact Nat.le_refl _
    have hlen : (zs.take len).length = len := by rw [List.length_take]; omega
    unfold maxLen at hm
    refine ⟨some y, len, c, zs.take len, hcs, ⟨some y, c, by rw [hlen], by rw [hlen]; exact hl, by omega, ?_⟩, fun z hz => lo64 (hwz z (List.mem_of_mem_take hz))⟩
    intro i u hu
    have hi : i < (zs.take len).length := (List.getElem?_eq_some_iff.1 hu).1
    rw [List.length_take] at hi
    rw [List.getElem?_take_of_lt (by omega)] at hu
    have hc := hcell i (by omega)
    rw [List.getD_eq_getElem?_getD, hu] at hc
    have hsp := plain_addr (hcell 0 (by omega))
    obtain ⟨B, o, sp⟩ := y
    have : sp = none := by simpa [Addr.add] using hsp
    subst this
    rw [addp] at hc
    exact ⟨B, o, rfl, trivial, hc⟩
theorem open_sp (fuel : Nat) (cs : List Value) (x : DataW H × List MemPlace) (h : DataW.trod enc Try.prog W base spare held fuel 28 cs = some x) :
    ∃ k s n vb vk b ks, cs = [.int .i64 k, .int .i64 s, .int .i64 n, vb, vk] ∧ IsV (fun _ => True) W vb vk ⟨k, s, n, b, ks⟩ ∧ WfS ⟨k, s, n, b, ks⟩ := by
  obtain ⟨xs, k, hk, hxy, hlen, hxl, hf⟩ := DataW.trod_struct Try.underlying28 h
  rw [cells28] at hlen
  obtain ⟨c0, c1, c2, c3, c4, rfl⟩ := list5 hlen
  obtain ⟨y0, y1, y2, y3, y4, rfl⟩ := list5 (l := xs) hxl
  have g0 := hf 0 _ rfl
  have g1 := hf 1 _ rfl
  have g2 := hf 2 _ rfl
  have g3 := hf 3 _ rfl
  have g4 := hf 4 _ rfl
  clear hf hxl hlen hxy h
  simp only [List.getElem?_cons_zero, List.getElem?_cons_succ] at g0 g1 g2 g3 g4
  obtain ⟨n0, e0, _, w0⟩ := DataW.trod_int Try.underlying3 g0
  obtain ⟨n1, e1, _, w1⟩ := DataW.trod_int Try.underlying3 g1
  obtain ⟨n2, e2, _, w2⟩ := DataW.trod_int Try.underlying3 g2
  obtain ⟨a3, m3, c3', b, e3, hb⟩ := open_hb _ _ _ g3
  obtain ⟨a4, m4, c4', ks, e4, hk4, hin⟩ := open_hk _ _ _ g4
  cases e0; cases e1; cases e2; cases e3; cases e4
  exact ⟨_, _, _, _, _, b, ks, rfl, ⟨hb, hk4⟩, lo64 w0, lo64 w1, lo64 w2, hin⟩
theorem open_sps (fuel : Nat) (cs : List Value) (x : DataW H × List MemPlace) (h : DataW.trod enc Try.prog W base spare held fuel 22 cs = some x) :
    ∃ (a : Option Addr) (c : Nat) (xs : List Sp), cs = [.slice a xs.length c] ∧ xs.length ≤ c ∧ c ≤ 9223372036854775807 ∧ LsS (fun _ => True) W a xs ∧ (∀ y ∈ xs, WfS y) ∧ (xs = [] ∨ ∃ el sp, x.1 = .slice el sp ∧ el.length = xs.length) := by
  rcases DataW.trod_slice (by kernel_rfl : Try.prog.underlying 22 = some (.slice 28)) h with ⟨h4, _⟩ | ⟨a, len, cap, elems, rest, q, hq, h4, heq, _, hl, hm, he, hx, _, _⟩
  · exact ⟨none, 0, [], h4, by decide, by decide, fun i t ht => by simp at ht, fun y hy => (by simp at hy), .inl rfl⟩
  · unfold maxLen at hm
    have each : ∀ i, i < len → ∃ r : (Value × Value) × Sp, ∃ B o, a = ⟨B, o, none⟩ ∧ AtS W B (o + i * 5) r.1.1 r.1.2 r.2 ∧ IsV (fun _ => True) W r.1.1 r.1.2 r.2 ∧ WfS r.2 := by
      intro i hi
      have key := hx i hi
      rw [List.getElem?_eq_getElem (by omega)] at key
      obtain ⟨cs', k1, k2⟩ := Option.bind_eq_some_iff.1 key
      obtain ⟨k, s, n, vb, vk, b, ks, rfl, hv, wf⟩ := open_sp q cs' _ k2
      rw [cells28] at k1
      obtain ⟨_, _, hcell⟩ := World.cells?_some k1
      have p0 := hcell 0 (by simp)
      have hsp : a.spot = none := by
        have key0 := hx 0 (by omega)
        rw [List.getElem?_eq_getElem (by omega)] at key0
        obtain ⟨cs0, k10, k20⟩ := Option.bind_eq_some_iff.1 key0
        obtain ⟨_, _, _, _, _, _, _, rfl, _⟩ := open_sp q cs0 _ k20
        rw [cells28] at k10
        obtain ⟨_, _, hcell0⟩ := World.cells?_some k10
        have q0 := hcell0 0 (by simp)
        rw [add_add] at q0
        have := plain_addr q0
        simpa [Addr.add] using this
      obtain ⟨B, o, sp⟩ := a
      cases hsp
      have ad : ∀ r, ((⟨B, o, none⟩ : Addr).add (i * 5)).add r = ⟨B, o + i * 5 + r, none⟩ := by
        intro r
        rw [addp, addp]
      have p1 := hcell 1 (by simp)
      have p2 := hcell 2 (by simp)
      have p3 := hcell 3 (by simp)
      have p4 := hcell 4 (by simp)
      rw [ad] at p0 p1 p2 p3 p4
      exact ⟨((vb, vk), ⟨k, s, n, b, ks⟩), B, o, rfl, ⟨by simpa using p0, by simpa using p1, by simpa using p2, by simpa using p3, by simpa using p4⟩, hv, wf⟩
    have inh : Inhabited ((Value × Value) × Sp) := ⟨((undef, undef), ⟨0, 0, 0, [], []⟩)⟩
    obtain ⟨F, hF⟩ := choose_lt each
    refine ⟨some a, cap, (List.range len).map fun i => (F i).2, by rw [h4]; simp, by simpa using hl, by omega, fun i t ht => ?_, fun y hy => ?_, .inr ⟨_, _, congrArg Prod.fst heq, by simp [he]⟩⟩
    · have hi : i < len := by have := (List.getElem?_eq_some_iff.1 ht).1; simpa using this
      rw [List.getElem?_map, List.getElem?_range hi] at ht
      cases ht
      obtain ⟨B, o, ha, h5, hI, _⟩ := hF i hi
      exact ⟨B, o, _, _, by rw [ha], trivial, h5, hI⟩
    · obtain ⟨i, hi, rfl⟩ := List.mem_map.1 hy
      obtain ⟨_, _, _, _, _, wf⟩ := hF i (List.mem_range.1 hi)
      exact wf
end
end Go.Proofs.Ytimiklekajelfaa
