/- An argument that is a value: it is a tree, in memory. -/
import Derived.Test.YtjmonkhkcmcfiaaVA
import Derived.Deep.Slices
import Derived.ChangeArms
import Derived.ChangeSame
namespace Go.Proofs.Ytjmonkhkcmcfiaa
open Go.ChangeShapes Go.WideShapes Go.ChangeAt Go.RowKit Go.Deep
theorem cells25 : Try.prog.cellsOf 25 = 5 := by kernel_rfl
/-- An address whose cell is read has no spot. -/
theorem plain_addr {w : World} {a : Addr} {v : Value} (h : w.cell? a = some v) : a.spot = none := by
  obtain ⟨b, o, s⟩ := a
  unfold World.cell? at h
  cases s with
  | none => rfl
  | some k => split at h <;> simp at h
theorem addp (b o i : Nat) : (⟨b, o, none⟩ : Addr).add i = ⟨b, o + i, none⟩ := by unfold Addr.add; split <;> simp_all
theorem list5 {α : Type} : ∀ {l : List α}, l.length = 5 → ∃ a b c d e, l = [a, b, c, d, e]
  | [a, b, c, d, e], _ => ⟨a, b, c, d, e, rfl⟩
theorem lo64 {x : Int} (h : (Lit.int .i64 x).wf = true) : -9223372036854775808 ≤ x ∧ x ≤ 9223372036854775807 := by
  have e : IntKind.i64.min = -9223372036854775808 := by decide +kernel
  simp only [Lit.wf, decide_eq_true_eq, Bool.and_eq_true] at h
  exact ⟨by rw [← e]; exact h.1, h.2⟩
theorem lou64 {x : Int} (h : (Lit.int .u64 x).wf = true) : 0 ≤ x ∧ x ≤ 18446744073709551615 := by
  have e : IntKind.u64.min = 0 := by decide +kernel
  simp only [Lit.wf, decide_eq_true_eq, Bool.and_eq_true] at h
  exact ⟨by rw [← e]; exact h.1, h.2⟩
set_option maxRecDepth 100000 in
theorem open_val {H : Type} {enc : TypeId × Value → H} {W : World} {base : Nat} {spare : Nat → Bool} {held : Bool} : ∀ (fuel : Nat) (cs : List Value) (x : DataW H × List MemPlace),
    DataW.trod enc Try.prog W base spare held fuel 25 cs = some x → ∃ c0 c1 c2 c3 c4 t n, cs = [c0, c1, c2, c3, c4] ∧ Is W n (.agg #[c0, c1, c2, c3, c4]) t := by
  intro fuel
  induction fuel using Nat.strongRecOn with
  | _ fuel ih =>
    intro cs x h
    obtain ⟨xs, k, hk, hxy, hlen, hxl, hf⟩ := DataW.trod_struct Try.underlying25 h
    rw [cells25] at hlen
    obtain ⟨c0, c1, c2, c3, c4, rfl⟩ := list5 hlen
    obtain ⟨y0, y1, y2, y3, y4, rfl⟩ := list5 (l := xs) hxl
    have g0 := hf 0 _ rfl
    have g1 := hf 1 _ rfl
    have g2 := hf 2 _ rfl
    have g3 := hf 3 _ rfl
    have g4 := hf 4 _ rfl
    clear hf hxl hlen hxy h
    simp only [List.getElem?_cons_zero, List.getElem?_cons_succ] at g0 g1 g2 g3 g4
    obtain ⟨n0, e0, _, w0⟩ := DataW.trod_int Try.underlying3 g0
    obtain ⟨n1, e1, _, w1⟩ := DataW.trod_int Try.underlying3 g1
    obtain ⟨n2, e2, _, w2⟩ := DataW.trod_int Try.underlying22 g2
    obtain ⟨s3, e3, _, w3⟩ := DataW.trod_string Try.underlying9 g3
    cases e0; cases e1; cases e2; cases e3
    unfold maxLen at w3
    rcases DataW.trod_slice Try.underlying23 g4 with ⟨h4, _⟩ | ⟨a, len, cap, elems, rest, q, hq, h4, _, _, hl, hm, he, hx, _, _⟩
    · cases h4
      exact ⟨_, _, _, _, _, .mk n0 n1 n2 s3 [], 1, rfl, none, 0, rfl, ⟨(lo64 w0).1, (lo64 w0).2, (lo64 w1).1, (lo64 w1).2, (lou64 w2).1, (lou64 w2).2, by omega, Nat.le_refl _, by omega⟩, fun i t ht => by simp at ht⟩
    · cases h4
      unfold maxLen at hm
      have each : ∀ i, i < len → ∃ r : (Value × Value × Value × Value × Value) × Tv × Nat, ∃ B o, a = ⟨B, o, none⟩ ∧ At5 W B (o + i * 5) r.1.1 r.1.2.1 r.1.2.2.1 r.1.2.2.2.1 r.1.2.2.2.2 ∧ Is W r.2.2 (.agg #[r.1.1, r.1.2.1, r.1.2.2.1, r.1.2.2.2.1, r.1.2.2.2.2]) r.2.1 := by
        intro i hi
        have key := hx i hi
        rw [List.getElem?_eq_getElem (by omega)] at key
        obtain ⟨cs', k1, k2⟩ := Option.bind_eq_some_iff.1 key
        obtain ⟨d0, d1, d2, d3, d4, t, n, rfl, hi'⟩ := ih q (by omega) cs' _ k2
        rw [cells25] at k1
        obtain ⟨_, _, hcell⟩ := World.cells?_some k1
        have p0 := hcell 0 (by simp)
        have hsp : a.spot = none := by
          have key0 := hx 0 (by omega)
          rw [List.getElem?_eq_getElem (by omega)] at key0
          obtain ⟨cs0, k10, k20⟩ := Option.bind_eq_some_iff.1 key0
          obtain ⟨f0, f1, f2, f3, f4, _, _, rfl, _⟩ := ih q (by omega) cs0 _ k20
          rw [cells25] at k10
          obtain ⟨_, _, hcell0⟩ := World.cells?_some k10
          have q0 := hcell0 0 (by simp)
          rw [add_add] at q0
          have := plain_addr q0
          simpa [Addr.add] using this
        obtain ⟨B, o, sp⟩ := a
        cases hsp
        have ad : ∀ r, ((⟨B, o, none⟩ : Addr).add (i * 5)).add r = ⟨B, o + i * 5 + r, none⟩ := by
          intro r
          rw [addp, addp]
        have p1 := hcell 1 (by simp)
        have p2 := hcell 2 (by simp)
        have p3 := hcell 3 (by simp)
        have p4 := hcell 4 (by simp)
        rw [ad] at p0 p1 p2 p3 p4
        exact ⟨((d0, d1, d2, d3, d4), t, n), B, o, rfl, ⟨by simpa using p0, by simpa using p1, by simpa using p2, by simpa using p3, by simpa using p4⟩, hi'⟩
      have inh : Inhabited ((Value × Value × Value × Value × Value) × Tv × Nat) := ⟨(undef, undef, undef, undef, undef), .mk 0 0 0 ⟨#[]⟩ [], 0⟩
      obtain ⟨F, hF⟩ := choose_lt each
      obtain ⟨N, hN⟩ := fuel_lt (n := len) (q := fun i N => (F i).2.2 ≤ N) (fun _ _ _ h h' => Nat.le_trans h' h) (fun i _ => ⟨_, Nat.le_refl _⟩)
      refine ⟨_, _, _, _, _, .mk n0 n1 n2 s3 ((List.range len).map fun i => (F i).2.1), N + 1, rfl, some a, cap, ?_, ?_, ?_⟩
      · simp
      · exact ⟨(lo64 w0).1, (lo64 w0).2, (lo64 w1).1, (lo64 w1).2, (lou64 w2).1, (lou64 w2).2, by omega, by simpa using hl, by omega⟩
      · intro i t ht
        have hi : i < len := by have := (List.getElem?_eq_some_iff.1 ht).1; simpa using this
        rw [List.getElem?_map, List.getElem?_range hi] at ht
        cases ht
        obtain ⟨B, o, ha, h5, hI⟩ := hF i hi
        exact ⟨B, o, _, _, _, _, _, by rw [ha], h5, hI.up (hN i hi)⟩
end Go.Proofs.Ytjmonkhkcmcfiaa
