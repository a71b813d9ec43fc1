/- An argument that is a value: it is a tree, in memory, whose texts are no longer than memory allows. -/
import Derived.Test.YtobblioplfpndaaVJ
import Derived.Test.YtobblioplfpndaaWD
import Derived.SizedLaws
namespace Go.Proofs.Ytobblioplfpndaa
open Go.ChangeShapes Go.WideShapes Go.ChangeAt Go.RowKit Go.Deep
/-- All texts of a value are no longer than memory allows. -/
inductive TxtOk : Tv → Prop where
  | mk {k x b : Int} {s : ByteArray} {l : List Tv} : s.size ≤ 140737488355328 → (∀ (i : Nat) t, l[i]? = some t → TxtOk t) → TxtOk (.mk k x b s l)
theorem TxtOk.two {t : Tv} (h : TxtOk t) : Txt2 t := by
  cases h with
  | mk hs hl =>
    intro i k x b s l1 h1 q k2 x2 b2 s2 l2 h2
    cases hl i _ h1 with
    | mk _ hl1 =>
      cases hl1 q _ h2 with
      | mk hs2 _ => exact hs2
theorem mem_weightsAll {H : Type} {e : TypeId} {d : DataW H} : ∀ {l : List (DataW H)} {m : Nat}, d ∈ l → m ∈ d.weights Try.prog e → m ∈ DataW.weightsAll Try.prog e l
  | [], _, h, _ => by cases h
  | y :: ys, m, h, hm => by
    simp only [DataW.weightsAll, List.mem_append]
    rcases List.mem_cons.1 h with rfl | h
    · exact Or.inl hm
    · exact Or.inr (mem_weightsAll h hm)
set_option maxRecDepth 100000 in
theorem open_val2 {H : Type} {enc : TypeId × Value → H} {W : World} {base : Nat} {spare : Nat → Bool} {held : Bool} : ∀ (fuel : Nat) (cs : List Value) (x : DataW H × List MemPlace),
    DataW.trod enc Try.prog W base spare held fuel 25 cs = some x → (∀ m ∈ x.1.weights Try.prog 25, m ≤ 140737488355328) → ∃ c0 c1 c2 c3 c4 t n, cs = [c0, c1, c2, c3, c4] ∧ Is W n (.agg #[c0, c1, c2, c3, c4]) t ∧ TxtOk t := by
  intro fuel
  induction fuel using Nat.strongRecOn with
  | _ fuel ih =>
    intro cs x h hw
    obtain ⟨xs, k, hk, hxy, hlen, hxl, hf⟩ := DataW.trod_struct Try.underlying25 h
    rw [cells25] at hlen
    obtain ⟨c0, c1, c2, c3, c4, rfl⟩ := list5 hlen
    obtain ⟨y0, y1, y2, y3, y4, rfl⟩ := list5 (l := xs) hxl
    have g0 := hf 0 _ rfl
    have g1 := hf 1 _ rfl
    have g2 := hf 2 _ rfl
    have g3 := hf 3 _ rfl
    have g4 := hf 4 _ rfl
    subst hxy
    have hws : ∀ m ∈ DataW.weightsEach Try.prog [3, 3, 22, 9, 23] [y0.1, y1.1, y2.1, y3.1, y4.1], m ≤ 140737488355328 := fun m hm => hw m (by
      have e : DataW.weights Try.prog 25 (DataW.agg ([y0, y1, y2, y3, y4].map (·.1))) = DataW.weightsEach Try.prog [3, 3, 22, 9, 23] [y0.1, y1.1, y2.1, y3.1, y4.1] := by
        simp only [DataW.weights, Try.underlying25]
        rfl
      rw [e]
      exact hm)
    clear hf hxl hlen h hw
    simp only [List.getElem?_cons_zero, List.getElem?_cons_succ] at g0 g1 g2 g3 g4
    obtain ⟨n0, e0, _, w0⟩ := DataW.trod_int Try.underlying3 g0
    obtain ⟨n1, e1, _, w1⟩ := DataW.trod_int Try.underlying3 g1
    obtain ⟨n2, e2, _, w2⟩ := DataW.trod_int Try.underlying22 g2
    obtain ⟨s3, e3, ey3, w3⟩ := DataW.trod_string Try.underlying9 g3
    cases e0; cases e1; cases e2; cases e3
    have hs3 : s3.size ≤ 140737488355328 := by
      refine hws _ (DataW.weights_mem_each (j := 3) (t := 9) (d := y3.1) rfl rfl _ ?_)
      rw [ey3]
      simp [DataW.weights]
    have hw4 : ∀ m ∈ y4.1.weights Try.prog 23, m ≤ 140737488355328 := fun m hm => hws m (DataW.weights_mem_each (j := 4) (t := 23) (d := y4.1) rfl rfl m hm)
    unfold maxLen at w3
    rcases DataW.trod_slice Try.underlying23 g4 with ⟨h4, _⟩ | ⟨a, len, cap, elems, rest, q, hq, h4, ey4, _, hl, hm, he, hx, _, _⟩
    · cases h4
      exact ⟨_, _, _, _, _, .mk n0 n1 n2 s3 [], 1, rfl, ⟨none, 0, rfl, ⟨(lo64 w0).1, (lo64 w0).2, (lo64 w1).1, (lo64 w1).2, (lou64 w2).1, (lou64 w2).2, by omega, Nat.le_refl _, by omega⟩, fun i t ht => by simp at ht⟩, TxtOk.mk hs3 (fun i t ht => by simp at ht)⟩
    · cases h4
      unfold maxLen at hm
      have hwe : ∀ (i : Nat) y, elems[i]? = some y → ∀ m ∈ y.1.weights Try.prog 25, m ≤ 140737488355328 := fun i y hy m hm' => hw4 m (by
        rw [ey4]
        simp only [DataW.weights, Try.underlying23, List.mem_cons, List.mem_append]
        exact Or.inr (Or.inl (mem_weightsAll (List.mem_map.2 ⟨y, List.mem_of_getElem? hy, rfl⟩) hm')))
      have each : ∀ i, i < len → ∃ r : (Value × Value × Value × Value × Value) × Tv × Nat, ∃ B o, a = ⟨B, o, none⟩ ∧ At5 W B (o + i * 5) r.1.1 r.1.2.1 r.1.2.2.1 r.1.2.2.2.1 r.1.2.2.2.2 ∧ Is W r.2.2 (.agg #[r.1.1, r.1.2.1, r.1.2.2.1, r.1.2.2.2.1, r.1.2.2.2.2]) r.2.1 ∧ TxtOk r.2.1 := by
        intro i hi
        have key := hx i hi
        rw [List.getElem?_eq_getElem (by omega)] at key
        obtain ⟨cs', k1, k2⟩ := Option.bind_eq_some_iff.1 key
        obtain ⟨d0, d1, d2, d3, d4, t, n, rfl, hi', hT'⟩ := ih q (by omega) cs' _ k2 (hwe i _ (List.getElem?_eq_getElem (by omega)))
        rw [cells25] at k1
        obtain ⟨_, _, hcell⟩ := World.cells?_some k1
        have p0 := hcell 0 (by simp)
        have hsp : a.spot = none := by
          have key0 := hx 0 (by omega)
          rw [List.getElem?_eq_getElem (by omega)] at key0
          obtain ⟨cs0, k10, k20⟩ := Option.bind_eq_some_iff.1 key0
          obtain ⟨f0, f1, f2, f3, f4, _, _, rfl, _⟩ := ih q (by omega) cs0 _ k20 (hwe 0 _ (List.getElem?_eq_getElem (by omega)))
          rw [cells25] at k10
          obtain ⟨_, _, hcell0⟩ := World.cells?_some k10
          have q0 := hcell0 0 (by simp)
          rw [add_add] at q0
          have := plain_addr q0
          simpa [Addr.add] using this
        obtain ⟨B, o, sp⟩ := a
        cases hsp
        have ad : ∀ r, ((⟨B, o, none⟩ : Addr).add (i * 5)).add r = ⟨B, o + i * 5 + r, none⟩ := by
          intro r
          rw [addp, addp]
        have p1 := hcell 1 (by simp)
        have p2 := hcell 2 (by simp)
        have p3 := hcell 3 (by simp)
        have p4 := hcell 4 (by simp)
        rw [ad] at p0 p1 p2 p3 p4
        exact ⟨((d0, d1, d2, d3, d4), t, n), B, o, rfl, ⟨by simpa using p0, by simpa using p1, by simpa using p2, by simpa using p3, by simpa using p4⟩, hi', hT'⟩
      have inh : Inhabited ((Value × Value × Value × Value × Value) × Tv × Nat) := ⟨(undef, undef, undef, undef, undef), .mk 0 0 0 ⟨#[]⟩ [], 0⟩
      obtain ⟨F, hF⟩ := choose_lt each
      obtain ⟨N, hN⟩ := fuel_lt (n := len) (q := fun i N => (F i).2.2 ≤ N) (fun _ _ _ h h' => Nat.le_trans h' h) (fun i _ => ⟨_, Nat.le_refl _⟩)
      refine ⟨_, _, _, _, _, .mk n0 n1 n2 s3 ((List.range len).map fun i => (F i).2.1), N + 1, rfl, ⟨some a, cap, ?_, ?_, ?_⟩, ?_⟩
      · simp
      · exact ⟨(lo64 w0).1, (lo64 w0).2, (lo64 w1).1, (lo64 w1).2, (lou64 w2).1, (lou64 w2).2, by omega, by simpa using hl, by omega⟩
      · intro i t ht
        have hi : i < len := by have := (List.getElem?_eq_some_iff.1 ht).1; simpa using this
        rw [List.getElem?_map, List.getElem?_range hi] at ht
        cases ht
        obtain ⟨B, o, ha, h5, hI, _⟩ := hF i hi
        exact ⟨B, o, _, _, _, _, _, by rw [ha], h5, hI.up (hN i hi)⟩
      · refine TxtOk.mk hs3 (fun i t ht => ?_)
        have hi : i < len := by have := (List.getElem?_eq_some_iff.1 ht).1; simpa using this
        rw [List.getElem?_map, List.getElem?_range hi] at ht
        cases ht
        obtain ⟨_, _, _, _, _, hT⟩ := hF i hi
        exact hT
end Go.Proofs.Ytobblioplfpndaa
