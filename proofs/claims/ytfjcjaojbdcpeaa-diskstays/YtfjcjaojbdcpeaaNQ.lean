/- The contracts of unsure's closure and of IndexFunc. -/
import Derived.Test.YtfjcjaojbdcpeaaNP
namespace Go.Proofs.Ytfjcjaojbdcpeaa
open Go.ChangeShapes Go.WideShapes Go.ChangeAt Go.RowKit Go.Maps
set_option maxHeartbeats 1000000 in
set_option maxRecDepth 100000 in
theorem sure_calls (g b n q : Nat) (c0 c1 c2 : Value) (D : DataW Value) (a : Option Addr) (m c : Nat) (s : Int) (k : Int) (hk : (Lit.int .i64 k).wf = true) (w : World) (h : Bk w g #[c0, c1, c2, .map (some b)] 57) (hm : Zm w b n D) (hv : D.atKey (.int .i64 k) (.held zC) = .held (.agg #[.slice a m c, .int .i64 s])) (hq : w.cell? ⟨q, 0, none⟩ = some (.pointer (some ⟨g, 0, none⟩))) :
    Calls Try.prog 52 #[.int .i64 k, .pointer (some ⟨q, 0, none⟩)] w fun e w' => e = .returned (.bool (s == (m : Int))) ∧ Below w.heap.size w w' := by
  have lk := Zm.lookAll hk hv w hm
  have lkd := Zm.lookAll hk hv w.drew hm
  have hfd0 : ∀ w : World, (Instr.field 65 (.agg #[.slice a m c, .int .i64 s]) 0).run Try.prog w = .ok (.slice a m c) w := fun _ => by kernel_rfl
  have hfd1 : ∀ w : World, (Instr.field 65 (.agg #[.slice a m c, .int .i64 s]) 1).run Try.prog w = .ok (.int .i64 s) w := fun _ => by kernel_rfl
  have x3 : w.cell? ⟨g, 3, none⟩ = some (.map (some b)) := h.cell 3
  have HB0 : Hid (Below w.heap.size w w) := Below.refl _ _
  have HB1 : Hid (Below w.heap.size w w.drew) := (Below.refl _ w).drew
  clear h hm hv hk
  go_enter Try.func52, Try.ntmps52
  go_wp2_with fail
  go_region
  all_goals go_wp2_with fail
  all_goals go_ret
  all_goals first | exact ⟨rfl, HB0.out⟩ | exact ⟨rfl, HB1.out⟩
/-- The numbers zs lie in block B. -/
def Ih (w : World) (B : Nat) (zs : List Int) : Prop := ∀ (i : Nat) z, zs[i]? = some z → w.cell? ⟨B, i, none⟩ = some (.int .i64 z)
theorem Ih.below {w w' : World} {B : Nat} {zs : List Int} (h : Ih w B zs) (hb : Below w.heap.size w w') : Ih w' B zs := fun i z hz => cell_below (h i z hz) hb
/-- Where the first one of a list is of which P says true. -/
def IxP (P : Int → Bool) (zs : List Int) (w : World) (e : Ending) (w' : World) : Prop :=
  ((∃ (j : Nat) (z : Int), e = .returned (.int .i64 (j : Int)) ∧ zs[j]? = some z ∧ P z = true ∧ ∀ q z, q < j → zs[q]? = some z → P z = false) ∨ (e = .returned (.int .i64 (-1)) ∧ ∀ z ∈ zs, P z = false)) ∧ Below w.heap.size w w'
set_option maxHeartbeats 1000000 in
set_option maxRecDepth 100000 in
theorem index_calls (P : Int → Bool) (zs : List Int) (B n c : Nat) (hn : zs.length = n) (hs : n ≤ 1000) (q : Value) (w : World) (h : Ih w B zs) (hP : ∀ W, Below w.heap.size w W → ∀ z ∈ zs, Calls Try.prog 52 #[.int .i64 z, q] W fun e w' => e = .returned (.bool (P z)) ∧ Below W.heap.size W w') :
    Calls Try.prog 56 #[.slice (some ⟨B, 0, none⟩) n c, .func (.func 52) #[] #[q]] w (IxP P zs w) := by
  have HI : Hid (Ih w B zs) := h
  have HN : Hid (zs.length = n) := hn
  have HS : Hid (n ≤ 1000) := hs
  have HP : Hid (∀ W, Below w.heap.size w W → ∀ z ∈ zs, Calls Try.prog 52 #[.int .i64 z, q] W fun e w' => e = .returned (.bool (P z)) ∧ Below W.heap.size W w') := hP
  have HQ1 : Hid (∀ (j : Nat) (z : Int) w', zs[j]? = some z → P z = true → (∀ q z, q < j → zs[q]? = some z → P z = false) → Below w.heap.size w w' → IxP P zs w (.returned (.int .i64 (j : Int))) w') := fun j z w' h1 h2 h3 h4 => ⟨.inl ⟨j, z, rfl, h1, h2, h3⟩, h4⟩
  have HQ2 : Hid (∀ w', (∀ z ∈ zs, P z = false) → Below w.heap.size w w' → IxP P zs w (.returned (.int .i64 (-1))) w') := fun w' h1 h4 => ⟨.inr ⟨rfl, h1⟩, h4⟩
  generalize IxP P zs w = Q at HQ1 HQ2 ⊢
  clear h hn hs hP
  go_enter Try.func56, Try.ntmps56
  go_wp2_with fail
  go_loopw [5, 8] (fun _ i wr => ∃ j : Nat, j ≤ n ∧ i = .int .i64 (j : Int) ∧ Hid (∀ q z, q < j → zs[q]? = some z → P z = false) ∧ Hid (Below w.heap.size w wr)) (fun _ i _ => n - (intOf i).toNat)
  case atStart => exact ⟨0, Nat.zero_le _, rfl, fun q z hq => absurd hq (Nat.not_lt_zero _), Below.refl _ _⟩
  case round =>
    obtain ⟨j, hj, rfl, HF, HB⟩ := hrel
    by_cases hlt : j < n
    · have hjl : (j : Int) < (n : Int) := by omega
      have hj9 : (j : Int) < 1000 := by have := HS.out; omega
      obtain ⟨z, hz⟩ : ∃ z, zs[j]? = some z := ⟨_, List.getElem?_eq_getElem (by have := HN.out; omega)⟩
      have hc := (HI.out.below HB.out) j z hz
      have HZ : Hid (zs[j]? = some z) := hz
      have HC : Hid (Calls Try.prog 52 #[.int .i64 z, q] wr fun e w' => e = .returned (.bool (P z)) ∧ Below wr.heap.size wr w') := HP.out wr HB.out z (List.mem_of_getElem? hz)
      obtain ⟨pz, hpz⟩ : ∃ pz, pz = P z := ⟨_, rfl⟩
      rw [← hpz] at HC
      have HZP : Hid (pz = P z) := hpz
      clear hz hpz
      go_wp2_with fail
      refine HC.out.mono ?_
      rintro e w1 ⟨rfl, hb⟩
      have HB1 : Hid (Below w.heap.size w w1) := bel2 HB.out hb
      clear hb hc
      cases pz with
      | true =>
        go_wp2_with fail
        exact HQ1.out j z _ HZ.out HZP.out.symm HF.out HB1.out
      | false =>
        have HF2 : Hid (∀ q z, q < j + 1 → zs[q]? = some z → P z = false) := fun q z' hq hz' => by
          by_cases e : q = j
          · subst e; rw [HZ.out] at hz'; injection hz' with hz'; rw [← hz']; exact HZP.out.symm
          · exact HF.out q z' (by omega) hz'
        go_wp2_with fail
        refine ⟨⟨j + 1, hlt, by first | rfl | (rw [Int.natCast_add]; rfl), HF2, HB1⟩, ?_⟩
        simp only [intOf]
        omega
    · obtain rfl : j = n := by omega
      go_wp2_with fail
      refine HQ2.out _ (fun z hz => ?_) HB.out
      obtain ⟨i, hi⟩ := List.getElem?_of_mem hz
      exact HF.out i z (by have := (List.getElem?_eq_some_iff.1 hi).1; have := HN.out; omega) hi
end Go.Proofs.Ytfjcjaojbdcpeaa
