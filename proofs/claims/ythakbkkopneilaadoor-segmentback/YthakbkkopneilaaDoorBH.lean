/- The contracts of slices.Clone over bytes and slices.Index over ints. -/
import Derived.Test.YthakbkkopneilaaDoorY
namespace Go.Proofs.YthakbkkopneilaaDoor
open Go.ChangeShapes Go.WideShapes Go.ChangeAt Go.RowKit
theorem SegAt.all7 {w : World} {g : Nat} {c0 c1 c2 c3 c4 c5 c6 : Value} (h : SegAt w g c0 c1 c2 c3 c4 c5 c6) : w.cell? ⟨g, 0, none⟩ = some c0 ∧ w.cell? ⟨g, 1, none⟩ = some c1 ∧ w.cell? ⟨g, 2, none⟩ = some c2 ∧ w.cell? ⟨g, 3, none⟩ = some c3 ∧ w.cell? ⟨g, 4, none⟩ = some c4 ∧ w.cell? ⟨g, 5, none⟩ = some c5 ∧ w.cell? ⟨g, 6, none⟩ = some c6 ∧ w.frozen? ⟨g, 0, none⟩ = false ∧ w.frozen? ⟨g, 1, none⟩ = false ∧ w.frozen? ⟨g, 2, none⟩ = false ∧ w.frozen? ⟨g, 3, none⟩ = false ∧ w.frozen? ⟨g, 4, none⟩ = false ∧ w.frozen? ⟨g, 5, none⟩ = false ∧ w.frozen? ⟨g, 6, none⟩ = false :=
  ⟨by rw [h.cell 0]; rfl, by rw [h.cell 1]; rfl, by rw [h.cell 2]; rfl, by rw [h.cell 3]; rfl, by rw [h.cell 4]; rfl, by rw [h.cell 5]; rfl, by rw [h.cell 6]; rfl, h.free 0, h.free 1, h.free 2, h.free 3, h.free 4, h.free 5, h.free 6⟩
/-- v is the list of whole numbers zs. -/
def Ir (w : World) (v : Value) (zs : List Int) : Prop :=
  ∃ a c, v = .slice a zs.length c ∧ ∀ (i : Nat) z, zs[i]? = some z → ∃ B o, a = some ⟨B, o, none⟩ ∧ w.cell? ⟨B, o + i, none⟩ = some (.int .i64 z)
set_option maxHeartbeats 1000000 in
set_option maxRecDepth 100000 in
theorem index_calls (v : Value) (zs : List Int) (x : Int) (j : Nat) (w : World) (hv : Ir w v zs) (hj : zs[j]? = some x) (hf : ∀ i, i < j → zs[i]? ≠ some x) (hl : zs.length ≤ 1000000000) :
    Calls Tryd.prog 24 #[v, .int .i64 x] w fun e w' => e = .returned (.int .i64 (j : Int)) ∧ w' = w := by
  obtain ⟨a, c, rfl, h⟩ := hv
  have HV : Hid (∀ (i : Nat) z, zs[i]? = some z → ∃ B o, a = some ⟨B, o, none⟩ ∧ w.cell? ⟨B, o + i, none⟩ = some (.int .i64 z)) := h
  have HF : Hid (∀ i, i < j → zs[i]? ≠ some x) := hf
  have HJ : Hid (zs[j]? = some x) := hj
  have HJL : Hid (j < zs.length ∧ zs.length ≤ 1000000000) := ⟨(List.getElem?_eq_some_iff.1 hj).1, hl⟩
  clear h hf hj hl
  go_enter Tryd.func24, Tryd.ntmps24
  go_wp2_with fail
  go_loop [8] (fun i => ∃ k : Nat, k ≤ j ∧ i = .int .i64 k) (fun i => j - (intOf i).toNat)
  case atStart => exact ⟨0, Nat.zero_le _, rfl⟩
  case round =>
    obtain ⟨k, hk, rfl⟩ := hrel
    have hkl : (k : Int) < (zs.length : Int) := by have := HJL.out; omega
    have hk9 : (k : Int) < 1000000000 := by have := HJL.out; omega
    have hkn : k < zs.length := by omega
    obtain ⟨y, hy⟩ : ∃ y, zs[k]? = some y := ⟨_, List.getElem?_eq_getElem hkn⟩
    obtain ⟨B, o, rfl, hc⟩ := HV.out k y hy
    have HY : Hid (zs[k]? = some y) := hy
    clear hy
    by_cases he : x = y
    · have ek : k = j := by
        rcases Nat.lt_or_ge k j with h | h
        · exact absurd (by rw [HY.out, he]) (HF.out k h)
        · omega
      have EK : Hid (k = j) := ek
      have d : (x == y) = true := by simp [he]
      clear he hk ek
      go_wp2_with fail
      go_ret
      rw [EK.out]
      exact ⟨rfl, rfl⟩
    · have d : (x == y) = false := by simp [he]
      have hlt : k < j := by
        rcases Nat.lt_or_ge k j with h | h
        · exact h
        · have e : k = j := by omega
          subst e
          have := HJ.out
          rw [HY.out] at this
          injection this with this
          exact absurd this.symm he
      have HLT : Hid (k < j) := hlt
      clear he hk hlt
      go_wp2_with fail
      refine ⟨⟨k + 1, HLT.out, by rw [Int.natCast_add]; rfl⟩, ?_⟩
      have := HLT.out
      simp only [intOf]
      omega
theorem Own.some_ne {B : Nat} {w : World} {v : Value} {l : List UInt8} (h : Own B w v l) (hn : l ≠ []) : ∃ g n c, v = .slice (some ⟨g, 0, none⟩) n c := by
  obtain ⟨_, ⟨rfl, h2⟩ | ⟨g, cap, cur, rfl, _⟩⟩ := h
  · exact absurd (List.eq_nil_of_length_eq_zero h2) hn
  · exact ⟨g, _, _, rfl⟩
set_option maxHeartbeats 1000000 in
set_option maxRecDepth 100000 in
theorem bclone_calls (B : Nat) (v : Value) (l : List UInt8) (w : World) (hv : Own B w v l) (hn : l ≠ []) (hl : l.length ≤ 1000000000) : Calls Tryd.prog 23 #[v] w (NB w l) := by
  obtain ⟨g, n, c, rfl⟩ := hv.some_ne hn
  have q22 : ∀ (w : World) (a : Option Addr) (n c n' c' : Nat), (binOp .eql 22 (.slice a n c) (.slice none n' c')).run Tryd.prog w = .ok (.bool a.isNone) w := fun w a n c n' c' => Lib.run_eql_slice_nil w _ _ a n c n' c' und22
  have o1 : Own w.heap.size (w.alloc (.cells #[] 5)) (.slice (some ⟨w.heap.size, 0, none⟩) 0 0) [] := World.ownsRow_made w #[] 0 (Nat.le_refl _) (Nat.zero_le _) rfl
  have b1 := below_alloc w (.cells #[] 5)
  obtain ⟨v', w', hr, ho, hb⟩ := app_run o1 (hv.below b1).holds b1.size (by simp; omega)
  rw [List.nil_append] at ho
  have HO : Hid (Own w.heap.size w' v' l) := ho
  have HB : Hid (Below w.heap.size w w') := b1.trans hb
  clear hv hn hl o1 b1 ho hb
  go_enter Tryd.func23, Tryd.ntmps23
  go_wp2_with (at_builtin; refine Lib.wpList_append_run _ rfl _ _ 22 22 rfl _ _ rfl rfl _ _ (hr _) ?_)
  go_ret
  exact ⟨v', rfl, HO.out, HB.out⟩
end Go.Proofs.YthakbkkopneilaaDoor
