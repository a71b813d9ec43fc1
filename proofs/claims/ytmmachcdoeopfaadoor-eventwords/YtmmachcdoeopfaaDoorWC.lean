/- The table of words; the contracts of Closes and Name, of the program and of the reference; the walk of EventWords. -/
import Derived.Test.YtmmachcdoeopfaaDoorWB
import Derived.Lib.LaidTab
namespace Go.Proofs.YtmmachcdoeopfaaDoor
open Go.ChangeShapes Go.WideShapes Go.ChangeAt Go.RowKit
/-- The words. -/
def wl : List (List UInt8) := [[], [115, 116, 97, 114, 116, 101, 100], [115, 99, 104, 101, 100, 117, 108, 101, 100], [116, 97, 107, 101, 110], [100, 111, 110, 101], [116, 97, 115, 107, 70, 97, 105, 108, 101, 100], [116, 97, 115, 107, 84, 105, 109, 101, 100], [115, 105, 103, 110, 97, 108, 101, 100], [99, 97, 110, 99, 101, 108], [116, 105, 109, 101, 114], [102, 105, 114, 101, 100], [116, 105, 109, 101, 114, 79, 102, 102], [97, 99, 99, 101, 112, 116, 101, 100], [111, 117, 116, 99, 111, 109, 101], [109, 97, 114, 107, 101, 114], [99, 111, 109, 112, 108, 101, 116, 101, 100], [102, 97, 105, 108, 101, 100], [99, 97, 110, 99, 101, 108, 101, 100], [116, 101, 114, 109, 105, 110, 97, 116, 101, 100], [116, 105, 109, 101, 100, 79, 117, 116]]
def wd (j : Nat) : ByteArray := ⟨(wl.getD j []).toArray⟩
/-- The table lies in memory. -/
def Tb (w : World) : Prop := ∀ j : Nat, j < 20 → w.cell? ⟨0, j, none⟩ = some (.string (wd j))
theorem Tb.below {w w' : World} (h : Tb w) (hb : Below w.heap.size w w') : Tb w' := fun j hj => cellB (h j hj) hb
theorem cells_of_words {H : Type} {enc : TypeId × Value → H} {P : Program} {w : World} {base : Nat} {sp : Nat → Bool} {held : Bool} {fuel : Nat} {t e : TypeId} {n : Nat} {cs : List Value} {zs : List (List UInt8)} {p : List MemPlace}
    (ht : P.underlying t = some (.array n e)) (he : P.underlying e = some .string) (hce : P.cellsOf e = 1) (hct : P.cellsOf t = n)
    (h : DataW.trod enc P w base sp held fuel t cs = some (.agg (zs.map fun z => .lit (.string z)), p)) : cs = zs.map fun z => Value.string ⟨z.toArray⟩ := by
  cases fuel with
  | zero => simp [DataW.trod] at h
  | succ fuel =>
    simp only [DataW.trod, ht, hce, hct, Nat.mul_one] at h
    split at h
    · rename_i hl
      obtain ⟨xs, hm, hx⟩ := Option.map_eq_some_iff.1 h
      have hxs : xs.map (·.1) = zs.map fun z => (DataW.lit (.string z) : DataW H) := by
        have := congrArg Prod.fst hx
        simpa using this
      have hxl : xs.length = n := by simpa using Lib.mapM_length hm
      have hzl : zs.length = n := by
        have := congrArg List.length hxs
        simp at this
        omega
      apply List.ext_getElem?
      intro i
      by_cases hi : i < n
      · obtain ⟨b, hb, hf⟩ := Lib.mapM_at hm i i (by simp [hi])
        obtain ⟨z, hc, hd, _⟩ := DataW.trod_string he hf
        have h1 : cs[i]? = some (.string z) := by
          have := congrArg (·[0]?) hc
          simpa [List.getElem?_take, List.getElem?_drop] using this
        have h2 : (xs.map (·.1))[i]? = some (DataW.lit (.string z.data.toList) : DataW H) := by simp [hb, hd]
        rw [hxs] at h2
        simp only [List.getElem?_map, Option.map_eq_some_iff, DataW.lit.injEq, Lit.string.injEq] at h2
        obtain ⟨z', hz', hzz⟩ := h2
        have : z = ⟨z'.toArray⟩ := by
          apply ByteArray.ext
          rw [hzz]
        rw [h1, this]
        simp [hz']
      · rw [List.getElem?_eq_none (by omega), List.getElem?_eq_none (by simp; omega)]
    · cases h
theorem laid_words {H : Type} : (Rows.laid_usher_event_words : DataW H) = .agg (wl.map fun z => .lit (.string z)) := rfl
theorem table {W : World} {laid : List (String × DataW Unit)} (hl : laid = [("usher/event.words", Rows.laid_usher_event_words)]) (hL : laidMetH Tryd.prog laid W) : Tb W := by
  subst hl
  have h : laidMet Tryd.prog [("usher/event.words", Rows.laid_usher_event_words)] W := hL
  obtain ⟨ps, ⟨g', t', cs, fuel, p, q, hg', ht', hvar, hd, _, _⟩, _⟩ := h
  have hg : Tryd.prog.globalNamed "usher/event.words" = some 0 := by kernel_rfl
  have hty : (Tryd.prog.globals[0]?).map (·.type) = some 25 := by kernel_rfl
  obtain rfl := Option.some.inj (hg.symm.trans hg')
  obtain rfl := Option.some.inj (hty.symm.trans ht')
  rw [laid_words] at hd
  have hcs := cells_of_words (n := 20) Tryd.underlying25 Tryd.underlying9 (by kernel_rfl) (by kernel_rfl) hd
  intro j hj
  have := World.var?_cell hg hvar j
  rw [this, ← Array.getElem?_toList, hcs, List.getElem?_map]
  have hw : wl[j]? = some (wl.getD j []) := by
    rw [List.getD_eq_getElem?_getD, List.getElem?_eq_getElem (show j < wl.length from hj)]
    rfl
  rw [hw]
  rfl
/-- A kind's word. -/
def nw (k : Int) : ByteArray := if 1 ≤ k ∧ k ≤ 19 then wd k.toNat else ⟨#[]⟩
def cl (k : Int) : Bool := decide (15 ≤ k) && decide (k ≤ 19)
theorem closes_calls (k : Int) (w : World) : Calls Tryd.prog 4 #[.int .i64 k] w fun e w' => e = .returned (.bool (cl k)) ∧ w' = w := by
  unfold cl
  by_cases h1 : 15 ≤ k
  · by_cases h2 : k ≤ 19
    · go_enter Tryd.func4, Tryd.ntmps4
      go_wp2
      go_ret
      simp [h1, h2]
    · go_enter Tryd.func4, Tryd.ntmps4
      go_wp2
      go_ret
      simp [h2]
  · go_enter Tryd.func4, Tryd.ntmps4
    go_wp2
    go_ret
    simp
    omega
theorem rcloses_calls (k : Int) (w : World) : Calls Tryd.prog 5 #[.int .i64 k] w fun e w' => e = .returned (.bool (cl k)) ∧ w' = w := by
  unfold cl
  by_cases h1 : 15 ≤ k
  · by_cases h2 : k ≤ 19
    · go_enter Tryd.func5, Tryd.ntmps5
      go_wp2
      go_ret
      simp [h1, h2]
    · go_enter Tryd.func5, Tryd.ntmps5
      go_wp2
      go_ret
      simp [h2]
  · go_enter Tryd.func5, Tryd.ntmps5
    go_wp2
    go_ret
    simp
    omega
theorem isKind_yes (k : Int) (h1 : 1 ≤ k) (h2 : k ≤ 19) (w : World) : Calls Tryd.prog 9 #[.int .i64 k] w fun e w' => e = .returned (.bool true) ∧ w' = w := by
  go_enter Tryd.func9, Tryd.ntmps9
  go_wp2
  go_ret
  simp
theorem isKind_no (k : Int) (h : ¬ (1 ≤ k ∧ k ≤ 19)) (w : World) : Calls Tryd.prog 9 #[.int .i64 k] w fun e w' => e = .returned (.bool false) ∧ w' = w := by
  by_cases h1 : 1 ≤ k
  · have h2 : ¬ k ≤ 19 := fun h2 => h ⟨h1, h2⟩
    clear h
    go_enter Tryd.func9, Tryd.ntmps9
    go_wp2
    go_ret
    exact ⟨rfl, rfl⟩
  · clear h
    go_enter Tryd.func9, Tryd.ntmps9
    go_wp2
    go_ret
    exact ⟨rfl, rfl⟩
theorem name_calls (k : Int) (w : World) (hT : Tb w) : Calls Tryd.prog 6 #[.int .i64 k] w fun e w' => e = .returned (.string (nw k)) ∧ w' = w := by
  by_cases h : 1 ≤ k ∧ k ≤ 19
  · obtain ⟨j, rfl⟩ := Int.eq_ofNat_of_zero_le (show 0 ≤ k by omega)
    have e : nw (j : Int) = wd j := by unfold nw; rw [if_pos h]; rfl
    have hc := hT j (by omega)
    rw [e]
    have hj0 : (0 : Int) ≤ (j : Int) := by omega
    have hj1 : (j : Int) < 20 := by omega
    have K := fun w => isKind_yes (j : Int) h.1 h.2 w
    generalize wd j = W at hc ⊢
    clear hT h e
    go_enter Tryd.func6, Tryd.ntmps6
    go_wp2_with fail
    refine (K _).mono ?_
    rintro e w1 ⟨rfl, e1⟩
    have e2 := e1.symm
    subst e2
    clear e1
    go_wp2_with fail
    go_ret
    exact ⟨rfl, rfl⟩
  · have e : nw k = ⟨#[]⟩ := by unfold nw; rw [if_neg h]
    have K := fun w => isKind_no k h w
    rw [e]
    clear hT h e
    go_enter Tryd.func6, Tryd.ntmps6
    go_wp2_with fail
    refine (K _).mono ?_
    rintro e w1 ⟨rfl, e1⟩
    have e2 := e1.symm
    subst e2
    clear e1
    go_wp2_with fail
    go_ret
    exact ⟨rfl, rfl⟩
def RF : Array Value := #[.string ⟨#[115, 116, 97, 114, 116, 101, 100]⟩, .string ⟨#[115, 99, 104, 101, 100, 117, 108, 101, 100]⟩, .string ⟨#[116, 97, 107, 101, 110]⟩, .string ⟨#[100, 111, 110, 101]⟩, .string ⟨#[116, 97, 115, 107, 70, 97, 105, 108, 101, 100]⟩, .string ⟨#[116, 97, 115, 107, 84, 105, 109, 101, 100]⟩, .string ⟨#[115, 105, 103, 110, 97, 108, 101, 100]⟩, .string ⟨#[99, 97, 110, 99, 101, 108]⟩, .string ⟨#[116, 105, 109, 101, 114]⟩, .string ⟨#[102, 105, 114, 101, 100]⟩, .string ⟨#[116, 105, 109, 101, 114, 79, 102, 102]⟩, .string ⟨#[97, 99, 99, 101, 112, 116, 101, 100]⟩, .string ⟨#[111, 117, 116, 99, 111, 109, 101]⟩, .string ⟨#[109, 97, 114, 107, 101, 114]⟩, .string ⟨#[99, 111, 109, 112, 108, 101, 116, 101, 100]⟩, .string ⟨#[102, 97, 105, 108, 101, 100]⟩, .string ⟨#[99, 97, 110, 99, 101, 108, 101, 100]⟩, .string ⟨#[116, 101, 114, 109, 105, 110, 97, 116, 101, 100]⟩, .string ⟨#[116, 105, 109, 101, 100, 79, 117, 116]⟩]
theorem RF_at (j : Nat) (h : 1 ≤ j) (h2 : j ≤ 19) : RF[j - 1]? = some (.string (wd j)) := by
  obtain ⟨i, rfl⟩ : ∃ i, j = i + 1 := ⟨j - 1, by omega⟩
  have hi : i < 19 := by omega
  clear h h2
  match i, hi with
  | 0, _ => rfl
  | 1, _ => rfl
  | 2, _ => rfl
  | 3, _ => rfl
  | 4, _ => rfl
  | 5, _ => rfl
  | 6, _ => rfl
  | 7, _ => rfl
  | 8, _ => rfl
  | 9, _ => rfl
  | 10, _ => rfl
  | 11, _ => rfl
  | 12, _ => rfl
  | 13, _ => rfl
  | 14, _ => rfl
  | 15, _ => rfl
  | 16, _ => rfl
  | 17, _ => rfl
  | 18, _ => rfl
  | n + 19, h => omega
theorem ref_cell (w : World) (j : Nat) (h : 1 ≤ j) (h2 : j ≤ 19) : (w.alloc (.cells #[.string ⟨#[115, 116, 97, 114, 116, 101, 100]⟩, .string ⟨#[115, 99, 104, 101, 100, 117, 108, 101, 100]⟩, .string ⟨#[116, 97, 107, 101, 110]⟩, .string ⟨#[100, 111, 110, 101]⟩, .string ⟨#[116, 97, 115, 107, 70, 97, 105, 108, 101, 100]⟩, .string ⟨#[116, 97, 115, 107, 84, 105, 109, 101, 100]⟩, .string ⟨#[115, 105, 103, 110, 97, 108, 101, 100]⟩, .string ⟨#[99, 97, 110, 99, 101, 108]⟩, .string ⟨#[116, 105, 109, 101, 114]⟩, .string ⟨#[102, 105, 114, 101, 100]⟩, .string ⟨#[116, 105, 109, 101, 114, 79, 102, 102]⟩, .string ⟨#[97, 99, 99, 101, 112, 116, 101, 100]⟩, .string ⟨#[111, 117, 116, 99, 111, 109, 101]⟩, .string ⟨#[109, 97, 114, 107, 101, 114]⟩, .string ⟨#[99, 111, 109, 112, 108, 101, 116, 101, 100]⟩, .string ⟨#[102, 97, 105, 108, 101, 100]⟩, .string ⟨#[99, 97, 110, 99, 101, 108, 101, 100]⟩, .string ⟨#[116, 101, 114, 109, 105, 110, 97, 116, 101, 100]⟩, .string ⟨#[116, 105, 109, 101, 100, 79, 117, 116]⟩] 9)).cell? ⟨w.heap.size, j - 1, none⟩ = some (.string (wd j)) := by
  rw [← RF_at j h h2]
  show (w.alloc (.cells RF 9)).cell? _ = _
  simp
set_option maxHeartbeats 1000000 in
set_option maxRecDepth 100000 in
theorem rname_calls (k : Int) (w : World) : Calls Tryd.prog 7 #[.int .i64 k] w fun e w' => e = .returned (.string (nw k)) ∧ Below w.heap.size w w' := by
  by_cases h : 1 ≤ k ∧ k ≤ 19
  · obtain ⟨j, rfl⟩ := Int.eq_ofNat_of_zero_le (show 0 ≤ k by omega)
    have e : nw (j : Int) = wd j := by unfold nw; rw [if_pos h]; rfl
    obtain ⟨i, rfl⟩ : ∃ i, j = i + 1 := ⟨j - 1, by omega⟩
    have hc := ref_cell w (i + 1) (by omega) (by omega)
    rw [Nat.add_sub_cancel] at hc
    rw [e]
    have hj0 : ¬ ((i : Int) + 1 < 1) := by omega
    have hj1 : ¬ (19 < (i : Int) + 1) := by omega
    have hi9 : (i : Int) < 19 := by omega
    have ec : ((i + 1 : Nat) : Int) = (i : Int) + 1 := by omega
    rw [ec]
    generalize wd (i + 1) = W at hc ⊢
    clear h e ec
    go_enter Tryd.func7, Tryd.ntmps7
    go_wp2_with fail
    go_ret
    exact ⟨rfl, bel1 _ _⟩
  · have e : nw k = ⟨#[]⟩ := by unfold nw; rw [if_neg h]
    rw [e]
    by_cases h1 : k < 1
    · clear h e
      go_enter Tryd.func7, Tryd.ntmps7
      go_wp2_with fail
      go_ret
      exact ⟨rfl, bel1 _ _⟩
    · have h2 : 19 < k := by omega
      clear h e
      go_enter Tryd.func7, Tryd.ntmps7
      go_wp2_with fail
      go_ret
      exact ⟨rfl, bel1 _ _⟩
set_option maxHeartbeats 1000000 in
set_option maxRecDepth 100000 in
theorem words_walk (k : Int) (w : World) (hT : Tb w) : Calls Tryd.prog 3 #[.int .i64 k] w fun e w' => e = .returned (.bool true) ∧ Below w.heap.size w w' := by
  have HT : Hid (Tb w) := hT
  clear hT
  go_enter Tryd.func3, Tryd.ntmps3
  go_wp2_with fail
  go_loopw [4] (fun i wr => ∃ j : Nat, j ≤ 25 ∧ i = .int .i64 j ∧ Hid (Below w.heap.size w wr)) (fun i _ => 25 - (intOf i).toNat)
  case atStart => exact ⟨0, Nat.zero_le _, rfl, Below.refl _ _⟩
  case round =>
    obtain ⟨j, hj, rfl, HB⟩ := hrel
    by_cases hlt : j < 25
    · have hjl : (j : Int) < 25 := by omega
      have NC : Hid (Calls Tryd.prog 6 #[.int .i64 (j : Int)] wr _) := name_calls (j : Int) wr (HT.out.below HB.out)
      have RN : Hid (∀ W, _) := fun W => rname_calls (j : Int) W
      have C1 : Hid (∀ W, _) := fun W => closes_calls (j : Int) W
      have C2 : Hid (∀ W, _) := fun W => rcloses_calls (j : Int) W
      generalize nw (j : Int) = N at NC RN
      generalize cl (j : Int) = B at C1 C2
      go_wp2_with fail
      refine (C1.out _).mono ?_
      rintro e w1 ⟨rfl, e1⟩
      have e2 := e1.symm
      subst e2
      clear e1
      go_wp2_with fail
      refine (C2.out _).mono ?_
      rintro e w1 ⟨rfl, e1⟩
      have e2 := e1.symm
      subst e2
      clear e1
      go_wp2_with fail
      refine NC.out.mono ?_
      rintro e w1 ⟨rfl, e1⟩
      have e2 := e1.symm
      subst e2
      clear e1
      go_wp2_with fail
      refine (RN.out _).mono ?_
      rintro e w2 ⟨rfl, hb⟩
      have HB2 : Hid (Below w.heap.size w w2) := bel2 HB.out hb
      clear hb
      go_wp2_with fail
      refine ⟨⟨j + 1, hlt, by first | rfl | (rw [Int.natCast_add]; rfl), HB2⟩, ?_⟩
      simp only [intOf]
      omega
    · obtain rfl : j = 25 := by omega
      have NC : Hid (Calls Tryd.prog 6 #[.int .i64 k] wr _) := name_calls k wr (HT.out.below HB.out)
      have RN : Hid (∀ W, _) := fun W => rname_calls k W
      have C1 : Hid (∀ W, _) := fun W => closes_calls k W
      have C2 : Hid (∀ W, _) := fun W => rcloses_calls k W
      generalize nw k = N at NC RN
      generalize cl k = B at C1 C2
      go_wp2_with fail
      refine (C1.out _).mono ?_
      rintro e w1 ⟨rfl, e1⟩
      have e2 := e1.symm
      subst e2
      clear e1
      go_wp2_with fail
      refine (C2.out _).mono ?_
      rintro e w1 ⟨rfl, e1⟩
      have e2 := e1.symm
      subst e2
      clear e1
      go_wp2_with fail
      refine NC.out.mono ?_
      rintro e w1 ⟨rfl, e1⟩
      have e2 := e1.symm
      subst e2
      clear e1
      go_wp2_with fail
      refine (RN.out _).mono ?_
      rintro e w2 ⟨rfl, hb⟩
      have HB2 : Hid (Below w.heap.size w w2) := bel2 HB.out hb
      clear hb
      go_wp2_with fail
      refine (awake_calls _).mono ?_
      rintro e w3 ⟨rfl, hb⟩
      have HB3 : Hid (Below w.heap.size w w3) := bel2 HB2.out hb
      clear hb
      go_wp2_with fail
      go_ret
      exact ⟨rfl, HB3.out⟩
noncomputable def laidWorld (os : Os) : World :=
  { World.holding Tryd.prog os ⟨#[], #[], []⟩ with heap := (World.holding Tryd.prog os ⟨#[], #[], []⟩).heap.modify 0 fun
      | .cells _ t frozen => .cells (wl.map fun z => Value.string ⟨z.toArray⟩).toArray t frozen
      | o => o }
theorem own : ownKnob Tryd.prog.godebug = none := by kernel_rfl
end Go.Proofs.YtmmachcdoeopfaaDoor
