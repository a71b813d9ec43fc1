/- The contracts of the reference's write and Check. -/
import Derived.Test.YtkaaddahegkmgaaBJ
namespace Go.Proofs.Ytkaaddahegkmgaa
open Go.ChangeShapes Go.WideShapes Go.ChangeAt Go.RowKit
/-- What a test of the reference leaves. -/
def BoP (p : Prop) (w : World) (e : Ending) (w' : World) : Prop := (∃ r : Bool, e = .returned (.bool r) ∧ (r = true ↔ p)) ∧ Below w.heap.size w w'
theorem bop_f {p : Prop} {w w' : World} (hp : ¬ p) (hb : Below w.heap.size w w') : BoP p w (.returned (.bool false)) w' := ⟨⟨false, rfl, ⟨fun h => (by cases h), fun h => absurd h hp⟩⟩, hb⟩
theorem bop_t {p : Prop} {w w' : World} (hp : p) (hb : Below w.heap.size w w') : BoP p w (.returned (.bool true)) w' := ⟨⟨true, rfl, ⟨fun _ => hp, fun _ => rfl⟩⟩, hb⟩
set_option maxHeartbeats 4000000 in
set_option maxRecDepth 100000 in
theorem rwrite_calls (t : Wt) (ev : Value) (w : World) (h : LR w ev t.ev) : Calls Try.prog 37 #[.agg #[.string t.br, .string t.fk, .int .i64 t.kp, .int .i64 t.ta, ev]] w (BoP (MayW t) w) := by
  obtain ⟨ea, ec, rfl, hel, hrow⟩ := h
  have HR : Hid (∀ (i : Nat) p, t.ev[i]? = some p → ∃ B o x, ea = some ⟨B, o, none⟩ ∧ w.cell? ⟨B, o + i, none⟩ = some x ∧ Lib.HoldsBytes w x p) := hrow
  have HEL : Hid (t.ev.length ≤ 9223372036854775807) := hel
  have HMx : Hid (mixed t = if t.fk.size = 0 then t.kp != 0 else t.ta != 0) := rfl
  have HI : Hid (MayW t → 1 ≤ t.br.size ∧ t.br.size ≤ 64 ∧ t.fk.size ≤ 64 ∧ 0 ≤ t.kp ∧ t.kp ≤ 120 ∧ 0 ≤ t.ta ∧ t.ta ≤ 120 ∧ t.ev.length ≤ 120 ∧ (∀ e ∈ t.ev, 1 ≤ e.length ∧ e.length ≤ 4096) ∧ mixed t = false) := fun ⟨a, b, c, d, e, f, g, h, i, j⟩ => ⟨a, b, c, d, e, f, g, h, i, j⟩
  have HO : Hid (1 ≤ t.br.size ∧ t.br.size ≤ 64 ∧ t.fk.size ≤ 64 ∧ 0 ≤ t.kp ∧ t.kp ≤ 120 ∧ 0 ≤ t.ta ∧ t.ta ≤ 120 ∧ t.ev.length ≤ 120 ∧ (∀ e ∈ t.ev, 1 ≤ e.length ∧ e.length ≤ 4096) ∧ mixed t = false → MayW t) := fun ⟨a, b, c, d, e, f, g, h, i, j⟩ => ⟨a, b, c, d, e, f, g, h, i, j⟩
  generalize hP : MayW t = P at HI HO ⊢
  clear hP hrow hel
  obtain ⟨br, fk, kp, ta, evs⟩ := t
  dsimp only at HR HEL HMx HI HO ⊢
  generalize mixed ⟨br, fk, kp, ta, evs⟩ = M at HMx HI HO
  obtain ⟨X, hX⟩ : ∃ X, X = br.size := ⟨_, rfl⟩
  obtain ⟨Y, hY⟩ : ∃ Y, Y = fk.size := ⟨_, rfl⟩
  obtain ⟨Z, hZ⟩ : ∃ Z, Z = evs.length := ⟨_, rfl⟩
  have HXY : Hid (X = br.size ∧ Y = fk.size ∧ Z = evs.length) := ⟨hX, hY, hZ⟩
  rw [← hZ]
  have sX : br.size = X := hX.symm
  have sY : fk.size = Y := hY.symm
  clear hX hY hZ
  by_cases t0 : (X : Int) < 1
  · have hn : Hid (¬ P) := fun p => by have := HXY.out; have := (HI.out p).1; omega
    go_enter Try.func37, Try.ntmps37
    go_wp2_with fail
    go_ret
    exact bop_f hn.out (bel1 _ _)
  by_cases t1 : 64 < (X : Int)
  · have hn : Hid (¬ P) := fun p => by have := HXY.out; have := (HI.out p).2.1; omega
    go_enter Try.func37, Try.ntmps37
    go_wp2_with fail
    go_ret
    exact bop_f hn.out (bel1 _ _)
  by_cases t2 : 64 < (Y : Int)
  · have hn : Hid (¬ P) := fun p => by have := HXY.out; have := (HI.out p).2.2.1; omega
    go_enter Try.func37, Try.ntmps37
    go_wp2_with fail
    go_ret
    exact bop_f hn.out (bel1 _ _)
  by_cases t3 : kp < 0
  · have hn : Hid (¬ P) := fun p => by have := HXY.out; have := (HI.out p).2.2.2.1; omega
    go_enter Try.func37, Try.ntmps37
    go_wp2_with fail
    go_ret
    exact bop_f hn.out (bel1 _ _)
  by_cases t4 : 120 < kp
  · have hn : Hid (¬ P) := fun p => by have := HXY.out; have := (HI.out p).2.2.2.2.1; omega
    go_enter Try.func37, Try.ntmps37
    go_wp2_with fail
    go_ret
    exact bop_f hn.out (bel1 _ _)
  by_cases t5 : ta < 0
  · have hn : Hid (¬ P) := fun p => by have := HXY.out; have := (HI.out p).2.2.2.2.2.1; omega
    go_enter Try.func37, Try.ntmps37
    go_wp2_with fail
    go_ret
    exact bop_f hn.out (bel1 _ _)
  by_cases t6 : 120 < ta
  · have hn : Hid (¬ P) := fun p => by have := HXY.out; have := (HI.out p).2.2.2.2.2.2.1; omega
    go_enter Try.func37, Try.ntmps37
    go_wp2_with fail
    go_ret
    exact bop_f hn.out (bel1 _ _)
  by_cases t7 : 120 < (Z : Int)
  · have hn : Hid (¬ P) := fun p => by have := HXY.out; have := (HI.out p).2.2.2.2.2.2.2.1; omega
    go_enter Try.func37, Try.ntmps37
    go_wp2_with fail
    go_ret
    exact bop_f hn.out (bel1 _ _)
  by_cases hf0 : Y = 0
  · have hfe : fk.toList.isEmpty = true := by
      have h1 : fk.size = 0 := by omega
      rw [Lib.toList_data]
      have : fk.data.toList.length = 0 := by rw [Array.length_toList]; exact h1
      rw [List.eq_nil_of_length_eq_zero this]
      rfl
    have hfe2 : fk.toList = [] := List.isEmpty_iff.1 hfe
    by_cases hk0 : kp = 0
    · subst hk0
      have HM2 : Hid (M = false) := by have h1 := HXY.out.2.1; show _ = _; rw [HMx.out, if_pos (by omega)]; rfl
      clear hfe
      go_enter Try.func37, Try.ntmps37
      go_wp2_with fail
      generalize hW : w.alloc (Obj.cells #[.string br, .string fk, .int .i64 0, .int .i64 ta, .slice ea Z ec] 47) = W1
      have HB : Hid (Below w.heap.size w W1) := by rw [← hW]; exact bel1 _ _
      have c4 : W1.cell? ⟨w.heap.size, 4, none⟩ = some (Value.slice ea Z ec) := by rw [← hW]; exact (Bk.new w _ _).cell 4
      clear hW
      go_loop [3] (fun i => ∃ j : Nat, j ≤ Z ∧ i = .int .i64 (j : Int) ∧ Hid (∀ e ∈ evs.take j, 1 ≤ e.length ∧ e.length ≤ 4096)) (fun i => Z - (intOf i).toNat)
      case atStart => exact ⟨0, Nat.zero_le _, rfl, fun e he => by simp at he⟩
      case round =>
        obtain ⟨j, hj, rfl, HA⟩ := hrel
        by_cases hlt : j < Z
        · have HT : Hid (j < evs.length) := by have := HXY.out.2.2; show _ < _; omega
          obtain ⟨B, o, x, rfl, hx, hh⟩ := HR.out j _ (List.getElem?_eq_getElem HT.out)
          obtain ⟨xp, xc, rfl, _⟩ := hh
          have hx2 := cell_below hx HB.out
          have hjl : (j : Int) < (Z : Int) := by omega
          obtain ⟨V, hV⟩ : ∃ V, V = (evs[j]'HT.out).length := ⟨_, rfl⟩
          rw [← hV] at hx2
          have HV : Hid (V = (evs[j]'HT.out).length) := hV
          have HMo : Hid (1 ≤ V → V ≤ 4096 → ∀ e ∈ evs.take (j + 1), 1 ≤ e.length ∧ e.length ≤ 4096) := fun h1 h2 e he => by
            rw [List.take_add_one, List.getElem?_eq_getElem HT.out, List.mem_append] at he
            rcases he with he | he
            · exact HA.out e he
            · simp at he
              subst he
              have := HV.out
              omega
          have HMe : Hid (P → 1 ≤ V ∧ V ≤ 4096) := fun p => by
            have h1 := (HI.out p).2.2.2.2.2.2.2.2.1 _ (List.getElem_mem HT.out)
            have := HV.out
            omega
          clear hx hV
          by_cases v1 : (V : Int) < 1
          · have hn : Hid (¬ P) := fun p => by have := HMe.out p; omega
            go_wp2_with fail
            go_ret
            exact bop_f hn.out HB.out
          · by_cases v2 : 4096 < (V : Int)
            · have hn : Hid (¬ P) := fun p => by have := HMe.out p; omega
              go_wp2_with fail
              go_ret
              exact bop_f hn.out HB.out
            · have HA2 : Hid (∀ e ∈ evs.take (j + 1), 1 ≤ e.length ∧ e.length ≤ 4096) := HMo.out (by omega) (by omega)
              go_wp2_with fail
              go_round
              case rel => exact ⟨j + 1, hlt, by go_num, HA2⟩
              case measure => simp [intOf]; omega
        · obtain rfl : j = Z := by omega
          have hp : Hid P := HO.out ⟨by have := HXY.out; omega, by have := HXY.out; omega, by have := HXY.out; omega, by omega, by omega, by omega, by omega, by have := HXY.out; omega, (by have h1 := HA.out; rwa [HXY.out.2.2, List.take_length] at h1), HM2.out⟩
          go_wp2_with fail
          go_ret
          exact bop_t hp.out HB.out
    · have hkb : (kp != 0) = true := by simpa using hk0
      have hn : Hid (¬ P) := fun p => by
        have h1 := (HI.out p).2.2.2.2.2.2.2.2.2
        rw [HMx.out, if_pos (by have := HXY.out.2.1; omega), hkb] at h1
        cases h1
      clear hfe
      go_enter Try.func37, Try.ntmps37
      go_wp2_with fail
      go_ret
      exact bop_f hn.out (bel1 _ _)
  · have hfe : fk.toList.isEmpty = false := by
      cases he : fk.toList with
      | nil => exact absurd (by have h1 := HXY.out.2.1; rw [tl_nil he] at h1; exact h1) hf0
      | cons _ _ => rfl
    have hfe2 : ¬ fk.toList = [] := fun e => by rw [e] at hfe; cases hfe
    by_cases ha0 : ta = 0
    · subst ha0
      have HM2 : Hid (M = false) := by have h1 := HXY.out.2.1; show _ = _; rw [HMx.out, if_neg (by omega)]; rfl
      go_enter Try.func37, Try.ntmps37
      go_wp2_with fail
      generalize hW : w.alloc (Obj.cells #[.string br, .string fk, .int .i64 kp, .int .i64 0, .slice ea Z ec] 47) = W1
      have HB : Hid (Below w.heap.size w W1) := by rw [← hW]; exact bel1 _ _
      have c4 : W1.cell? ⟨w.heap.size, 4, none⟩ = some (Value.slice ea Z ec) := by rw [← hW]; exact (Bk.new w _ _).cell 4
      clear hW
      go_loop [3] (fun i => ∃ j : Nat, j ≤ Z ∧ i = .int .i64 (j : Int) ∧ Hid (∀ e ∈ evs.take j, 1 ≤ e.length ∧ e.length ≤ 4096)) (fun i => Z - (intOf i).toNat)
      case atStart => exact ⟨0, Nat.zero_le _, rfl, fun e he => by simp at he⟩
      case round =>
        obtain ⟨j, hj, rfl, HA⟩ := hrel
        by_cases hlt : j < Z
        · have HT : Hid (j < evs.length) := by have := HXY.out.2.2; show _ < _; omega
          obtain ⟨B, o, x, rfl, hx, hh⟩ := HR.out j _ (List.getElem?_eq_getElem HT.out)
          obtain ⟨xp, xc, rfl, _⟩ := hh
          have hx2 := cell_below hx HB.out
          have hjl : (j : Int) < (Z : Int) := by omega
          obtain ⟨V, hV⟩ : ∃ V, V = (evs[j]'HT.out).length := ⟨_, rfl⟩
          rw [← hV] at hx2
          have HV : Hid (V = (evs[j]'HT.out).length) := hV
          have HMo : Hid (1 ≤ V → V ≤ 4096 → ∀ e ∈ evs.take (j + 1), 1 ≤ e.length ∧ e.length ≤ 4096) := fun h1 h2 e he => by
            rw [List.take_add_one, List.getElem?_eq_getElem HT.out, List.mem_append] at he
            rcases he with he | he
            · exact HA.out e he
            · simp at he
              subst he
              have := HV.out
              omega
          have HMe : Hid (P → 1 ≤ V ∧ V ≤ 4096) := fun p => by
            have h1 := (HI.out p).2.2.2.2.2.2.2.2.1 _ (List.getElem_mem HT.out)
            have := HV.out
            omega
          clear hx hV
          by_cases v1 : (V : Int) < 1
          · have hn : Hid (¬ P) := fun p => by have := HMe.out p; omega
            go_wp2_with fail
            go_ret
            exact bop_f hn.out HB.out
          · by_cases v2 : 4096 < (V : Int)
            · have hn : Hid (¬ P) := fun p => by have := HMe.out p; omega
              go_wp2_with fail
              go_ret
              exact bop_f hn.out HB.out
            · have HA2 : Hid (∀ e ∈ evs.take (j + 1), 1 ≤ e.length ∧ e.length ≤ 4096) := HMo.out (by omega) (by omega)
              go_wp2_with fail
              go_round
              case rel => exact ⟨j + 1, hlt, by go_num, HA2⟩
              case measure => simp [intOf]; omega
        · obtain rfl : j = Z := by omega
          have hp : Hid P := HO.out ⟨by have := HXY.out; omega, by have := HXY.out; omega, by have := HXY.out; omega, by omega, by omega, by omega, by omega, by have := HXY.out; omega, (by have h1 := HA.out; rwa [HXY.out.2.2, List.take_length] at h1), HM2.out⟩
          go_wp2_with fail
          go_ret
          exact bop_t hp.out HB.out
    · have hkb : (ta != 0) = true := by simpa using ha0
      have hn : Hid (¬ P) := fun p => by
        have h1 := (HI.out p).2.2.2.2.2.2.2.2.2
        rw [HMx.out, if_neg (by have := HXY.out.2.1; omega), hkb] at h1
        cases h1
      go_enter Try.func37, Try.ntmps37
      go_wp2_with fail
      go_ret
      exact bop_f hn.out (bel1 _ _)
end Go.Proofs.Ytkaaddahegkmgaa
