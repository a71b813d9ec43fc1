/- The writer: box, parts, values, answers, commands, policy, request. -/
import Derived.Test.YtjmonkhkcmcfiaaVI
import Derived.Test.YtjmonkhkcmcfiaaPU
import Derived.Deep.RegionHeld3
import Derived.Deep.AppendLies
import Derived.Lib.AppendZeros
import Derived.Deep.RegionLaw
import Derived.Deep.DeepCutAuto
import Derived.Deep.MidRow
import Derived.Deep.WholeRow
namespace Go.Proofs.Ytjmonkhkcmcfiaa
open Go.ChangeShapes Go.WideShapes Go.ChangeAt Go.RowKit
/-- The writer's box, with the bytes that it has. -/
def Wb (w : World) (g : Nat) (l : List UInt8) : Prop := ∃ v, w.heap[g]? = some (.cells #[v] 60 (0, 0)) ∧ Own (g + 1) w v l
theorem Wb.below {w w' : World} {g : Nat} {l : List UInt8} (h : Wb w g l) (hb : Below w.heap.size w w') : Wb w' g l := by
  obtain ⟨v, h1, h2⟩ := h
  refine ⟨v, ?_, own_below h2 hb⟩
  rw [hb.block g (Array.getElem?_eq_some_iff.1 h1).1]
  exact h1
theorem Wb.lt {w : World} {g : Nat} {l : List UInt8} (h : Wb w g l) : g < w.heap.size := by
  obtain ⟨v, h1, h2⟩ := h
  exact (Array.getElem?_eq_some_iff.1 h1).1
/-- What a refused call is thrown. -/
def thrown (c : Int) : Ending := .panicked [{ v := .iface 93 (.agg #[.int .i64 c]), recovered := false }]
/-- The block in which the writer's bytes lie. -/
def Ow (w : World) (g k : Nat) : Prop := ∃ v, w.heap[g]? = some (.cells #[v] 60 (0, 0)) ∧ v.ownBlock = some k
/-- What the writer leaves alone: all but its box and its bytes. -/
structure Fr (g : Nat) (w w' : World) : Prop where
  bel : Below g w w'
  blk : ∀ k, k < w.heap.size → k ≠ g → ¬ Ow w g k → w'.heap[k]? = w.heap[k]?
  own : ∀ k, k < w.heap.size → Ow w' g k → Ow w g k
theorem Fr.refl (g : Nat) (w : World) : Fr g w w := ⟨Below.refl _ _, fun _ _ _ _ => rfl, fun _ _ h => h⟩
theorem Fr.trans {g : Nat} {a b c : World} (h : Fr g a b) (k : Fr g b c) : Fr g a c :=
  ⟨h.bel.trans k.bel, fun j h1 h2 h3 => (k.blk j (Nat.lt_of_lt_of_le h1 h.bel.size) h2 (fun h4 => h3 (h.own j h1 h4))).trans (h.blk j h1 h2 h3), fun j h1 h2 => h.own j h1 (k.own j (Nat.lt_of_lt_of_le h1 h.bel.size) h2)⟩
theorem Fr.of_below {g : Nat} {w w' : World} (hg : g < w.heap.size) (h : Below w.heap.size w w') : Fr g w w' :=
  ⟨h.mono (Nat.le_of_lt hg), fun k hk _ _ => h.block k hk, fun k hk ⟨v, h1, h2⟩ => ⟨v, by rw [← h.block g hg]; exact h1, h2⟩⟩
/-- A block that came behind the writer's bytes stays. -/
theorem Ow.not_new {w w' : World} {g k : Nat} {l : List UInt8} (hW : Wb w g l) (hb : Below w.heap.size w w') (hk : w.heap.size ≤ k) : ¬ Ow w' g k := by
  rintro ⟨v, h1, h2⟩
  obtain ⟨u, h3, h4⟩ := hW
  rw [hb.block g (Array.getElem?_eq_some_iff.1 h3).1, h3] at h1
  cases h1
  have := own_lt h4 h2
  omega
/-- What a call of the writer leaves: what it puts, or what it throws. -/
def Wr (w : World) (g : Nat) (l : List UInt8) (r : Option (List UInt8)) (e : Ending) (w' : World) : Prop :=
  Fr g w w' ∧
  match r with
  | some m => e = .returned (.tuple #[]) ∧ Wb w' g (l ++ m)
  | none => e = thrown 1
theorem demand_yes (p : Value) (c : Int) (w : World) : Calls Try.prog 18 #[p, .bool true, .int .i64 c] w fun e w' => e = .returned (.tuple #[]) ∧ w' = w := by
  go_enter Try.func18, Try.ntmps18
  go_wp2_with fail
  refine bodyPost_end (results_none rfl _ _ _) rfl ⟨rfl, rfl⟩
theorem demand_no (p : Value) (c : Int) (w : World) : Calls Try.prog 18 #[p, .bool false, .int .i64 c] w fun e w' => e = thrown c ∧ w' = w := by
  go_enter Try.func18, Try.ntmps18
  go_wp2_with fail
  exact ⟨rfl, rfl, rfl⟩
theorem row_cell {w : World} {g j t : Nat} {cs : Array Value} {fr : Nat × Nat} {v : Value} (h : w.heap[g]? = some (.cells cs t fr)) (hj : cs[j]? = some v) : w.cell? ⟨g, j, none⟩ = some v := by
  rw [cell_of_row w g j cs t fr h]
  exact hj
theorem Wb.stored {w w' : World} {g : Nat} {l : List UInt8} {v v' : Value} (hr : w.heap[g]? = some (.cells #[v] 60 (0, 0))) (hb : Below (g + 1) w w') (ho : Own (g + 1) w' v' l) : Wb (w'.setCell ⟨g, 0, none⟩ v') g l := by
  have h1 : w'.heap[g]? = some (.cells #[v] 60 (0, 0)) := by rw [hb.block g (Nat.lt_succ_self g)]; exact hr
  exact ⟨v', heap_setCell_same w' g 0 _ 60 v' h1, ownsRow_setCell_below ho (Nat.lt_succ_self g) v'⟩
theorem enc_pos (n : Nat) : 0 < (enc n).length := by unfold enc; split <;> simp
theorem cell_lt {w w' : World} {g : Nat} {v : Value} (h : w.cell? ⟨g, 0, none⟩ = some v) (hb : Below w.heap.size w w') (hg : g + 1 ≤ w.heap.size) : w'.cell? ⟨g, 0, none⟩ = some v := (World.cell?_of_block (w := w) (hb.block g hg)).trans h
theorem step_app_ty {P : Program} {ops : Array Oper} {o : Oper} {a : Act} {w : World} {K : Act → World → Prop} {Q : Exit → Act → World → Prop} {E : Prop}
    (hg : o.guard = none) (s x : Operand) (t ty : TypeId) (hop : o.op = Op.call { callee := Callee.builtin Builtin.append, args := #[s, x], argTypes := #[t, t] }) (hty : o.type = ty)
    (vs vx : Value) (hs : a.eval s = vs) (hx : a.eval x = vx) {v' : Value} {w' : World} (hr : (Builtin.append_ #[t, t] ty #[vs, vx]).run P w = .ok v' w') (hK : K (a.put o.dst v') w') :
    if Region.wanted o (yielded ops a.tmps) = true then Oper.wp P o a w K Q else E := by
  have hw : Region.wanted o (yielded ops a.tmps) = true := by simp [Region.wanted, hg]
  rw [if_pos hw]
  rw [← hty] at hr
  unfold Oper.wp
  simp [execOp, hop, resolve, invoke, builtin, hs, hx, hr, Result.andThen]
  exact hK
/-- What the writer's last step is: bytes that lie somewhere, appended, and stored. -/
structure ApS (w w3 : World) (g : Nat) (l m : List UInt8) (v : Value) (q : Addr) (cq : Nat) (p' : Option Addr) (c' : Nat) (w4 : World) : Prop where
  run : (Builtin.append_ #[32, 32] 32 #[v, .slice (some q) m.length cq]).run Try.prog w3 = .ok (.slice p' (l.length + m.length) c') w4
  cell3 : w3.cell? ⟨g, 0, none⟩ = some v
  frz3 : w3.frozen? ⟨g, 0, none⟩ = false
  cell : w4.cell? ⟨g, 0, none⟩ = some v
  frz : w4.frozen? ⟨g, 0, none⟩ = false
  fin : Wr w g l (some m) (.returned (.tuple #[])) (w4.setCell ⟨g, 0, none⟩ (.slice p' (l.length + m.length) c'))
theorem ap_of {w w3 : World} {g : Nat} {l m : List UInt8} {v : Value} {q : Addr} {cq : Nat} (hr : w.heap[g]? = some (.cells #[v] 60 (0, 0))) (hO : Own (g + 1) w v l) (hB : Below w.heap.size w w3)
    (hh : Lib.HoldsBytes w3 (.slice (some q) m.length cq) m) (hm : 0 < m.length) (hl : l.length + m.length ≤ 140737488355328) : ∃ p' c' w4, ApS w w3 g l m v q cq p' c' w4 := by
  have hg : g < w.heap.size := (Array.getElem?_eq_some_iff.1 hr).1
  have hO3 : Own (g + 1) w3 v l := own_below hO hB
  have hr3 : w3.heap[g]? = some (.cells #[v] 60 (0, 0)) := by rw [hB.block g hg]; exact hr
  obtain ⟨i0, hi, hz0, hz1, hz2⟩ := info_parts Try.info5
  obtain ⟨p, c, e, h1, h2⟩ := hh
  cases e
  obtain ⟨b, c', w4, hrun, hown', hgrow, hlies, _⟩ := run_append_lies (P := Try.prog) (w := w3) 32 32 (g + 1) 5 i0 (.int .u8 0) 1 1 Try.underlying32 hi hz0 hz1 hz2 rfl (by decide) v l.length (bval l) hO3 q m.length cq (bval m) (by simp [bval]) (by
    intro j u hj
    unfold bval at hj
    rw [List.getElem?_map] at hj
    obtain ⟨x, hx, rfl⟩ := Option.map_eq_some_iff.1 hj
    exact h2 _ rfl j x hx) (by
    intro u hu
    obtain ⟨x, _, rfl⟩ := List.mem_map.1 hu
    rfl) hm (by unfold maxLen; omega) (by omega) (Nat.lt_of_lt_of_le hg hB.size) _ rfl
  have hO4 : Own (g + 1) w4 (.slice (some ⟨b, 0, none⟩) (l.length + m.length) c') (l ++ m) := by
    have := hown'
    unfold Own
    rw [List.length_append]
    simpa [bval] using this
  have hb4 : Below (g + 1) w3 w4 := (Below.refl _ w3).grown hgrow (Nat.lt_of_lt_of_le hg hB.size) (by
    intro k hk
    obtain ⟨_, h | ⟨g', _, _, h, hg, _⟩⟩ := hO3
    · rw [h.1] at hk; cases hk
    · rw [h] at hk; cases hk; exact hg)
  have hbw : Below (g + 1) w w4 := (hB.mono hg).trans hb4
  have hr4 : w4.heap[g]? = some (.cells #[v] 60 (0, 0)) := by rw [hb4.block g (Nat.lt_succ_self g)]; exact hr3
  refine ⟨_, c', w4, hrun, row_cell hr3 rfl, free_of_one hr3, row_cell hr4 rfl, free_of_one hr4, ⟨(hbw.mono (Nat.le_succ g)).setCell (p := ⟨g, 0, none⟩) (Nat.le_refl _) _, ?_, ?_⟩, rfl, Wb.stored hr hbw hO4⟩
  · intro k hk hkg hno
    rw [Below.heap_setCell _ _ _ _ hkg, grown_block hgrow (Nat.lt_of_lt_of_le hk hB.size) (fun h => hno ⟨v, hr, h⟩)]
    exact hB.block k hk
  · rintro k hk ⟨u, hu1, hu2⟩
    have hs := heap_setCell_same w4 g 0 _ 60 (.slice (some ⟨b, 0, none⟩) (l.length + m.length) c') hr4
    rw [hs] at hu1
    cases hu1
    have hbk : b = k := by injection hu2
    subst hbk
    rcases hlies with h | h
    · exact ⟨v, hr, h⟩
    · have := hB.size; omega
set_option maxHeartbeats 1000000 in
set_option maxRecDepth 100000 in
theorem own_calls (g : Nat) (l m : List UInt8) (b : Value) (w : World) (hW : Wb w g l) (hb : Lib.HoldsBytes w b m) (hl : l.length + m.length ≤ 140737488355328) :
    Calls Try.prog 72 #[.pointer (some ⟨g, 0, none⟩), b] w (Wr w g l (if 0 < m.length then some m else none)) := by
  by_cases h0 : 0 < m.length
  · rw [if_pos h0]
    obtain ⟨v, h1, h2⟩ := hW
    have d0 : decide ((0 : Int) < (m.length : Int)) = true := decide_eq_true (by omega)
    obtain ⟨q, cq, rfl, hq, hx⟩ := hb
    obtain ⟨k, rfl⟩ : ∃ k, q = some k := by
      cases q with
      | none => exact absurd (hq rfl) (by intro h; rw [h] at h0; simp at h0)
      | some a => exact ⟨a, rfl⟩
    obtain ⟨p', c', w4, AP⟩ := ap_of (cq := cq) h1 h2 (Below.refl _ _) ⟨_, _, rfl, hq, hx⟩ h0 hl
    have HAP : Hid _ := AP
    have r4 := AP.run
    have c3 := AP.cell3
    have z3 := AP.frz3
    have c4 := AP.cell
    have z4 := AP.frz
    obtain ⟨p, c, rfl⟩ := own_shape h2
    have HRun : Hid _ := r4
    clear h1 h2 hl hq hx AP r4
    go_enter Try.func72, Try.ntmps72
    go_wp2_with fail
    refine (demand_yes _ _ _).mono ?_
    rintro e w1 ⟨rfl, hw⟩
    have hw' := hw.symm
    subst hw'
    clear hw
    go_wp2_with (at_builtin; refine Lib.wpList_append_run _ rfl _ _ 32 32 rfl _ _ rfl rfl _ _ HRun.out ?_)
    refine bodyPost_end (results_none rfl _ _ _) rfl ?_
    exact HAP.out.fin
  · rw [if_neg h0]
    have d0 : decide ((0 : Int) < (m.length : Int)) = false := decide_eq_false (by omega)
    obtain ⟨q, cq, rfl, _, _⟩ := hb
    clear hl hW
    go_enter Try.func72, Try.ntmps72
    go_wp2_with fail
    refine (demand_no _ _ _).mono ?_
    rintro e w1 ⟨rfl, hw⟩
    have hw' := hw.symm
    subst hw'
    unfold thrown
    go_wp2_with fail
    exact ⟨rfl, Fr.refl _ _, rfl⟩
set_option maxHeartbeats 1000000 in
set_option maxRecDepth 100000 in
theorem wnum_calls (g : Nat) (l : List UInt8) (n most : Int) (w : World) (hW : Wb w g l) (hm : most < 9223372036854775808) (hl : l.length ≤ 70368744177664) :
    Calls Try.prog 41 #[.pointer (some ⟨g, 0, none⟩), .int .i64 n, .int .i64 most] w (Wr w g l (if 0 ≤ n ∧ n ≤ most then some (enc n.toNat) else none)) := by
  by_cases h0 : 0 ≤ n ∧ n ≤ most
  · rw [if_pos h0]
    obtain ⟨v, h1, h2⟩ := hW
    have HO : Hid (Own (g + 1) w v l) := h2
    have hE := enc_length n.toNat (by omega)
    have HL : Hid (l.length + (enc n.toNat).length ≤ 140737488355328) := by show _ ≤ _; omega
    have d0 : decide ((0 : Int) ≤ n) = true := decide_eq_true h0.1
    have d1 : decide (n ≤ most) = true := decide_eq_true h0.2
    have N0 : Hid (∀ W, Calls Try.prog 70 #[.slice none 0 0, .int .i64 n] W (NB W (enc n.toNat))) := fun W => num_calls (.slice none 0 0) [] n (by omega) W (holds_nil W) (by simp)
    have hc : w.cell? ⟨g, 0, none⟩ = some v := row_cell h1 rfl
    have HR : Hid (w.heap[g]? = some (.cells #[v] 60 (0, 0))) := h1
    obtain ⟨L, hL⟩ : ∃ L, L = enc n.toNat := ⟨_, rfl⟩
    have HM : Hid (0 < L.length) := by rw [hL]; exact enc_pos _
    rw [← hL] at N0 HL ⊢
    obtain ⟨p, c, rfl⟩ := own_shape h2
    clear h1 h2 hl h0 hE hL hm
    go_enter Try.func41, Try.ntmps41
    go_wp2_with fail
    refine (demand_yes _ _ _).mono ?_
    rintro e w1 ⟨rfl, hw⟩
    have hw' := hw.symm
    subst hw'
    clear hw
    go_wp2_with fail
    go_region_law (first
      | (go_simp; go_at_call 70; refine (N0.out _).mono ?_; rintro e w3 ⟨g3, q3, rfl, h3, hb3⟩; have B3 : Below w.heap.size w w3 := (by first | exact hb3 | exact bel2 (Below.refl _ _).drew hb3); obtain ⟨p', c', w4, AP⟩ := ap_of HR.out HO.out B3 h3 HM.out HL.out; have HAP : Hid _ := AP; have r4 := AP.run; have c3 := AP.cell3; have z3 := AP.frz3; have c4 := AP.cell; have z4 := AP.frz; clear AP h3 hb3 q3 B3)
      | (refine step_app_ty rfl (.tmp 19) (.tmp 21) 32 32 rfl rfl (.slice p l.length c) (.slice (some ⟨g3, 0, none⟩) L.length L.length) rfl rfl (by with_reducible assumption) ?_))
    all_goals go_wp2_with fail
    all_goals refine bodyPost_end (results_none rfl _ _ _) rfl ?_
    all_goals exact HAP.out.fin
  · rw [if_neg h0]
    have d0 : (if (0 : Int) ≤ n then decide (n ≤ most) else false) = false := by split <;> simp_all
    clear hl hW
    by_cases h1 : (0 : Int) ≤ n
    · have d1 : decide ((0 : Int) ≤ n) = true := decide_eq_true h1
      have d2 : decide (n ≤ most) = false := decide_eq_false (fun h => h0 ⟨h1, h⟩)
      go_enter Try.func41, Try.ntmps41
      go_wp2_with fail
      refine (demand_no _ _ _).mono ?_
      rintro e w1 ⟨rfl, hw⟩
      have hw' := hw.symm
      subst hw'
      unfold thrown
      go_wp2_with fail
      exact ⟨rfl, Fr.refl _ _, rfl⟩
    · have d1 : decide ((0 : Int) ≤ n) = false := decide_eq_false h1
      go_enter Try.func41, Try.ntmps41
      go_wp2_with fail
      refine (demand_no _ _ _).mono ?_
      rintro e w1 ⟨rfl, hw⟩
      have hw' := hw.symm
      subst hw'
      unfold thrown
      go_wp2_with fail
      exact ⟨rfl, Fr.refl _ _, rfl⟩
set_option maxHeartbeats 1000000 in
set_option maxRecDepth 100000 in
theorem wtext_calls (g : Nat) (l : List UInt8) (s : ByteArray) (w : World) (hW : Wb w g l) (hl : l.length ≤ 70368744177664) :
    Calls Try.prog 42 #[.pointer (some ⟨g, 0, none⟩), .string s] w (Wr w g l (if s.size ≤ 200 then some (enc s.size ++ s.data.toList) else none)) := by
  by_cases h0 : s.size ≤ 200
  · rw [if_pos h0]
    obtain ⟨v, h1, h2⟩ := hW
    have HO : Hid (Own (g + 1) w v l) := h2
    have hE := enc_length s.size (by omega)
    have hD : s.data.toList.length = s.size := str_len s
    have HL : Hid (l.length + (enc s.size ++ s.data.toList).length ≤ 140737488355328) := by show _ ≤ _; rw [List.length_append]; omega
    have d0 : decide ((s.size : Int) ≤ 200) = true := decide_eq_true (by omega)
    have N0 : Hid (∀ W, Calls Try.prog 71 #[.slice none 0 0, .string s] W (NB W (enc s.size ++ s.data.toList))) := fun W => text_calls (.slice none 0 0) [] s W (holds_nil W) (by omega) (by simp; omega)
    have hc : w.cell? ⟨g, 0, none⟩ = some v := row_cell h1 rfl
    have HR : Hid (w.heap[g]? = some (.cells #[v] 60 (0, 0))) := h1
    obtain ⟨L, hL⟩ : ∃ L, L = enc s.size ++ s.data.toList := ⟨_, rfl⟩
    have HM : Hid (0 < L.length) := by show _ < _; rw [hL, List.length_append]; have := enc_pos s.size; omega
    rw [← hL] at N0 HL ⊢
    obtain ⟨p, c, rfl⟩ := own_shape h2
    clear h1 h2 hl h0 hE hL hD
    go_enter Try.func42, Try.ntmps42
    go_wp2_with fail
    refine (demand_yes _ _ _).mono ?_
    rintro e w1 ⟨rfl, hw⟩
    have hw' := hw.symm
    subst hw'
    clear hw
    go_wp2_with fail
    go_region_law (first
      | (go_simp; go_at_call 71; refine (N0.out _).mono ?_; rintro e w3 ⟨g3, q3, rfl, h3, hb3⟩; have B3 : Below w.heap.size w w3 := (by first | exact hb3 | exact bel2 (Below.refl _ _).drew hb3); obtain ⟨p', c', w4, AP⟩ := ap_of HR.out HO.out B3 h3 HM.out HL.out; have HAP : Hid _ := AP; have r4 := AP.run; have c3 := AP.cell3; have z3 := AP.frz3; have c4 := AP.cell; have z4 := AP.frz; clear AP h3 hb3 q3 B3)
      | (refine step_app_ty rfl (.tmp 13) (.tmp 15) 32 32 rfl rfl (.slice p l.length c) (.slice (some ⟨g3, 0, none⟩) L.length L.length) rfl rfl (by with_reducible assumption) ?_))
    all_goals go_wp2_with fail
    all_goals refine bodyPost_end (results_none rfl _ _ _) rfl ?_
    all_goals exact HAP.out.fin
  · rw [if_neg h0]
    have d0 : decide ((s.size : Int) ≤ 200) = false := decide_eq_false (by omega)
    clear hl hW
    go_enter Try.func42, Try.ntmps42
    go_wp2_with fail
    refine (demand_no _ _ _).mono ?_
    rintro e w1 ⟨rfl, hw⟩
    have hw' := hw.symm
    subst hw'
    unfold thrown
    go_wp2_with fail
    exact ⟨rfl, Fr.refl _ _, rfl⟩
end Go.Proofs.Ytjmonkhkcmcfiaa
namespace Go.Proofs.Ytjmonkhkcmcfiaa
open Go.ChangeShapes Go.WideShapes Go.ChangeAt Go.RowKit
/-- What is put of a number, of a text, of a value; one behind the other. -/
def nB (n most : Int) : Option (List UInt8) := if 0 ≤ n ∧ n ≤ most then some (enc n.toNat) else none
def tB (s : ByteArray) : Option (List UInt8) := if s.size ≤ 200 then some (enc s.size ++ s.data.toList) else none
open Classical in
noncomputable def vB (n : Nat) (t : Tv) : Option (List UInt8) := if ShapeT n 4 t ∧ (bytesT n t).length ≤ 1000 then some (bytesT n t) else none
def sq : Option (List UInt8) → Option (List UInt8) → Option (List UInt8)
  | some a, some b => some (a ++ b)
  | _, _ => none
theorem Wr.some {w w' : World} {g : Nat} {l m : List UInt8} {e : Ending} (h : Wr w g l (Option.some m) e w') : Fr g w w' ∧ e = .returned (.tuple #[]) ∧ Wb w' g (l ++ m) := h
theorem Wr.none {w w' : World} {g : Nat} {l : List UInt8} {e : Ending} (h : Wr w g l Option.none e w') : Fr g w w' ∧ e = thrown 1 := h
theorem nB_len {n most : Int} {m : List UInt8} (h : nB n most = some m) (hm : most < 9223372036854775808) : m.length ≤ 9 := by
  unfold nB at h
  split at h
  · rename_i hc
    cases h
    exact enc_length _ (by omega)
  · cases h
theorem tB_len {s : ByteArray} {m : List UInt8} (h : tB s = some m) : m.length ≤ 209 := by
  unfold tB at h
  split at h
  · rename_i hc
    cases h
    have := enc_length s.size (by omega)
    have := str_len s
    rw [List.length_append]
    omega
  · cases h
theorem vB_len {n : Nat} {t : Tv} {m : List UInt8} (h : vB n t = some m) : m.length ≤ 1000 := by
  unfold vB at h
  split at h
  · rename_i hc
    cases h
    exact hc.2
  · cases h
theorem bytesT_pos {n : Nat} {t : Tv} (h : ShapeT n 4 t) : 0 < (bytesT n t).length := by
  cases n with
  | zero => exact h.elim
  | succ n => obtain ⟨k, x, b, s, l⟩ := t; unfold bytesT; rw [List.length_append]; have := enc_pos k.toNat; omega
set_option maxHeartbeats 1000000 in
set_option maxRecDepth 100000 in
theorem wvalue_calls (n g : Nat) (l : List UInt8) (v : Value) (t : Tv) (w : World) (hW : Wb w g l) (hI : Is w n v t) (hl : l.length ≤ 70368744177664) :
    Calls Try.prog 43 #[.pointer (some ⟨g, 0, none⟩), v] w (Wr w g l (vB n t)) := by
  have HW : Hid (Wb w g l) := hW
  have HI : Hid (Is w n v t) := hI
  have HL : Hid (l.length ≤ 70368744177664) := hl
  obtain ⟨k', x', b', s', a', m', c', rfl⟩ : ∃ k x b s a m c, v = .agg #[.int .i64 k, .int .i64 x, .int .u64 b, .string s, .slice a m c] := by
    cases n with
    | zero => exact hI.elim
    | succ n => obtain ⟨k, x, b, s, l⟩ := t; obtain ⟨a, c, rfl, _⟩ := hI; exact ⟨_, _, _, _, _, _, _, rfl⟩
  have P0 : Hid (∀ W, Below w.heap.size w W → Calls Try.prog 73 #[.slice none 0 0, .agg #[.int .i64 k', .int .i64 x', .int .u64 b', .string s', .slice a' m' c']] W _) := fun W hB => put_calls n _ t (.slice none 0 0) [] W (hI.below hB) (holds_nil W) (by simp)
  clear hW hI hl
  go_enter Try.func43, Try.ntmps43
  go_wp2_with fail
  refine (P0.out _ (bel1 _ _)).mono ?_
  rintro e w2 ⟨v', rfl, h1, h2, hb⟩
  have HB : Hid (Below w.heap.size w w2) := bel2 (bel1 _ _) hb
  have HF : Hid (Fr g w w2) := Fr.of_below HW.out.lt HB.out
  by_cases hok : ShapeT n 4 t ∧ (bytesT n t).length ≤ 1000
  · have HO : Hid (vB n t = some (bytesT n t)) := by show _ = _; unfold vB; rw [if_pos hok]
    have hv := h1 hok
    rw [List.nil_append] at hv
    have OC := own_calls g l (bytesT n t) v' w2 (HW.out.below HB.out) hv (by have := HL.out; have := hok.2; omega)
    rw [if_pos (bytesT_pos hok.1)] at OC
    have HC : Hid _ := OC
    obtain ⟨q, cq, rfl, _, _⟩ := hv
    clear h1 h2 hb OC hok P0 HI
    go_wp2_with fail
    refine Calls.mono HC.out ?_
    intro e w3 hw
    obtain ⟨f3, rfl, W3⟩ := hw.some
    clear hw
    go_wp2_with fail
    refine bodyPost_end (results_none rfl _ _ _) rfl ?_
    rw [HO.out]
    exact ⟨HF.out.trans f3, rfl, W3⟩
  · have HO : Hid (vB n t = none) := by show _ = _; unfold vB; rw [if_neg hok]
    have hv := h2 hok
    have OC := own_calls g l [] v' w2 (HW.out.below HB.out) hv (by have := HL.out; simp; omega)
    rw [if_neg (by simp)] at OC
    have HC : Hid _ := OC
    obtain ⟨q, cq, rfl, _, _⟩ := hv
    clear h1 h2 hb OC hok P0 HI
    go_wp2_with fail
    refine Calls.mono HC.out ?_
    intro e w3 hw
    obtain ⟨f3, rfl⟩ := hw.none
    clear hw
    unfold thrown
    go_wp2_with fail
    rw [HO.out]
    exact ⟨rfl, HF.out.trans f3, rfl⟩
/-- A box that the writer leaves alone. -/
structure Bq (w : World) (g h T : Nat) (cs : Array Value) : Prop where
  row : w.heap[h]? = some (.cells cs T (0, 0))
  ne : h ≠ g
  no : ¬ Ow w g h
theorem Bq.fr {w w' : World} {g h T : Nat} {cs : Array Value} (b : Bq w g h T cs) (f : Fr g w w') : Bq w' g h T cs :=
  have hl : h < w.heap.size := (Array.getElem?_eq_some_iff.1 b.row).1
  ⟨by rw [f.blk h hl b.ne b.no]; exact b.row, b.ne, fun k => b.no (f.own h hl k)⟩
theorem Bq.new {w : World} {g : Nat} {l : List UInt8} (hW : Wb w g l) (T : Nat) (cs : Array Value) : Bq (w.alloc (.cells cs T)) g w.heap.size T cs :=
  ⟨heap_alloc_new w _, Nat.ne_of_gt hW.lt, Ow.not_new hW (bel1 _ _) (Nat.le_refl _)⟩
theorem wn_calls (g : Nat) (l : List UInt8) (n most : Int) (w : World) (hW : Wb w g l) (hm : most < 9223372036854775808) (hl : l.length ≤ 70368744177664) :
    Calls Try.prog 41 #[.pointer (some ⟨g, 0, none⟩), .int .i64 n, .int .i64 most] w (Wr w g l (nB n most)) := wnum_calls g l n most w hW hm hl
theorem wt_calls (g : Nat) (l : List UInt8) (s : ByteArray) (w : World) (hW : Wb w g l) (hl : l.length ≤ 70368744177664) :
    Calls Try.prog 42 #[.pointer (some ⟨g, 0, none⟩), .string s] w (Wr w g l (tB s)) := wtext_calls g l s w hW hl
/-- What is put of an answer. -/
noncomputable def aB (n : Nat) (op : Int) (t : Tv) : Option (List UInt8) := sq (nB op 4611686018427387904) (vB n t)
set_option maxHeartbeats 1000000 in
set_option maxRecDepth 100000 in
theorem wanswer_calls (n g : Nat) (l : List UInt8) (op k x b : Int) (s : ByteArray) (a : Option Addr) (m c : Nat) (t : Tv) (wb w : World) (hW : Wb w g l) (hb : Below wb.heap.size wb w) (hg : wb.heap.size ≤ g) (hI : Is wb n (.agg #[.int .i64 k, .int .i64 x, .int .u64 b, .string s, .slice a m c]) t) (hl : l.length ≤ 35184372088832) :
    Calls Try.prog 48 #[.pointer (some ⟨g, 0, none⟩), .agg #[.int .i64 op, .int .i64 k, .int .i64 x, .int .u64 b, .string s, .slice a m c]] w (Wr w g l (aB n op t)) := by
  have HW : Hid (Wb w g l) := hW
  have HL : Hid (l.length ≤ 35184372088832) := hl
  have HI : Hid (Is wb n (.agg #[.int .i64 k, .int .i64 x, .int .u64 b, .string s, .slice a m c]) t) := hI
  have HB : Hid (Below wb.heap.size wb w) := hb
  have HG : Hid (wb.heap.size ≤ g) := hg
  clear hW hI hl hb hg
  go_enter Try.func48, Try.ntmps48
  go_upto_region 1 with fail
  have X0 : Bq (w.alloc (.cells #[.int .i64 op, .int .i64 k, .int .i64 x, .int .u64 b, .string s, .slice a m c] 73)) g w.heap.size 73 #[.int .i64 op, .int .i64 k, .int .i64 x, .int .u64 b, .string s, .slice a m c] := Bq.new HW.out _ _
  have B0 : Hid (Below w.heap.size w (w.alloc (.cells #[.int .i64 op, .int .i64 k, .int .i64 x, .int .u64 b, .string s, .slice a m c] 73))) := bel1 _ _
  generalize w.alloc (.cells #[.int .i64 op, .int .i64 k, .int .i64 x, .int .u64 b, .string s, .slice a m c] 73) = w0 at X0 B0 ⊢
  have F0 : Hid (Fr g w w0) := Fr.of_below HW.out.lt B0.out
  have HX0 : Hid (Bq w0 g w.heap.size 73 _) := X0
  have c0 : w0.cell? ⟨w.heap.size, 0, none⟩ = some (.int .i64 op) := row_cell X0.row rfl
  clear X0
  have N0 : Hid (Calls Try.prog 41 _ w0 _) := wn_calls g l op 4611686018427387904 w0 (HW.out.below B0.out) (by decide) (by have := HL.out; omega)
  go_wp2_with fail
  refine Calls.mono N0.out ?_
  intro e w1 hw
  cases hn : nB op 4611686018427387904 with
  | none =>
    rw [hn] at hw
    obtain ⟨f1, rfl⟩ := hw.none
    have HO : Hid (aB n op t = none) := by show _ = _; unfold aB; rw [hn]; rfl
    clear hw hn
    unfold thrown
    go_wp2_with fail
    rw [HO.out]
    exact ⟨rfl, F0.out.trans f1, rfl⟩
  | some m1 =>
    rw [hn] at hw
    obtain ⟨f1, rfl, W1⟩ := hw.some
    have HX1 : Bq w1 g w.heap.size 73 _ := HX0.out.fr f1
    have F1 : Hid (Fr g w w1) := F0.out.trans f1
    have HM : Hid (nB op 4611686018427387904 = some m1) := hn
    have hml := nB_len hn (by decide)
    have y1 : w1.cell? ⟨w.heap.size, 1, none⟩ = some (.int .i64 k) := row_cell HX1.row rfl
    have y2 : w1.cell? ⟨w.heap.size, 2, none⟩ = some (.int .i64 x) := row_cell HX1.row rfl
    have y3 : w1.cell? ⟨w.heap.size, 3, none⟩ = some (.int .u64 b) := row_cell HX1.row rfl
    have y4 : w1.cell? ⟨w.heap.size, 4, none⟩ = some (.string s) := row_cell HX1.row rfl
    have y5 : w1.cell? ⟨w.heap.size, 5, none⟩ = some (.slice a m c) := row_cell HX1.row rfl
    have V0 : Hid (Calls Try.prog 43 _ w1 _) := wvalue_calls n g (l ++ m1) _ t w1 W1 (HI.out.below (HB.out.trans (F1.out.bel.mono HG.out))) (by rw [List.length_append]; have := HL.out; omega)
    clear hw hn c0 f1 W1 HX1
    go_wp2_with fail
    refine Calls.mono V0.out ?_
    intro e w2 hw
    cases hv : vB n t with
    | none =>
      rw [hv] at hw
      obtain ⟨f2, rfl⟩ := hw.none
      have HO : Hid (aB n op t = none) := by show _ = _; unfold aB; rw [HM.out, hv]; rfl
      clear hw hv
      unfold thrown
      go_wp2_with fail
      rw [HO.out]
      exact ⟨rfl, F1.out.trans f2, rfl⟩
    | some m2 =>
      rw [hv] at hw
      obtain ⟨f2, rfl, W2⟩ := hw.some
      have HO : Hid (aB n op t = some (m1 ++ m2)) := by show _ = _; unfold aB; rw [HM.out, hv]; rfl
      have W3 : Wb w2 g (l ++ (m1 ++ m2)) := by rw [← List.append_assoc]; exact W2
      clear hw hv
      go_wp2_with fail
      refine bodyPost_end (results_none rfl _ _ _) rfl ?_
      rw [HO.out]
      exact ⟨F1.out.trans f2, rfl, W3⟩
end Go.Proofs.Ytjmonkhkcmcfiaa
namespace Go.Proofs.Ytjmonkhkcmcfiaa
open Go.ChangeShapes Go.WideShapes Go.ChangeAt Go.RowKit
/-- What is put of a command, of a policy. -/
noncomputable def cB (n : Nat) (ck : Int) (nm : ByteArray) (t : Tv) (dl : Int) : Option (List UInt8) := sq (nB ck 255) (sq (tB nm) (sq (vB n t) (nB dl 4611686018427387904)))
def pB (pf : Int) (pc : Nat) (pm : Int) : Option (List UInt8) := sq (nB pf 4611686018427387904) (sq (some (be pc 8)) (nB pm 4611686018427387904))
set_option maxHeartbeats 1000000 in
set_option maxRecDepth 100000 in
theorem wcommand_calls (n g : Nat) (l : List UInt8) (ck : Int) (nm : ByteArray) (k x b : Int) (s : ByteArray) (a : Option Addr) (m c : Nat) (t : Tv) (dl : Int) (wb w : World) (hW : Wb w g l) (hb : Below wb.heap.size wb w) (hg : wb.heap.size ≤ g) (hI : Is wb n (.agg #[.int .i64 k, .int .i64 x, .int .u64 b, .string s, .slice a m c]) t) (hl : l.length ≤ 35184372088832) :
    Calls Try.prog 46 #[.pointer (some ⟨g, 0, none⟩), .agg #[.int .i64 ck, .string nm, .int .i64 k, .int .i64 x, .int .u64 b, .string s, .slice a m c, .int .i64 dl]] w (Wr w g l (cB n ck nm t dl)) := by
  have HW : Hid (Wb w g l) := hW
  have HL : Hid (l.length ≤ 35184372088832) := hl
  have HB : Hid (Below wb.heap.size wb w) := hb
  have HG : Hid (wb.heap.size ≤ g) := hg
  have HI : Hid (Is wb n (.agg #[.int .i64 k, .int .i64 x, .int .u64 b, .string s, .slice a m c]) t) := hI
  clear hI
  clear hW hl hb hg
  go_enter Try.func46, Try.ntmps46
  go_upto_region 1 with fail
  have X0 : Bq (w.alloc (.cells #[.int .i64 ck, .string nm, .int .i64 k, .int .i64 x, .int .u64 b, .string s, .slice a m c, .int .i64 dl] 71)) g w.heap.size 71 #[.int .i64 ck, .string nm, .int .i64 k, .int .i64 x, .int .u64 b, .string s, .slice a m c, .int .i64 dl] := Bq.new HW.out _ _
  have B0 : Hid (Below w.heap.size w (w.alloc (.cells #[.int .i64 ck, .string nm, .int .i64 k, .int .i64 x, .int .u64 b, .string s, .slice a m c, .int .i64 dl] 71))) := bel1 _ _
  generalize w.alloc (.cells #[.int .i64 ck, .string nm, .int .i64 k, .int .i64 x, .int .u64 b, .string s, .slice a m c, .int .i64 dl] 71) = w0 at X0 B0 ⊢
  have F0 : Hid (Fr g w w0) := Fr.of_below HW.out.lt B0.out
  have HX0 : Hid (Bq w0 g w.heap.size 71 #[.int .i64 ck, .string nm, .int .i64 k, .int .i64 x, .int .u64 b, .string s, .slice a m c, .int .i64 dl]) := X0
  have W0 : Hid (Wb w0 g l) := HW.out.below B0.out
  clear X0
  have y0 : w0.cell? ⟨w.heap.size, 0, none⟩ = some (.int .i64 ck) := row_cell HX0.out.row rfl
  have N1 : Hid (Calls Try.prog 41 _ w0 _) := wn_calls g (l) ck 255 w0 W0.out (by decide) (by have := HL.out; (try simp only [List.length_append]); omega)
  go_wp2_with fail
  refine Calls.mono N1.out ?_
  intro e w1 hw
  rcases hn1 : nB ck 255 with _ | m1
  · rw [hn1] at hw
    obtain ⟨f1, rfl⟩ := hw.none
    have HO : Hid (cB n ck nm t dl = none) := by show _ = _; unfold cB;  rw [hn1]; rfl
    clear hw hn1
    unfold thrown
    go_wp2_with fail
    rw [HO.out]
    exact ⟨rfl, F0.out.trans f1, rfl⟩
  rw [hn1] at hw
  obtain ⟨f1, rfl, wn1⟩ := hw.some
  have F1 : Hid (Fr g w w1) := F0.out.trans f1
  have HX1 : Hid (Bq w1 g w.heap.size 71 #[.int .i64 ck, .string nm, .int .i64 k, .int .i64 x, .int .u64 b, .string s, .slice a m c, .int .i64 dl]) := HX0.out.fr f1
  have W1 : Hid (Wb w1 g (l ++ m1)) := wn1
  have HM1 : Hid (nB ck 255 = some m1) := hn1
  have HE1 : Hid (m1.length ≤ 9) := nB_len hn1 (by decide)
  clear hw hn1 f1 wn1 y0
  have y1 : w1.cell? ⟨w.heap.size, 1, none⟩ = some (.string nm) := row_cell HX1.out.row rfl
  have N2 : Hid (Calls Try.prog 42 _ w1 _) := wt_calls g (l ++ m1) nm w1 W1.out (by have := HL.out; have := HE1.out; (try simp only [List.length_append]); omega)
  go_wp2_with fail
  refine Calls.mono N2.out ?_
  intro e w2 hw
  rcases hn2 : tB nm with _ | m2
  · rw [hn2] at hw
    obtain ⟨f1, rfl⟩ := hw.none
    have HO : Hid (cB n ck nm t dl = none) := by show _ = _; unfold cB; try rw [HM1.out]; rw [hn2]; rfl
    clear hw hn2
    unfold thrown
    go_wp2_with fail
    rw [HO.out]
    exact ⟨rfl, F1.out.trans f1, rfl⟩
  rw [hn2] at hw
  obtain ⟨f1, rfl, wn1⟩ := hw.some
  have F2 : Hid (Fr g w w2) := F1.out.trans f1
  have HX2 : Hid (Bq w2 g w.heap.size 71 #[.int .i64 ck, .string nm, .int .i64 k, .int .i64 x, .int .u64 b, .string s, .slice a m c, .int .i64 dl]) := HX1.out.fr f1
  have W2 : Hid (Wb w2 g (l ++ m1 ++ m2)) := wn1
  have HM2 : Hid (tB nm = some m2) := hn2
  have HE2 : Hid (m2.length ≤ 209) := tB_len hn2
  clear hw hn2 f1 wn1 y1
  have y2 : w2.cell? ⟨w.heap.size, 2, none⟩ = some (.int .i64 k) := row_cell HX2.out.row rfl
  have y3 : w2.cell? ⟨w.heap.size, 3, none⟩ = some (.int .i64 x) := row_cell HX2.out.row rfl
  have y4 : w2.cell? ⟨w.heap.size, 4, none⟩ = some (.int .u64 b) := row_cell HX2.out.row rfl
  have y5 : w2.cell? ⟨w.heap.size, 5, none⟩ = some (.string s) := row_cell HX2.out.row rfl
  have y6 : w2.cell? ⟨w.heap.size, 6, none⟩ = some (.slice a m c) := row_cell HX2.out.row rfl
  have N3 : Hid (Calls Try.prog 43 _ w2 _) := wvalue_calls n g (l ++ m1 ++ m2) _ t w2 W2.out (HI.out.below (HB.out.trans (F2.out.bel.mono HG.out))) (by have := HL.out; have := HE1.out; have := HE2.out; (try simp only [List.length_append]); omega)
  go_wp2_with fail
  refine Calls.mono N3.out ?_
  intro e w3 hw
  rcases hn3 : vB n t with _ | m3
  · rw [hn3] at hw
    obtain ⟨f1, rfl⟩ := hw.none
    have HO : Hid (cB n ck nm t dl = none) := by show _ = _; unfold cB; try rw [HM1.out]; try rw [HM2.out]; rw [hn3]; rfl
    clear hw hn3
    unfold thrown
    go_wp2_with fail
    rw [HO.out]
    exact ⟨rfl, F2.out.trans f1, rfl⟩
  rw [hn3] at hw
  obtain ⟨f1, rfl, wn1⟩ := hw.some
  have F3 : Hid (Fr g w w3) := F2.out.trans f1
  have HX3 : Hid (Bq w3 g w.heap.size 71 #[.int .i64 ck, .string nm, .int .i64 k, .int .i64 x, .int .u64 b, .string s, .slice a m c, .int .i64 dl]) := HX2.out.fr f1
  have W3 : Hid (Wb w3 g (l ++ m1 ++ m2 ++ m3)) := wn1
  have HM3 : Hid (vB n t = some m3) := hn3
  have HE3 : Hid (m3.length ≤ 1000) := vB_len hn3
  clear hw hn3 f1 wn1 y2 y3 y4 y5 y6
  have y7 : w3.cell? ⟨w.heap.size, 7, none⟩ = some (.int .i64 dl) := row_cell HX3.out.row rfl
  have N4 : Hid (Calls Try.prog 41 _ w3 _) := wn_calls g (l ++ m1 ++ m2 ++ m3) dl 4611686018427387904 w3 W3.out (by decide) (by have := HL.out; have := HE1.out; have := HE2.out; have := HE3.out; (try simp only [List.length_append]); omega)
  go_wp2_with fail
  refine Calls.mono N4.out ?_
  intro e w4 hw
  rcases hn4 : nB dl 4611686018427387904 with _ | m4
  · rw [hn4] at hw
    obtain ⟨f1, rfl⟩ := hw.none
    have HO : Hid (cB n ck nm t dl = none) := by show _ = _; unfold cB; try rw [HM1.out]; try rw [HM2.out]; try rw [HM3.out]; rw [hn4]; rfl
    clear hw hn4
    unfold thrown
    go_wp2_with fail
    rw [HO.out]
    exact ⟨rfl, F3.out.trans f1, rfl⟩
  rw [hn4] at hw
  obtain ⟨f1, rfl, wn1⟩ := hw.some
  have F4 : Hid (Fr g w w4) := F3.out.trans f1
  have HX4 : Hid (Bq w4 g w.heap.size 71 #[.int .i64 ck, .string nm, .int .i64 k, .int .i64 x, .int .u64 b, .string s, .slice a m c, .int .i64 dl]) := HX3.out.fr f1
  have W4 : Hid (Wb w4 g (l ++ m1 ++ m2 ++ m3 ++ m4)) := wn1
  have HM4 : Hid (nB dl 4611686018427387904 = some m4) := hn4
  have HE4 : Hid (m4.length ≤ 9) := nB_len hn4 (by decide)
  clear hw hn4 f1 wn1 y7
  have HO : Hid (cB n ck nm t dl = some (m1 ++ (m2 ++ (m3 ++ m4)))) := by show _ = _; unfold cB; rw [HM1.out, HM2.out, HM3.out, HM4.out]; rfl
  have W5 : Wb w4 g (l ++ (m1 ++ (m2 ++ (m3 ++ m4)))) := by have := W4.out; simp only [List.append_assoc] at this; exact this
  go_wp2_with fail
  refine bodyPost_end (results_none rfl _ _ _) rfl ?_
  rw [HO.out]
  exact ⟨F4.out, rfl, W5⟩
set_option maxHeartbeats 1000000 in
set_option maxRecDepth 100000 in
theorem wpolicy_calls (_n g : Nat) (l : List UInt8) (pf : Int) (pc : Nat) (pm : Int) (wb w : World) (hW : Wb w g l) (hb : Below wb.heap.size wb w) (hg : wb.heap.size ≤ g) (hl : l.length ≤ 35184372088832) :
    Calls Try.prog 44 #[.pointer (some ⟨g, 0, none⟩), .agg #[.int .i64 pf, .int .u64 (pc : Int), .int .i64 pm]] w (Wr w g l (pB pf pc pm)) := by
  have HW : Hid (Wb w g l) := hW
  have HL : Hid (l.length ≤ 35184372088832) := hl
  have HB : Hid (Below wb.heap.size wb w) := hb
  have HG : Hid (wb.heap.size ≤ g) := hg
  clear hW hl hb hg
  go_enter Try.func44, Try.ntmps44
  go_upto_region 1 with fail
  have X0 : Bq (w.alloc (.cells #[.int .i64 pf, .int .u64 (pc : Int), .int .i64 pm] 27)) g w.heap.size 27 #[.int .i64 pf, .int .u64 (pc : Int), .int .i64 pm] := Bq.new HW.out _ _
  have B0 : Hid (Below w.heap.size w (w.alloc (.cells #[.int .i64 pf, .int .u64 (pc : Int), .int .i64 pm] 27))) := bel1 _ _
  generalize w.alloc (.cells #[.int .i64 pf, .int .u64 (pc : Int), .int .i64 pm] 27) = w0 at X0 B0 ⊢
  have F0 : Hid (Fr g w w0) := Fr.of_below HW.out.lt B0.out
  have HX0 : Hid (Bq w0 g w.heap.size 27 #[.int .i64 pf, .int .u64 (pc : Int), .int .i64 pm]) := X0
  have W0 : Hid (Wb w0 g l) := HW.out.below B0.out
  clear X0
  have y0 : w0.cell? ⟨w.heap.size, 0, none⟩ = some (.int .i64 pf) := row_cell HX0.out.row rfl
  have N1 : Hid (Calls Try.prog 41 _ w0 _) := wn_calls g (l) pf 4611686018427387904 w0 W0.out (by decide) (by have := HL.out; (try simp only [List.length_append]); omega)
  go_wp2_with fail
  refine Calls.mono N1.out ?_
  intro e w1 hw
  rcases hn1 : nB pf 4611686018427387904 with _ | m1
  · rw [hn1] at hw
    obtain ⟨f1, rfl⟩ := hw.none
    have HO : Hid (pB pf pc pm = none) := by show _ = _; unfold pB;  rw [hn1]; rfl
    clear hw hn1
    unfold thrown
    go_wp2_with fail
    rw [HO.out]
    exact ⟨rfl, F0.out.trans f1, rfl⟩
  rw [hn1] at hw
  obtain ⟨f1, rfl, wn1⟩ := hw.some
  have F1 : Hid (Fr g w w1) := F0.out.trans f1
  have HX1 : Hid (Bq w1 g w.heap.size 27 #[.int .i64 pf, .int .u64 (pc : Int), .int .i64 pm]) := HX0.out.fr f1
  have W1 : Hid (Wb w1 g (l ++ m1)) := wn1
  have HM1 : Hid (nB pf 4611686018427387904 = some m1) := hn1
  have HE1 : Hid (m1.length ≤ 9) := nB_len hn1 (by decide)
  clear hw hn1 f1 wn1 y0
  have y1 : w1.cell? ⟨w.heap.size, 1, none⟩ = some (.int .u64 (pc : Int)) := row_cell HX1.out.row rfl
  obtain ⟨La, hLa⟩ : ∃ L, L = l ++ m1 := ⟨_, rfl⟩
  have WL2 : Wb w1 g La := by rw [hLa]; exact W1.out
  have HLa : Hid (La = l ++ m1) := hLa
  obtain ⟨v2, r2, o2⟩ := WL2
  have HR2 : Hid (w1.heap[g]? = some (.cells #[v2] 60 (0, 0))) := r2
  have HO2 : Hid (Own (g + 1) w1 v2 _) := o2
  have z2 : w1.cell? ⟨g, 0, none⟩ = some v2 := row_cell r2 rfl
  have N2 : Hid (∀ W, Calls Try.prog 74 #[.slice none 0 0, .int .u64 (pc : Int)] W (NB W (be pc 8))) := fun W => bits_calls (.slice none 0 0) [] pc W (holds_nil W) (by simp)
  have hE2 := be_length pc 8
  obtain ⟨m2, hm2⟩ : ∃ m, m = be pc 8 := ⟨_, rfl⟩
  rw [← hm2] at N2 hE2
  have HM2 : Hid (0 < m2.length) := by show _ < _; omega
  have HE2 : Hid (m2.length ≤ 9) := by show _ ≤ _; omega
  have HQ2 : Hid (m2 = be pc 8) := hm2
  have HLb : Hid (La.length + m2.length ≤ 140737488355328) := by show _ ≤ _; rw [hLa]; exact (by have := HL.out; have := HE1.out; have := HE2.out; (try simp only [List.length_append]); omega)
  obtain ⟨p, q, rfl⟩ := own_shape o2
  clear r2 o2 hm2 hE2 hLa
  go_upto_region 2 with fail
  go_region_law (first
    | (go_simp; go_at_call 74; refine Calls.mono (N2.out _) ?_; rintro e w3 ⟨g3, q3, rfl, h3, hb3⟩; have B3 : Below w1.heap.size w1 w3 := (by first | exact hb3 | exact bel2 (Below.refl _ _).drew hb3); obtain ⟨p', c', w4, AP⟩ := ap_of HR2.out HO2.out B3 h3 HM2.out HLb.out; have HAP : Hid _ := AP; have r4 := AP.run; have c3 := AP.cell3; have z3 := AP.frz3; have c4 := AP.cell; have z4 := AP.frz; clear AP h3 hb3 q3 B3)
    | (refine step_app_ty rfl (.tmp 12) (.tmp 15) 32 32 rfl rfl (.slice p La.length q) (.slice (some ⟨g3, 0, none⟩) m2.length m2.length) rfl rfl (by with_reducible assumption) ?_))
  all_goals
    go_upto_region 3 with fail
    obtain ⟨fx, _, WX⟩ := HAP.out.fin.some
    have F2 : Hid (Fr g w (w4.setCell ⟨g, 0, none⟩ (.slice p' (La.length + m2.length) c'))) := F1.out.trans fx
    have HX2 : Hid (Bq (w4.setCell ⟨g, 0, none⟩ (.slice p' (La.length + m2.length) c')) g w.heap.size 27 #[.int .i64 pf, .int .u64 (pc : Int), .int .i64 pm]) := HX1.out.fr fx
    have W2 : Hid (Wb (w4.setCell ⟨g, 0, none⟩ (.slice p' (La.length + m2.length) c')) g (l ++ m1 ++ m2)) := by show Wb _ _ _; rw [← HLa.out]; exact WX
    clear HAP r4 c3 z3 c4 z4 fx WX z2 HLb
    generalize (w4.setCell ⟨g, 0, none⟩ (.slice p' (La.length + m2.length) c')) = w2 at F2 HX2 W2 ⊢
    have y2 : w2.cell? ⟨w.heap.size, 2, none⟩ = some (.int .i64 pm) := row_cell HX2.out.row rfl
    have N3 : Hid (Calls Try.prog 41 _ w2 _) := wn_calls g (l ++ m1 ++ m2) pm 4611686018427387904 w2 W2.out (by decide) (by have := HL.out; have := HE1.out; have := HE2.out; (try simp only [List.length_append]); omega)
    go_wp2_with fail
    refine Calls.mono N3.out ?_
    intro e w3 hw
    rcases hn3 : nB pm 4611686018427387904 with _ | m3
    · rw [hn3] at hw
      obtain ⟨f1, rfl⟩ := hw.none
      have HO : Hid (pB pf pc pm = none) := by show _ = _; unfold pB; try rw [HM1.out]; rw [hn3]; rfl
      clear hw hn3
      unfold thrown
      go_wp2_with fail
      rw [HO.out]
      exact ⟨rfl, F2.out.trans f1, rfl⟩
    rw [hn3] at hw
    obtain ⟨f1, rfl, wn1⟩ := hw.some
    have F3 : Hid (Fr g w w3) := F2.out.trans f1
    have HX3 : Hid (Bq w3 g w.heap.size 27 #[.int .i64 pf, .int .u64 (pc : Int), .int .i64 pm]) := HX2.out.fr f1
    have W3 : Hid (Wb w3 g (l ++ m1 ++ m2 ++ m3)) := wn1
    have HM3 : Hid (nB pm 4611686018427387904 = some m3) := hn3
    have HE3 : Hid (m3.length ≤ 9) := nB_len hn3 (by decide)
    clear hw hn3 f1 wn1 y2
    have HO : Hid (pB pf pc pm = some (m1 ++ (m2 ++ m3))) := by show _ = _; unfold pB; rw [HM1.out, HM3.out, HQ2.out]; rfl
    have W5 : Wb w3 g (l ++ (m1 ++ (m2 ++ m3))) := by have := W3.out; simp only [List.append_assoc] at this; exact this
    go_wp2_with fail
    refine bodyPost_end (results_none rfl _ _ _) rfl ?_
    rw [HO.out]
    exact ⟨F3.out, rfl, W5⟩
end Go.Proofs.Ytjmonkhkcmcfiaa
namespace Go.Proofs.Ytjmonkhkcmcfiaa
open Go.ChangeShapes Go.WideShapes Go.ChangeAt Go.RowKit
/-- What is put of each of a list, one behind the other. -/
def allB {α : Type} (f : α → Option (List UInt8)) : List α → Option (List UInt8)
  | [] => some []
  | x :: r => sq (f x) (allB f r)
def lB {α : Type} (f : α → Option (List UInt8)) (most : Int) (l : List α) : Option (List UInt8) := sq (nB l.length most) (allB f l)
theorem allB_snoc {α : Type} {f : α → Option (List UInt8)} {x : α} {m a : List UInt8} (hx : f x = some m) : ∀ {l : List α} {a : List UInt8}, allB f l = some a → allB f (l ++ [x]) = some (a ++ m)
  | [], a, h => by cases h; simp [allB, hx, sq]
  | y :: r, a, h => by
    unfold allB at h
    cases hy : f y with
    | none => rw [hy] at h; cases h
    | some b =>
      cases hr : allB f r with
      | none => rw [hy, hr] at h; cases h
      | some c =>
        rw [hy, hr] at h
        cases h
        have := allB_snoc (a := a) hx hr
        show sq (f y) (allB f (r ++ [x])) = _
        rw [this, hy]
        simp [sq]
theorem allB_none {α : Type} {f : α → Option (List UInt8)} {x : α} (hx : f x = none) : ∀ {l : List α}, x ∈ l → allB f l = none
  | y :: r, h => by
    rcases List.mem_cons.1 h with rfl | h
    · unfold allB; rw [hx]; rfl
    · unfold allB
      rw [allB_none hx h]
      cases f y <;> rfl
theorem allB_len {α : Type} {f : α → Option (List UInt8)} {K : Nat} (hf : ∀ x m, f x = some m → m.length ≤ K) : ∀ {l : List α} {a : List UInt8}, allB f l = some a → a.length ≤ K * l.length
  | [], a, h => by cases h; simp
  | y :: r, a, h => by
    unfold allB at h
    cases hy : f y with
    | none => rw [hy] at h; cases h
    | some b =>
      cases hr : allB f r with
      | none => rw [hy, hr] at h; cases h
      | some c =>
        rw [hy, hr] at h
        cases h
        have h1 := hf y b hy
        have h2 := allB_len hf hr
        rw [List.length_append, List.length_cons, Nat.mul_add]
        omega
theorem aB_len {n : Nat} {op : Int} {t : Tv} {m : List UInt8} (h : aB n op t = some m) : m.length ≤ 1009 := by
  unfold aB at h
  cases h1 : nB op 4611686018427387904 with
  | none => rw [h1] at h; cases h
  | some a =>
    cases h2 : vB n t with
    | none => rw [h1, h2] at h; cases h
    | some b =>
      rw [h1, h2] at h
      cases h
      have := nB_len h1 (by decide)
      have := vB_len h2
      rw [List.length_append]
      omega
/-- A list of answers that lies in wb. -/
def LsA (wb : World) (n : Nat) (a : Option Addr) (ds : List (Int × Tv)) : Prop := ∀ (i : Nat) d, ds[i]? = some d → ∃ B o k x b s la lm lc, a = some ⟨B, o, none⟩ ∧ B < wb.heap.size ∧
  wb.cell? ⟨B, o + i * 6, none⟩ = some (.int .i64 d.1) ∧ wb.cell? ⟨B, o + i * 6 + 1, none⟩ = some (.int .i64 k) ∧ wb.cell? ⟨B, o + i * 6 + 2, none⟩ = some (.int .i64 x) ∧ wb.cell? ⟨B, o + i * 6 + 3, none⟩ = some (.int .u64 b) ∧ wb.cell? ⟨B, o + i * 6 + 4, none⟩ = some (.string s) ∧ wb.cell? ⟨B, o + i * 6 + 5, none⟩ = some (.slice la lm lc) ∧
  Is wb n (.agg #[.int .i64 k, .int .i64 x, .int .u64 b, .string s, .slice la lm lc]) d.2
theorem cellW {wb w : World} {B p : Nat} {v : Value} (h : wb.cell? ⟨B, p, none⟩ = some v) (hB : B < wb.heap.size) (hb : Below wb.heap.size wb w) : w.cell? ⟨B, p, none⟩ = some v := (World.cell?_of_block (w := wb) (hb.block B hB)).trans h
set_option maxHeartbeats 2000000 in
set_option maxRecDepth 100000 in
theorem wanswers_calls (n g : Nat) (l : List UInt8) (a : Option Addr) (N c : Nat) (most : Int) (ds : List (Int × Tv)) (hN : ds.length = N) (hm : most ≤ 1000) (wb w : World) (hW : Wb w g l) (hb : Below wb.heap.size wb w) (hg : wb.heap.size ≤ g) (hI : LsA wb n a ds) (hl : l.length ≤ 17592186044416) :
    Calls Try.prog 47 #[.pointer (some ⟨g, 0, none⟩), .slice a N c, .int .i64 most, .func (.func 48) #[.pointer (some ⟨g, 0, none⟩)] #[]] w (Wr w g l (lB (fun d => aB n d.1 d.2) most ds)) := by
  have HW : Hid (Wb w g l) := hW
  have HL : Hid (l.length ≤ 17592186044416) := hl
  have HB : Hid (Below wb.heap.size wb w) := hb
  have HG : Hid (wb.heap.size ≤ g) := hg
  have HI : Hid (LsA wb n a ds) := hI
  have HN : Hid (ds.length = N) := hN
  have HMo : Hid (most ≤ 1000) := hm
  clear hW hl hb hg hI hN hm
  have N1 : Hid (Calls Try.prog 41 #[.pointer (some ⟨g, 0, none⟩), .int .i64 (N : Int), .int .i64 most] w _) := wn_calls g l (N : Int) most w HW.out (by have := HMo.out; omega) (by have := HL.out; omega)
  go_enter Try.func47, Try.ntmps47
  go_wp2_with fail
  refine Calls.mono N1.out ?_
  intro e w1 hw
  rcases hn : nB (N : Int) most with _ | m1
  · rw [hn] at hw
    obtain ⟨f1, rfl⟩ := hw.none
    have HO : Hid (lB (fun d => aB n d.1 d.2) most ds = none) := by show _ = _; unfold lB; rw [HN.out, hn]; rfl
    clear hw hn
    unfold thrown
    go_wp2_with fail
    rw [HO.out]
    exact ⟨rfl, f1, rfl⟩
  rw [hn] at hw
  obtain ⟨f1, rfl, wn1⟩ := hw.some
  have F1 : Hid (Fr g w w1) := f1
  have W1 : Hid (Wb w1 g (l ++ m1)) := wn1
  have HM1 : Hid (nB (N : Int) most = some m1) := hn
  have HE1 : Hid (m1.length ≤ 9) := nB_len hn (by have := HMo.out; omega)
  have HK : Hid (N ≤ 1000) := by
    show _ ≤ _
    unfold nB at hn
    split at hn
    · rename_i hc; have := HMo.out; omega
    · cases hn
  clear hw hn f1 wn1
  go_wp2_with fail
  go_loopw [17] (fun i wr => ∃ j : Nat, j ≤ N ∧ i = .int .i64 (j : Int) ∧ Hid (∃ acc, allB (fun d => aB n d.1 d.2) (ds.take j) = some acc ∧ Wb wr g (l ++ m1 ++ acc)) ∧ Hid (Fr g w wr)) (fun i _ => N - (intOf i).toNat)
  case atStart => exact ⟨0, Nat.zero_le _, rfl, ⟨[], rfl, by rw [List.append_nil]; exact W1.out⟩, F1.out⟩
  case round =>
    obtain ⟨j, hj, rfl, HA, HF⟩ := hrel
    by_cases hlt : j < N
    · obtain ⟨d, hd⟩ : ∃ d, ds[j]? = some d := ⟨_, List.getElem?_eq_getElem (by rw [HN.out]; exact hlt)⟩
      obtain ⟨B, o, k, x, b, s, la, lm, lc, rfl, hB, y0, y1, y2, y3, y4, y5, hi⟩ := HI.out j d hd
      have HD : Hid (ds[j]? = some d) := hd
      have HIs : Hid (Is wb n (.agg #[.int .i64 k, .int .i64 x, .int .u64 b, .string s, .slice la lm lc]) d.2) := hi
      have HBr : Hid (Below wb.heap.size wb wr) := HB.out.trans (HF.out.bel.mono HG.out)
      have x0 := cellW y0 hB HBr.out
      have x1 := cellW y1 hB HBr.out
      have x2 := cellW y2 hB HBr.out
      have x3 := cellW y3 hB HBr.out
      have x4 := cellW y4 hB HBr.out
      have x5 := cellW y5 hB HBr.out
      have hjl : (j : Int) < (N : Int) := by omega
      have HW1 : Hid (wrap64 ((j : Int) + 1) = ((j + 1 : Nat) : Int)) := wr1 hlt (by have := HK.out; omega)
      clear y0 y1 y2 y3 y4 y5 hd hi hB
      obtain ⟨acc, ha, wa⟩ := HA.out
      have hal := allB_len (K := 1009) (fun x m h => aB_len h) ha
      have HAl : Hid (acc.length ≤ 1009 * 1000) := by
        show _ ≤ _
        have h1 : (ds.take j).length ≤ 1000 := by rw [List.length_take]; have := HN.out; have := HK.out; omega
        have h2 := Nat.mul_le_mul_left 1009 h1
        omega
      have HAc : Hid (allB (fun d => aB n d.1 d.2) (ds.take j) = some acc) := ha
      have WA : Hid (Wb wr g (l ++ m1 ++ acc)) := wa
      have B2 : Hid (Below wr.heap.size wr (wr.alloc (.cells #[.int .i64 d.1, .int .i64 k, .int .i64 x, .int .u64 b, .string s, .slice la lm lc] 73))) := bel1 _ _
      have AC : Hid (Calls Try.prog 48 _ (wr.alloc (.cells #[.int .i64 d.1, .int .i64 k, .int .i64 x, .int .u64 b, .string s, .slice la lm lc] 73)) _) :=
        wanswer_calls n g (l ++ m1 ++ acc) d.1 k x b s la lm lc d.2 wb _ (WA.out.below B2.out) (HBr.out.trans (B2.out.mono HBr.out.size)) HG.out HIs.out (by have := HL.out; have := HE1.out; have := HAl.out; simp only [List.length_append]; omega)
      clear hal ha wa HA
      go_wp2_with fail
      refine Calls.mono AC.out ?_
      intro e w2 hw
      have F2 : Hid (Fr g wr (wr.alloc (.cells #[.int .i64 d.1, .int .i64 k, .int .i64 x, .int .u64 b, .string s, .slice la lm lc] 73))) := Fr.of_below WA.out.lt B2.out
      rcases hn : aB n d.1 d.2 with _ | m2
      · rw [hn] at hw
        obtain ⟨f2, rfl⟩ := hw.none
        have HO : Hid (lB (fun d => aB n d.1 d.2) most ds = none) := by
          show _ = _
          unfold lB
          rw [allB_none (f := fun d : Int × Tv => aB n d.1 d.2) (x := d) hn (List.mem_of_getElem? HD.out)]
          cases nB (ds.length : Int) most <;> rfl
        clear hw hn
        unfold thrown
        go_wp2_with fail
        rw [HO.out]
        exact ⟨rfl, (HF.out.trans F2.out).trans f2, rfl⟩
      · rw [hn] at hw
        obtain ⟨f2, rfl, W2⟩ := hw.some
        have HA2 : Hid (∃ acc, allB (fun d => aB n d.1 d.2) (ds.take (j + 1)) = some acc ∧ Wb w2 g (l ++ m1 ++ acc)) := by
          refine ⟨acc ++ m2, ?_, ?_⟩
          · rw [List.take_add_one, HD.out]
            exact allB_snoc (a := acc) (f := fun d : Int × Tv => aB n d.1 d.2) hn HAc.out
          · rw [← List.append_assoc]; exact W2
        have HF2 : Hid (Fr g w w2) := (HF.out.trans F2.out).trans f2
        clear hw hn f2 W2
        go_wp2_with fail
        exact ⟨⟨j + 1, hlt, by first | rw [HW1.out] | exact congrArg _ (Int.natCast_succ j).symm, HA2, HF2⟩, by first | exact meas hlt HW1.out | exact meas hlt (Int.natCast_succ j).symm⟩
    · obtain rfl : j = N := by omega
      obtain ⟨acc, ha, wa⟩ := HA.out
      rw [List.take_of_length_le (by rw [HN.out]; exact Nat.le_refl _)] at ha
      have HO : Hid (lB (fun d => aB n d.1 d.2) most ds = some (m1 ++ acc)) := by show _ = _; unfold lB; rw [HN.out, HM1.out, ha]; rfl
      have HWf : Hid (Wb wr g (l ++ (m1 ++ acc))) := by show Wb _ _ _; rw [← List.append_assoc]; exact wa
      clear ha wa HA
      go_wp2_with fail
      refine bodyPost_end (results_none rfl _ _ _) rfl ?_
      rw [HO.out]
      exact ⟨HF.out, rfl, HWf.out⟩
end Go.Proofs.Ytjmonkhkcmcfiaa
namespace Go.Proofs.Ytjmonkhkcmcfiaa
open Go.ChangeShapes Go.WideShapes Go.ChangeAt Go.RowKit
theorem cB_len {n : Nat} {ck : Int} {nm : ByteArray} {t : Tv} {dl : Int} {m : List UInt8} (h : cB n ck nm t dl = some m) : m.length ≤ 1227 := by
  unfold cB at h
  cases h1 : nB ck 255 with
  | none => rw [h1] at h; cases h
  | some a =>
    cases h2 : tB nm with
    | none => rw [h1, h2] at h; cases h
    | some b =>
      cases h3 : vB n t with
      | none => rw [h1, h2, h3] at h; cases h
      | some c =>
        cases h4 : nB dl 4611686018427387904 with
        | none => rw [h1, h2, h3, h4] at h; cases h
        | some d =>
          rw [h1, h2, h3, h4] at h
          cases h
          have := nB_len h1 (by decide)
          have := tB_len h2
          have := vB_len h3
          have := nB_len h4 (by decide)
          simp only [List.length_append]
          omega
/-- A list of commands that lies in wb. -/
def LsC (wb : World) (n : Nat) (a : Option Addr) (ds : List (Int × ByteArray × Tv × Int)) : Prop := ∀ (i : Nat) d, ds[i]? = some d → ∃ B o k x b s la lm lc, a = some ⟨B, o, none⟩ ∧ B < wb.heap.size ∧
  wb.cell? ⟨B, o + i * 8, none⟩ = some (.int .i64 d.1) ∧ wb.cell? ⟨B, o + i * 8 + 1, none⟩ = some (.string d.2.1) ∧ wb.cell? ⟨B, o + i * 8 + 2, none⟩ = some (.int .i64 k) ∧ wb.cell? ⟨B, o + i * 8 + 3, none⟩ = some (.int .i64 x) ∧ wb.cell? ⟨B, o + i * 8 + 4, none⟩ = some (.int .u64 b) ∧ wb.cell? ⟨B, o + i * 8 + 5, none⟩ = some (.string s) ∧ wb.cell? ⟨B, o + i * 8 + 6, none⟩ = some (.slice la lm lc) ∧ wb.cell? ⟨B, o + i * 8 + 7, none⟩ = some (.int .i64 d.2.2.2) ∧
  Is wb n (.agg #[.int .i64 k, .int .i64 x, .int .u64 b, .string s, .slice la lm lc]) d.2.2.1
set_option maxHeartbeats 2000000 in
set_option maxRecDepth 100000 in
theorem wcommands_calls (n g : Nat) (l : List UInt8) (a : Option Addr) (N c : Nat) (most : Int) (ds : List (Int × ByteArray × Tv × Int)) (hN : ds.length = N) (hm : most ≤ 1000) (wb w : World) (hW : Wb w g l) (hb : Below wb.heap.size wb w) (hg : wb.heap.size ≤ g) (hI : LsC wb n a ds) (hl : l.length ≤ 17592186044416) :
    Calls Try.prog 45 #[.pointer (some ⟨g, 0, none⟩), .slice a N c, .int .i64 most, .func (.func 46) #[.pointer (some ⟨g, 0, none⟩)] #[]] w (Wr w g l (lB (fun d => cB n d.1 d.2.1 d.2.2.1 d.2.2.2) most ds)) := by
  have HW : Hid (Wb w g l) := hW
  have HL : Hid (l.length ≤ 17592186044416) := hl
  have HB : Hid (Below wb.heap.size wb w) := hb
  have HG : Hid (wb.heap.size ≤ g) := hg
  have HI : Hid (LsC wb n a ds) := hI
  have HN : Hid (ds.length = N) := hN
  have HMo : Hid (most ≤ 1000) := hm
  clear hW hl hb hg hI hN hm
  have N1 : Hid (Calls Try.prog 41 #[.pointer (some ⟨g, 0, none⟩), .int .i64 (N : Int), .int .i64 most] w _) := wn_calls g l (N : Int) most w HW.out (by have := HMo.out; omega) (by have := HL.out; omega)
  go_enter Try.func45, Try.ntmps45
  go_wp2_with fail
  refine Calls.mono N1.out ?_
  intro e w1 hw
  rcases hn : nB (N : Int) most with _ | m1
  · rw [hn] at hw
    obtain ⟨f1, rfl⟩ := hw.none
    have HO : Hid (lB (fun d => cB n d.1 d.2.1 d.2.2.1 d.2.2.2) most ds = none) := by show _ = _; unfold lB; rw [HN.out, hn]; rfl
    clear hw hn
    unfold thrown
    go_wp2_with fail
    rw [HO.out]
    exact ⟨rfl, f1, rfl⟩
  rw [hn] at hw
  obtain ⟨f1, rfl, wn1⟩ := hw.some
  have F1 : Hid (Fr g w w1) := f1
  have W1 : Hid (Wb w1 g (l ++ m1)) := wn1
  have HM1 : Hid (nB (N : Int) most = some m1) := hn
  have HE1 : Hid (m1.length ≤ 9) := nB_len hn (by have := HMo.out; omega)
  have HK : Hid (N ≤ 1000) := by
    show _ ≤ _
    unfold nB at hn
    split at hn
    · rename_i hc; have := HMo.out; omega
    · cases hn
  clear hw hn f1 wn1
  go_wp2_with fail
  go_loopw [17] (fun i wr => ∃ j : Nat, j ≤ N ∧ i = .int .i64 (j : Int) ∧ Hid (∃ acc, allB (fun d => cB n d.1 d.2.1 d.2.2.1 d.2.2.2) (ds.take j) = some acc ∧ Wb wr g (l ++ m1 ++ acc)) ∧ Hid (Fr g w wr)) (fun i _ => N - (intOf i).toNat)
  case atStart => exact ⟨0, Nat.zero_le _, rfl, ⟨[], rfl, by rw [List.append_nil]; exact W1.out⟩, F1.out⟩
  case round =>
    obtain ⟨j, hj, rfl, HA, HF⟩ := hrel
    by_cases hlt : j < N
    · obtain ⟨d, hd⟩ : ∃ d, ds[j]? = some d := ⟨_, List.getElem?_eq_getElem (by rw [HN.out]; exact hlt)⟩
      obtain ⟨B, o, k, x, b, s, la, lm, lc, rfl, hB, y0, y1, y2, y3, y4, y5, y6, y7, hi⟩ := HI.out j d hd
      have HD : Hid (ds[j]? = some d) := hd
      have HIs : Hid (Is wb n (.agg #[.int .i64 k, .int .i64 x, .int .u64 b, .string s, .slice la lm lc]) d.2.2.1) := hi
      have HBr : Hid (Below wb.heap.size wb wr) := HB.out.trans (HF.out.bel.mono HG.out)
      have x0 := cellW y0 hB HBr.out
      have x1 := cellW y1 hB HBr.out
      have x2 := cellW y2 hB HBr.out
      have x3 := cellW y3 hB HBr.out
      have x4 := cellW y4 hB HBr.out
      have x5 := cellW y5 hB HBr.out
      have x6 := cellW y6 hB HBr.out
      have x7 := cellW y7 hB HBr.out
      have hjl : (j : Int) < (N : Int) := by omega
      have HW1 : Hid (wrap64 ((j : Int) + 1) = ((j + 1 : Nat) : Int)) := wr1 hlt (by have := HK.out; omega)
      clear y0 y1 y2 y3 y4 y5 y6 y7 hd hi hB
      obtain ⟨acc, ha, wa⟩ := HA.out
      have hal := allB_len (K := 1227) (fun x m h => cB_len h) ha
      have HAl : Hid (acc.length ≤ 1227 * 1000) := by
        show _ ≤ _
        have h1 : (ds.take j).length ≤ 1000 := by rw [List.length_take]; have := HN.out; have := HK.out; omega
        have h2 := Nat.mul_le_mul_left 1227 h1
        omega
      have HAc : Hid (allB (fun d => cB n d.1 d.2.1 d.2.2.1 d.2.2.2) (ds.take j) = some acc) := ha
      have WA : Hid (Wb wr g (l ++ m1 ++ acc)) := wa
      have B2 : Hid (Below wr.heap.size wr (wr.alloc (.cells #[.int .i64 d.1, .string d.2.1, .int .i64 k, .int .i64 x, .int .u64 b, .string s, .slice la lm lc, .int .i64 d.2.2.2] 71))) := bel1 _ _
      have AC : Hid (Calls Try.prog 46 _ (wr.alloc (.cells #[.int .i64 d.1, .string d.2.1, .int .i64 k, .int .i64 x, .int .u64 b, .string s, .slice la lm lc, .int .i64 d.2.2.2] 71)) _) :=
        wcommand_calls n g (l ++ m1 ++ acc) d.1 d.2.1 k x b s la lm lc d.2.2.1 d.2.2.2 wb _ (WA.out.below B2.out) (HBr.out.trans (B2.out.mono HBr.out.size)) HG.out HIs.out (by have := HL.out; have := HE1.out; have := HAl.out; simp only [List.length_append]; omega)
      clear hal ha wa HA
      go_wp2_with fail
      refine Calls.mono AC.out ?_
      intro e w2 hw
      have F2 : Hid (Fr g wr (wr.alloc (.cells #[.int .i64 d.1, .string d.2.1, .int .i64 k, .int .i64 x, .int .u64 b, .string s, .slice la lm lc, .int .i64 d.2.2.2] 71))) := Fr.of_below WA.out.lt B2.out
      rcases hn : cB n d.1 d.2.1 d.2.2.1 d.2.2.2 with _ | m2
      · rw [hn] at hw
        obtain ⟨f2, rfl⟩ := hw.none
        have HO : Hid (lB (fun d => cB n d.1 d.2.1 d.2.2.1 d.2.2.2) most ds = none) := by
          show _ = _
          unfold lB
          rw [allB_none (f := fun d : Int × ByteArray × Tv × Int => cB n d.1 d.2.1 d.2.2.1 d.2.2.2) (x := d) hn (List.mem_of_getElem? HD.out)]
          cases nB (ds.length : Int) most <;> rfl
        clear hw hn
        unfold thrown
        go_wp2_with fail
        rw [HO.out]
        exact ⟨rfl, (HF.out.trans F2.out).trans f2, rfl⟩
      · rw [hn] at hw
        obtain ⟨f2, rfl, W2⟩ := hw.some
        have HA2 : Hid (∃ acc, allB (fun d => cB n d.1 d.2.1 d.2.2.1 d.2.2.2) (ds.take (j + 1)) = some acc ∧ Wb w2 g (l ++ m1 ++ acc)) := by
          refine ⟨acc ++ m2, ?_, ?_⟩
          · rw [List.take_add_one, HD.out]
            exact allB_snoc (a := acc) (f := fun d : Int × ByteArray × Tv × Int => cB n d.1 d.2.1 d.2.2.1 d.2.2.2) hn HAc.out
          · rw [← List.append_assoc]; exact W2
        have HF2 : Hid (Fr g w w2) := (HF.out.trans F2.out).trans f2
        clear hw hn f2 W2
        go_wp2_with fail
        exact ⟨⟨j + 1, hlt, by first | rw [HW1.out] | exact congrArg _ (Int.natCast_succ j).symm, HA2, HF2⟩, by first | exact meas hlt HW1.out | exact meas hlt (Int.natCast_succ j).symm⟩
    · obtain rfl : j = N := by omega
      obtain ⟨acc, ha, wa⟩ := HA.out
      rw [List.take_of_length_le (by rw [HN.out]; exact Nat.le_refl _)] at ha
      have HO : Hid (lB (fun d => cB n d.1 d.2.1 d.2.2.1 d.2.2.2) most ds = some (m1 ++ acc)) := by show _ = _; unfold lB; rw [HN.out, HM1.out, ha]; rfl
      have HWf : Hid (Wb wr g (l ++ (m1 ++ acc))) := by show Wb _ _ _; rw [← List.append_assoc]; exact wa
      clear ha wa HA
      go_wp2_with fail
      refine bodyPost_end (results_none rfl _ _ _) rfl ?_
      rw [HO.out]
      exact ⟨HF.out, rfl, HWf.out⟩
end Go.Proofs.Ytjmonkhkcmcfiaa
namespace Go.Proofs.Ytjmonkhkcmcfiaa
open Go.ChangeShapes Go.WideShapes Go.ChangeAt Go.RowKit
theorem pB_len {pf : Int} {pc : Nat} {pm : Int} {m : List UInt8} (h : pB pf pc pm = some m) : m.length ≤ 26 := by
  unfold pB at h
  cases h1 : nB pf 4611686018427387904 with
  | none => rw [h1] at h; cases h
  | some a =>
    cases h4 : nB pm 4611686018427387904 with
    | none => rw [h1, h4] at h; cases h
    | some d =>
      rw [h1, h4] at h
      cases h
      have := nB_len h1 (by decide)
      have := nB_len h4 (by decide)
      have := be_length pc 8
      simp only [List.length_append]
      omega
theorem lB_len {α : Type} {f : α → Option (List UInt8)} {K : Nat} {most : Int} {l : List α} {m : List UInt8} (hf : ∀ x m, f x = some m → m.length ≤ K) (hm : most ≤ 1000) (h : lB f most l = some m) : m.length ≤ K * 1000 + 9 := by
  unfold lB at h
  cases h1 : nB (l.length : Int) most with
  | none => rw [h1] at h; cases h
  | some a =>
    cases h2 : allB f l with
    | none => rw [h1, h2] at h; cases h
    | some b =>
      rw [h1, h2] at h
      cases h
      have h3 := nB_len h1 (by omega)
      have h4 := allB_len hf h2
      have h5 : l.length ≤ 1000 := by
        unfold nB at h1
        split at h1
        · omega
        · cases h1
      have h6 := Nat.mul_le_mul_left K h5
      rw [List.length_append]
      omega
/-- What is put of a request. -/
noncomputable def rB (n : Nat) (rk : Int) (f q nm : ByteArray) (t : Tv) (ru nu wa pf : Int) (pc : Nat) (pm : Int) (cds : List (Int × ByteArray × Tv × Int)) (ads : List (Int × Tv)) : Option (List UInt8) :=
  sq (nB rk 255) (sq (tB f) (sq (tB q) (sq (tB nm) (sq (vB n t) (sq (nB ru 4611686018427387904) (sq (nB nu 4611686018427387904) (sq (nB wa 4611686018427387904) (sq (pB pf pc pm) (sq (lB (fun d : Int × ByteArray × Tv × Int => cB n d.1 d.2.1 d.2.2.1 d.2.2.2) 12 cds) (lB (fun d : Int × Tv => aB n d.1 d.2) 8 ads))))))))))
set_option maxHeartbeats 1000000 in
set_option maxRecDepth 100000 in
theorem wrequest_calls (n g : Nat) (l : List UInt8) (rk : Int) (f q nm : ByteArray) (k x b : Int) (s : ByteArray) (a : Option Addr) (m c : Nat) (t : Tv) (ru nu wa pf : Int) (pc : Nat) (pm : Int) (ca : Option Addr) (cn cc : Nat) (aa : Option Addr) (an ac : Nat) (cds : List (Int × ByteArray × Tv × Int)) (ads : List (Int × Tv)) (wb w : World) (hW : Wb w g l) (hb : Below wb.heap.size wb w) (hg : wb.heap.size ≤ g) (hI : Is wb n (.agg #[.int .i64 k, .int .i64 x, .int .u64 b, .string s, .slice a m c]) t) (hcn : cds.length = cn) (hci : LsC wb n ca cds) (han : ads.length = an) (hai : LsA wb n aa ads) (hl : l.length ≤ 8796093022208) :
    Calls Try.prog 17 #[.pointer (some ⟨g, 0, none⟩), .agg #[.int .i64 rk, .string f, .string q, .string nm, .int .i64 k, .int .i64 x, .int .u64 b, .string s, .slice a m c, .int .i64 ru, .int .i64 nu, .int .i64 wa, .int .i64 pf, .int .u64 (pc : Int), .int .i64 pm, .slice ca cn cc, .slice aa an ac]] w (Wr w g l (rB n rk f q nm t ru nu wa pf pc pm cds ads)) := by
  have HW : Hid (Wb w g l) := hW
  have HL : Hid (l.length ≤ 8796093022208) := hl
  have HB : Hid (Below wb.heap.size wb w) := hb
  have HG : Hid (wb.heap.size ≤ g) := hg
  have HI : Hid (Is wb n (.agg #[.int .i64 k, .int .i64 x, .int .u64 b, .string s, .slice a m c]) t) := hI
  clear hI
  have HCn : Hid (cds.length = cn) := hcn
  have HCi : Hid (LsC wb n ca cds) := hci
  have HAn : Hid (ads.length = an) := han
  have HAi : Hid (LsA wb n aa ads) := hai
  clear hcn hci han hai
  clear hW hl hb hg
  go_enter Try.func17, Try.ntmps17
  go_upto_region 1 with fail
  have X0 : Bq (w.alloc (.cells #[.int .i64 rk, .string f, .string q, .string nm, .int .i64 k, .int .i64 x, .int .u64 b, .string s, .slice a m c, .int .i64 ru, .int .i64 nu, .int .i64 wa, .int .i64 pf, .int .u64 (pc : Int), .int .i64 pm, .slice ca cn cc, .slice aa an ac] 31)) g w.heap.size 31 #[.int .i64 rk, .string f, .string q, .string nm, .int .i64 k, .int .i64 x, .int .u64 b, .string s, .slice a m c, .int .i64 ru, .int .i64 nu, .int .i64 wa, .int .i64 pf, .int .u64 (pc : Int), .int .i64 pm, .slice ca cn cc, .slice aa an ac] := Bq.new HW.out _ _
  have B0 : Hid (Below w.heap.size w (w.alloc (.cells #[.int .i64 rk, .string f, .string q, .string nm, .int .i64 k, .int .i64 x, .int .u64 b, .string s, .slice a m c, .int .i64 ru, .int .i64 nu, .int .i64 wa, .int .i64 pf, .int .u64 (pc : Int), .int .i64 pm, .slice ca cn cc, .slice aa an ac] 31))) := bel1 _ _
  generalize w.alloc (.cells #[.int .i64 rk, .string f, .string q, .string nm, .int .i64 k, .int .i64 x, .int .u64 b, .string s, .slice a m c, .int .i64 ru, .int .i64 nu, .int .i64 wa, .int .i64 pf, .int .u64 (pc : Int), .int .i64 pm, .slice ca cn cc, .slice aa an ac] 31) = w0 at X0 B0 ⊢
  have F0 : Hid (Fr g w w0) := Fr.of_below HW.out.lt B0.out
  have HX0 : Hid (Bq w0 g w.heap.size 31 #[.int .i64 rk, .string f, .string q, .string nm, .int .i64 k, .int .i64 x, .int .u64 b, .string s, .slice a m c, .int .i64 ru, .int .i64 nu, .int .i64 wa, .int .i64 pf, .int .u64 (pc : Int), .int .i64 pm, .slice ca cn cc, .slice aa an ac]) := X0
  have W0 : Hid (Wb w0 g l) := HW.out.below B0.out
  clear X0
  have y0 : w0.cell? ⟨w.heap.size, 0, none⟩ = some (.int .i64 rk) := row_cell HX0.out.row rfl
  have N1 : Hid (Calls Try.prog 41 _ w0 _) := wn_calls g (l) rk 255 w0 W0.out (by decide) (by have := HL.out; (try simp only [List.length_append]); omega)
  go_wp2_with fail
  refine Calls.mono N1.out ?_
  intro e w1 hw
  rcases hn1 : nB rk 255 with _ | m1
  · rw [hn1] at hw
    obtain ⟨f1, rfl⟩ := hw.none
    have HO : Hid (rB n rk f q nm t ru nu wa pf pc pm cds ads = none) := by show _ = _; unfold rB;  rw [hn1]; rfl
    clear hw hn1
    unfold thrown
    go_wp2_with fail
    rw [HO.out]
    exact ⟨rfl, F0.out.trans f1, rfl⟩
  rw [hn1] at hw
  obtain ⟨f1, rfl, wn1⟩ := hw.some
  have F1 : Hid (Fr g w w1) := F0.out.trans f1
  have HX1 : Hid (Bq w1 g w.heap.size 31 #[.int .i64 rk, .string f, .string q, .string nm, .int .i64 k, .int .i64 x, .int .u64 b, .string s, .slice a m c, .int .i64 ru, .int .i64 nu, .int .i64 wa, .int .i64 pf, .int .u64 (pc : Int), .int .i64 pm, .slice ca cn cc, .slice aa an ac]) := HX0.out.fr f1
  have W1 : Hid (Wb w1 g (l ++ m1)) := wn1
  have HM1 : Hid (nB rk 255 = some m1) := hn1
  have HE1 : Hid (m1.length ≤ 9) := nB_len hn1 (by decide)
  clear hw hn1 f1 wn1 y0
  have y1 : w1.cell? ⟨w.heap.size, 1, none⟩ = some (.string f) := row_cell HX1.out.row rfl
  have N2 : Hid (Calls Try.prog 42 _ w1 _) := wt_calls g (l ++ m1) f w1 W1.out (by have := HL.out; have := HE1.out; (try simp only [List.length_append]); omega)
  go_wp2_with fail
  refine Calls.mono N2.out ?_
  intro e w2 hw
  rcases hn2 : tB f with _ | m2
  · rw [hn2] at hw
    obtain ⟨f1, rfl⟩ := hw.none
    have HO : Hid (rB n rk f q nm t ru nu wa pf pc pm cds ads = none) := by show _ = _; unfold rB; try rw [HM1.out]; rw [hn2]; rfl
    clear hw hn2
    unfold thrown
    go_wp2_with fail
    rw [HO.out]
    exact ⟨rfl, F1.out.trans f1, rfl⟩
  rw [hn2] at hw
  obtain ⟨f1, rfl, wn1⟩ := hw.some
  have F2 : Hid (Fr g w w2) := F1.out.trans f1
  have HX2 : Hid (Bq w2 g w.heap.size 31 #[.int .i64 rk, .string f, .string q, .string nm, .int .i64 k, .int .i64 x, .int .u64 b, .string s, .slice a m c, .int .i64 ru, .int .i64 nu, .int .i64 wa, .int .i64 pf, .int .u64 (pc : Int), .int .i64 pm, .slice ca cn cc, .slice aa an ac]) := HX1.out.fr f1
  have W2 : Hid (Wb w2 g (l ++ m1 ++ m2)) := wn1
  have HM2 : Hid (tB f = some m2) := hn2
  have HE2 : Hid (m2.length ≤ 209) := tB_len hn2
  clear hw hn2 f1 wn1 y1
  have y2 : w2.cell? ⟨w.heap.size, 2, none⟩ = some (.string q) := row_cell HX2.out.row rfl
  have N3 : Hid (Calls Try.prog 42 _ w2 _) := wt_calls g (l ++ m1 ++ m2) q w2 W2.out (by have := HL.out; have := HE1.out; have := HE2.out; (try simp only [List.length_append]); omega)
  go_wp2_with fail
  refine Calls.mono N3.out ?_
  intro e w3 hw
  rcases hn3 : tB q with _ | m3
  · rw [hn3] at hw
    obtain ⟨f1, rfl⟩ := hw.none
    have HO : Hid (rB n rk f q nm t ru nu wa pf pc pm cds ads = none) := by show _ = _; unfold rB; try rw [HM1.out]; try rw [HM2.out]; rw [hn3]; rfl
    clear hw hn3
    unfold thrown
    go_wp2_with fail
    rw [HO.out]
    exact ⟨rfl, F2.out.trans f1, rfl⟩
  rw [hn3] at hw
  obtain ⟨f1, rfl, wn1⟩ := hw.some
  have F3 : Hid (Fr g w w3) := F2.out.trans f1
  have HX3 : Hid (Bq w3 g w.heap.size 31 #[.int .i64 rk, .string f, .string q, .string nm, .int .i64 k, .int .i64 x, .int .u64 b, .string s, .slice a m c, .int .i64 ru, .int .i64 nu, .int .i64 wa, .int .i64 pf, .int .u64 (pc : Int), .int .i64 pm, .slice ca cn cc, .slice aa an ac]) := HX2.out.fr f1
  have W3 : Hid (Wb w3 g (l ++ m1 ++ m2 ++ m3)) := wn1
  have HM3 : Hid (tB q = some m3) := hn3
  have HE3 : Hid (m3.length ≤ 209) := tB_len hn3
  clear hw hn3 f1 wn1 y2
  have y3 : w3.cell? ⟨w.heap.size, 3, none⟩ = some (.string nm) := row_cell HX3.out.row rfl
  have N4 : Hid (Calls Try.prog 42 _ w3 _) := wt_calls g (l ++ m1 ++ m2 ++ m3) nm w3 W3.out (by have := HL.out; have := HE1.out; have := HE2.out; have := HE3.out; (try simp only [List.length_append]); omega)
  go_wp2_with fail
  refine Calls.mono N4.out ?_
  intro e w4 hw
  rcases hn4 : tB nm with _ | m4
  · rw [hn4] at hw
    obtain ⟨f1, rfl⟩ := hw.none
    have HO : Hid (rB n rk f q nm t ru nu wa pf pc pm cds ads = none) := by show _ = _; unfold rB; try rw [HM1.out]; try rw [HM2.out]; try rw [HM3.out]; rw [hn4]; rfl
    clear hw hn4
    unfold thrown
    go_wp2_with fail
    rw [HO.out]
    exact ⟨rfl, F3.out.trans f1, rfl⟩
  rw [hn4] at hw
  obtain ⟨f1, rfl, wn1⟩ := hw.some
  have F4 : Hid (Fr g w w4) := F3.out.trans f1
  have HX4 : Hid (Bq w4 g w.heap.size 31 #[.int .i64 rk, .string f, .string q, .string nm, .int .i64 k, .int .i64 x, .int .u64 b, .string s, .slice a m c, .int .i64 ru, .int .i64 nu, .int .i64 wa, .int .i64 pf, .int .u64 (pc : Int), .int .i64 pm, .slice ca cn cc, .slice aa an ac]) := HX3.out.fr f1
  have W4 : Hid (Wb w4 g (l ++ m1 ++ m2 ++ m3 ++ m4)) := wn1
  have HM4 : Hid (tB nm = some m4) := hn4
  have HE4 : Hid (m4.length ≤ 209) := tB_len hn4
  clear hw hn4 f1 wn1 y3
  have y4 : w4.cell? ⟨w.heap.size, 4, none⟩ = some (.int .i64 k) := row_cell HX4.out.row rfl
  have y5 : w4.cell? ⟨w.heap.size, 5, none⟩ = some (.int .i64 x) := row_cell HX4.out.row rfl
  have y6 : w4.cell? ⟨w.heap.size, 6, none⟩ = some (.int .u64 b) := row_cell HX4.out.row rfl
  have y7 : w4.cell? ⟨w.heap.size, 7, none⟩ = some (.string s) := row_cell HX4.out.row rfl
  have y8 : w4.cell? ⟨w.heap.size, 8, none⟩ = some (.slice a m c) := row_cell HX4.out.row rfl
  have N5 : Hid (Calls Try.prog 43 _ w4 _) := wvalue_calls n g (l ++ m1 ++ m2 ++ m3 ++ m4) _ t w4 W4.out (HI.out.below (HB.out.trans (F4.out.bel.mono HG.out))) (by have := HL.out; have := HE1.out; have := HE2.out; have := HE3.out; have := HE4.out; (try simp only [List.length_append]); omega)
  go_wp2_with fail
  refine Calls.mono N5.out ?_
  intro e w5 hw
  rcases hn5 : vB n t with _ | m5
  · rw [hn5] at hw
    obtain ⟨f1, rfl⟩ := hw.none
    have HO : Hid (rB n rk f q nm t ru nu wa pf pc pm cds ads = none) := by show _ = _; unfold rB; try rw [HM1.out]; try rw [HM2.out]; try rw [HM3.out]; try rw [HM4.out]; rw [hn5]; rfl
    clear hw hn5
    unfold thrown
    go_wp2_with fail
    rw [HO.out]
    exact ⟨rfl, F4.out.trans f1, rfl⟩
  rw [hn5] at hw
  obtain ⟨f1, rfl, wn1⟩ := hw.some
  have F5 : Hid (Fr g w w5) := F4.out.trans f1
  have HX5 : Hid (Bq w5 g w.heap.size 31 #[.int .i64 rk, .string f, .string q, .string nm, .int .i64 k, .int .i64 x, .int .u64 b, .string s, .slice a m c, .int .i64 ru, .int .i64 nu, .int .i64 wa, .int .i64 pf, .int .u64 (pc : Int), .int .i64 pm, .slice ca cn cc, .slice aa an ac]) := HX4.out.fr f1
  have W5 : Hid (Wb w5 g (l ++ m1 ++ m2 ++ m3 ++ m4 ++ m5)) := wn1
  have HM5 : Hid (vB n t = some m5) := hn5
  have HE5 : Hid (m5.length ≤ 1000) := vB_len hn5
  clear hw hn5 f1 wn1 y4 y5 y6 y7 y8
  have y9 : w5.cell? ⟨w.heap.size, 9, none⟩ = some (.int .i64 ru) := row_cell HX5.out.row rfl
  have N6 : Hid (Calls Try.prog 41 _ w5 _) := wn_calls g (l ++ m1 ++ m2 ++ m3 ++ m4 ++ m5) ru 4611686018427387904 w5 W5.out (by decide) (by have := HL.out; have := HE1.out; have := HE2.out; have := HE3.out; have := HE4.out; have := HE5.out; (try simp only [List.length_append]); omega)
  go_wp2_with fail
  refine Calls.mono N6.out ?_
  intro e w6 hw
  rcases hn6 : nB ru 4611686018427387904 with _ | m6
  · rw [hn6] at hw
    obtain ⟨f1, rfl⟩ := hw.none
    have HO : Hid (rB n rk f q nm t ru nu wa pf pc pm cds ads = none) := by show _ = _; unfold rB; try rw [HM1.out]; try rw [HM2.out]; try rw [HM3.out]; try rw [HM4.out]; try rw [HM5.out]; rw [hn6]; rfl
    clear hw hn6
    unfold thrown
    go_wp2_with fail
    rw [HO.out]
    exact ⟨rfl, F5.out.trans f1, rfl⟩
  rw [hn6] at hw
  obtain ⟨f1, rfl, wn1⟩ := hw.some
  have F6 : Hid (Fr g w w6) := F5.out.trans f1
  have HX6 : Hid (Bq w6 g w.heap.size 31 #[.int .i64 rk, .string f, .string q, .string nm, .int .i64 k, .int .i64 x, .int .u64 b, .string s, .slice a m c, .int .i64 ru, .int .i64 nu, .int .i64 wa, .int .i64 pf, .int .u64 (pc : Int), .int .i64 pm, .slice ca cn cc, .slice aa an ac]) := HX5.out.fr f1
  have W6 : Hid (Wb w6 g (l ++ m1 ++ m2 ++ m3 ++ m4 ++ m5 ++ m6)) := wn1
  have HM6 : Hid (nB ru 4611686018427387904 = some m6) := hn6
  have HE6 : Hid (m6.length ≤ 9) := nB_len hn6 (by decide)
  clear hw hn6 f1 wn1 y9
  have y10 : w6.cell? ⟨w.heap.size, 10, none⟩ = some (.int .i64 nu) := row_cell HX6.out.row rfl
  have N7 : Hid (Calls Try.prog 41 _ w6 _) := wn_calls g (l ++ m1 ++ m2 ++ m3 ++ m4 ++ m5 ++ m6) nu 4611686018427387904 w6 W6.out (by decide) (by have := HL.out; have := HE1.out; have := HE2.out; have := HE3.out; have := HE4.out; have := HE5.out; have := HE6.out; (try simp only [List.length_append]); omega)
  go_wp2_with fail
  refine Calls.mono N7.out ?_
  intro e w7 hw
  rcases hn7 : nB nu 4611686018427387904 with _ | m7
  · rw [hn7] at hw
    obtain ⟨f1, rfl⟩ := hw.none
    have HO : Hid (rB n rk f q nm t ru nu wa pf pc pm cds ads = none) := by show _ = _; unfold rB; try rw [HM1.out]; try rw [HM2.out]; try rw [HM3.out]; try rw [HM4.out]; try rw [HM5.out]; try rw [HM6.out]; rw [hn7]; rfl
    clear hw hn7
    unfold thrown
    go_wp2_with fail
    rw [HO.out]
    exact ⟨rfl, F6.out.trans f1, rfl⟩
  rw [hn7] at hw
  obtain ⟨f1, rfl, wn1⟩ := hw.some
  have F7 : Hid (Fr g w w7) := F6.out.trans f1
  have HX7 : Hid (Bq w7 g w.heap.size 31 #[.int .i64 rk, .string f, .string q, .string nm, .int .i64 k, .int .i64 x, .int .u64 b, .string s, .slice a m c, .int .i64 ru, .int .i64 nu, .int .i64 wa, .int .i64 pf, .int .u64 (pc : Int), .int .i64 pm, .slice ca cn cc, .slice aa an ac]) := HX6.out.fr f1
  have W7 : Hid (Wb w7 g (l ++ m1 ++ m2 ++ m3 ++ m4 ++ m5 ++ m6 ++ m7)) := wn1
  have HM7 : Hid (nB nu 4611686018427387904 = some m7) := hn7
  have HE7 : Hid (m7.length ≤ 9) := nB_len hn7 (by decide)
  clear hw hn7 f1 wn1 y10
  have y11 : w7.cell? ⟨w.heap.size, 11, none⟩ = some (.int .i64 wa) := row_cell HX7.out.row rfl
  have N8 : Hid (Calls Try.prog 41 _ w7 _) := wn_calls g (l ++ m1 ++ m2 ++ m3 ++ m4 ++ m5 ++ m6 ++ m7) wa 4611686018427387904 w7 W7.out (by decide) (by have := HL.out; have := HE1.out; have := HE2.out; have := HE3.out; have := HE4.out; have := HE5.out; have := HE6.out; have := HE7.out; (try simp only [List.length_append]); omega)
  go_wp2_with fail
  refine Calls.mono N8.out ?_
  intro e w8 hw
  rcases hn8 : nB wa 4611686018427387904 with _ | m8
  · rw [hn8] at hw
    obtain ⟨f1, rfl⟩ := hw.none
    have HO : Hid (rB n rk f q nm t ru nu wa pf pc pm cds ads = none) := by show _ = _; unfold rB; try rw [HM1.out]; try rw [HM2.out]; try rw [HM3.out]; try rw [HM4.out]; try rw [HM5.out]; try rw [HM6.out]; try rw [HM7.out]; rw [hn8]; rfl
    clear hw hn8
    unfold thrown
    go_wp2_with fail
    rw [HO.out]
    exact ⟨rfl, F7.out.trans f1, rfl⟩
  rw [hn8] at hw
  obtain ⟨f1, rfl, wn1⟩ := hw.some
  have F8 : Hid (Fr g w w8) := F7.out.trans f1
  have HX8 : Hid (Bq w8 g w.heap.size 31 #[.int .i64 rk, .string f, .string q, .string nm, .int .i64 k, .int .i64 x, .int .u64 b, .string s, .slice a m c, .int .i64 ru, .int .i64 nu, .int .i64 wa, .int .i64 pf, .int .u64 (pc : Int), .int .i64 pm, .slice ca cn cc, .slice aa an ac]) := HX7.out.fr f1
  have W8 : Hid (Wb w8 g (l ++ m1 ++ m2 ++ m3 ++ m4 ++ m5 ++ m6 ++ m7 ++ m8)) := wn1
  have HM8 : Hid (nB wa 4611686018427387904 = some m8) := hn8
  have HE8 : Hid (m8.length ≤ 9) := nB_len hn8 (by decide)
  clear hw hn8 f1 wn1 y11
  have y12 : w8.cell? ⟨w.heap.size, 12, none⟩ = some (.int .i64 pf) := row_cell HX8.out.row rfl
  have y13 : w8.cell? ⟨w.heap.size, 13, none⟩ = some (.int .u64 (pc : Int)) := row_cell HX8.out.row rfl
  have y14 : w8.cell? ⟨w.heap.size, 14, none⟩ = some (.int .i64 pm) := row_cell HX8.out.row rfl
  have N9 : Hid (Calls Try.prog 44 _ w8 _) := wpolicy_calls n g (l ++ m1 ++ m2 ++ m3 ++ m4 ++ m5 ++ m6 ++ m7 ++ m8) pf pc pm wb w8 W8.out (HB.out.trans (F8.out.bel.mono HG.out)) HG.out (by have := HL.out; have := HE1.out; have := HE2.out; have := HE3.out; have := HE4.out; have := HE5.out; have := HE6.out; have := HE7.out; have := HE8.out; (try simp only [List.length_append]); omega)
  go_wp2_with fail
  refine Calls.mono N9.out ?_
  intro e w9 hw
  rcases hn9 : pB pf pc pm with _ | m9
  · rw [hn9] at hw
    obtain ⟨f1, rfl⟩ := hw.none
    have HO : Hid (rB n rk f q nm t ru nu wa pf pc pm cds ads = none) := by show _ = _; unfold rB; try rw [HM1.out]; try rw [HM2.out]; try rw [HM3.out]; try rw [HM4.out]; try rw [HM5.out]; try rw [HM6.out]; try rw [HM7.out]; try rw [HM8.out]; rw [hn9]; rfl
    clear hw hn9
    unfold thrown
    go_wp2_with fail
    rw [HO.out]
    exact ⟨rfl, F8.out.trans f1, rfl⟩
  rw [hn9] at hw
  obtain ⟨f1, rfl, wn1⟩ := hw.some
  have F9 : Hid (Fr g w w9) := F8.out.trans f1
  have HX9 : Hid (Bq w9 g w.heap.size 31 #[.int .i64 rk, .string f, .string q, .string nm, .int .i64 k, .int .i64 x, .int .u64 b, .string s, .slice a m c, .int .i64 ru, .int .i64 nu, .int .i64 wa, .int .i64 pf, .int .u64 (pc : Int), .int .i64 pm, .slice ca cn cc, .slice aa an ac]) := HX8.out.fr f1
  have W9 : Hid (Wb w9 g (l ++ m1 ++ m2 ++ m3 ++ m4 ++ m5 ++ m6 ++ m7 ++ m8 ++ m9)) := wn1
  have HM9 : Hid (pB pf pc pm = some m9) := hn9
  have HE9 : Hid (m9.length ≤ 26) := pB_len hn9
  clear hw hn9 f1 wn1 y12 y13 y14
  have y15 : w9.cell? ⟨w.heap.size, 15, none⟩ = some (.slice ca cn cc) := row_cell HX9.out.row rfl
  have N10 : Hid (Calls Try.prog 45 _ w9 _) := wcommands_calls n g (l ++ m1 ++ m2 ++ m3 ++ m4 ++ m5 ++ m6 ++ m7 ++ m8 ++ m9) ca cn cc 12 cds HCn.out (by decide) wb w9 W9.out (HB.out.trans (F9.out.bel.mono HG.out)) HG.out HCi.out (by have := HL.out; have := HE1.out; have := HE2.out; have := HE3.out; have := HE4.out; have := HE5.out; have := HE6.out; have := HE7.out; have := HE8.out; have := HE9.out; (try simp only [List.length_append]); omega)
  go_wp2_with fail
  refine Calls.mono N10.out ?_
  intro e w10 hw
  rcases hn10 : lB (fun d : Int × ByteArray × Tv × Int => cB n d.1 d.2.1 d.2.2.1 d.2.2.2) 12 cds with _ | m10
  · rw [hn10] at hw
    obtain ⟨f1, rfl⟩ := hw.none
    have HO : Hid (rB n rk f q nm t ru nu wa pf pc pm cds ads = none) := by show _ = _; unfold rB; try rw [HM1.out]; try rw [HM2.out]; try rw [HM3.out]; try rw [HM4.out]; try rw [HM5.out]; try rw [HM6.out]; try rw [HM7.out]; try rw [HM8.out]; try rw [HM9.out]; rw [hn10]; rfl
    clear hw hn10
    unfold thrown
    go_wp2_with fail
    rw [HO.out]
    exact ⟨rfl, F9.out.trans f1, rfl⟩
  rw [hn10] at hw
  obtain ⟨f1, rfl, wn1⟩ := hw.some
  have F10 : Hid (Fr g w w10) := F9.out.trans f1
  have HX10 : Hid (Bq w10 g w.heap.size 31 #[.int .i64 rk, .string f, .string q, .string nm, .int .i64 k, .int .i64 x, .int .u64 b, .string s, .slice a m c, .int .i64 ru, .int .i64 nu, .int .i64 wa, .int .i64 pf, .int .u64 (pc : Int), .int .i64 pm, .slice ca cn cc, .slice aa an ac]) := HX9.out.fr f1
  have W10 : Hid (Wb w10 g (l ++ m1 ++ m2 ++ m3 ++ m4 ++ m5 ++ m6 ++ m7 ++ m8 ++ m9 ++ m10)) := wn1
  have HM10 : Hid (lB (fun d : Int × ByteArray × Tv × Int => cB n d.1 d.2.1 d.2.2.1 d.2.2.2) 12 cds = some m10) := hn10
  have HE10 : Hid (m10.length ≤ 1227009) := lB_len (K := 1227) (fun x m h => cB_len h) (by decide) hn10
  clear hw hn10 f1 wn1 y15
  have y16 : w10.cell? ⟨w.heap.size, 16, none⟩ = some (.slice aa an ac) := row_cell HX10.out.row rfl
  have N11 : Hid (Calls Try.prog 47 _ w10 _) := wanswers_calls n g (l ++ m1 ++ m2 ++ m3 ++ m4 ++ m5 ++ m6 ++ m7 ++ m8 ++ m9 ++ m10) aa an ac 8 ads HAn.out (by decide) wb w10 W10.out (HB.out.trans (F10.out.bel.mono HG.out)) HG.out HAi.out (by have := HL.out; have := HE1.out; have := HE2.out; have := HE3.out; have := HE4.out; have := HE5.out; have := HE6.out; have := HE7.out; have := HE8.out; have := HE9.out; have := HE10.out; (try simp only [List.length_append]); omega)
  go_wp2_with fail
  refine Calls.mono N11.out ?_
  intro e w11 hw
  rcases hn11 : lB (fun d : Int × Tv => aB n d.1 d.2) 8 ads with _ | m11
  · rw [hn11] at hw
    obtain ⟨f1, rfl⟩ := hw.none
    have HO : Hid (rB n rk f q nm t ru nu wa pf pc pm cds ads = none) := by show _ = _; unfold rB; try rw [HM1.out]; try rw [HM2.out]; try rw [HM3.out]; try rw [HM4.out]; try rw [HM5.out]; try rw [HM6.out]; try rw [HM7.out]; try rw [HM8.out]; try rw [HM9.out]; try rw [HM10.out]; rw [hn11]; rfl
    clear hw hn11
    unfold thrown
    go_wp2_with fail
    rw [HO.out]
    exact ⟨rfl, F10.out.trans f1, rfl⟩
  rw [hn11] at hw
  obtain ⟨f1, rfl, wn1⟩ := hw.some
  have F11 : Hid (Fr g w w11) := F10.out.trans f1
  have HX11 : Hid (Bq w11 g w.heap.size 31 #[.int .i64 rk, .string f, .string q, .string nm, .int .i64 k, .int .i64 x, .int .u64 b, .string s, .slice a m c, .int .i64 ru, .int .i64 nu, .int .i64 wa, .int .i64 pf, .int .u64 (pc : Int), .int .i64 pm, .slice ca cn cc, .slice aa an ac]) := HX10.out.fr f1
  have W11 : Hid (Wb w11 g (l ++ m1 ++ m2 ++ m3 ++ m4 ++ m5 ++ m6 ++ m7 ++ m8 ++ m9 ++ m10 ++ m11)) := wn1
  have HM11 : Hid (lB (fun d : Int × Tv => aB n d.1 d.2) 8 ads = some m11) := hn11
  have HE11 : Hid (m11.length ≤ 1009009) := lB_len (K := 1009) (fun x m h => aB_len h) (by decide) hn11
  clear hw hn11 f1 wn1 y16
  have HO : Hid (rB n rk f q nm t ru nu wa pf pc pm cds ads = some (m1 ++ (m2 ++ (m3 ++ (m4 ++ (m5 ++ (m6 ++ (m7 ++ (m8 ++ (m9 ++ (m10 ++ m11))))))))))) := by show _ = _; unfold rB; rw [HM1.out, HM2.out, HM3.out, HM4.out, HM5.out, HM6.out, HM7.out, HM8.out, HM9.out, HM10.out, HM11.out]; rfl
  have WZ : Wb w11 g (l ++ (m1 ++ (m2 ++ (m3 ++ (m4 ++ (m5 ++ (m6 ++ (m7 ++ (m8 ++ (m9 ++ (m10 ++ m11))))))))))) := by have := W11.out; simp only [List.append_assoc] at this; exact this
  go_wp2_with fail
  refine bodyPost_end (results_none rfl _ _ _) rfl ?_
  rw [HO.out]
  exact ⟨F11.out, rfl, WZ⟩
end Go.Proofs.Ytjmonkhkcmcfiaa
namespace Go.Proofs.Ytjmonkhkcmcfiaa
open Go.ChangeShapes Go.WideShapes Go.ChangeAt Go.RowKit
/-- The bytes of a request, or why there are none. -/
def qR : Option (List UInt8) → Except Int (List UInt8)
  | none => .error 1
  | some m => if m.length ≤ 16384 then .ok m else .error 5
def W6 (w : World) (g : Nat) (r : Except Int (List UInt8)) (e : Ending) (w' : World) : Prop :=
  Fr g w w' ∧
  match r with
  | .ok m => e = .returned (.tuple #[]) ∧ Wb w' g m
  | .error c => e = thrown c
theorem info31 : (Try.prog.info? 31).map (·.size) = some 17 := by kernel_rfl
set_option maxHeartbeats 2000000 in
set_option maxRecDepth 100000 in
theorem w16_calls (n g h : Nat) (rk : Int) (f q nm : ByteArray) (k x b : Int) (s : ByteArray) (a : Option Addr) (m c : Nat) (t : Tv) (ru nu wa pf : Int) (pc : Nat) (pm : Int) (ca : Option Addr) (cn cc : Nat) (aa : Option Addr) (an ac : Nat) (cds : List (Int × ByteArray × Tv × Int)) (ads : List (Int × Tv)) (wb w : World) (hW : Wb w g []) (hb : Below wb.heap.size wb w) (hg : wb.heap.size ≤ g)
    (hR : wb.heap[h]? = some (.cells #[.int .i64 rk, .string f, .string q, .string nm, .int .i64 k, .int .i64 x, .int .u64 b, .string s, .slice a m c, .int .i64 ru, .int .i64 nu, .int .i64 wa, .int .i64 pf, .int .u64 (pc : Int), .int .i64 pm, .slice ca cn cc, .slice aa an ac] 31 (0, 0))) (hI : Is wb n (.agg #[.int .i64 k, .int .i64 x, .int .u64 b, .string s, .slice a m c]) t) (hcn : cds.length = cn) (hci : LsC wb n ca cds) (han : ads.length = an) (hai : LsA wb n aa ads) :
    Calls Try.prog 16 #[.pointer (some ⟨g, 0, none⟩), .pointer (some ⟨h, 0, none⟩)] w (W6 w g (qR (rB n rk f q nm t ru nu wa pf pc pm cds ads))) := by
  have RC : Hid (Calls Try.prog 17 _ w _) := wrequest_calls n g [] rk f q nm k x b s a m c t ru nu wa pf pc pm ca cn cc aa an ac cds ads wb w hW hb hg hI hcn hci han hai (by simp)
  have hrow : w.heap[h]? = some (.cells #[.int .i64 rk, .string f, .string q, .string nm, .int .i64 k, .int .i64 x, .int .u64 b, .string s, .slice a m c, .int .i64 ru, .int .i64 nu, .int .i64 wa, .int .i64 pf, .int .u64 (pc : Int), .int .i64 pm, .slice ca cn cc, .slice aa an ac] 31 (0, 0)) := by rw [hb.block h (Array.getElem?_eq_some_iff.1 hR).1]; exact hR
  clear hR hI hci hai hb hg hW
  obtain ⟨r, hr⟩ : ∃ r, r = (rB n rk f q nm t ru nu wa pf pc pm cds ads) := ⟨_, rfl⟩
  rw [← hr] at RC ⊢
  clear hr
  go_enter Try.func16, Try.ntmps16
  go_wp2_with (refine wpList_load_row rfl 31 _ rfl h rfl 31 _ (0, 0) _ hrow Try.underlying31 rfl info31 ?_)
  refine Calls.mono RC.out ?_
  intro e w1 hw
  cases r with
  | none =>
    obtain ⟨f1, rfl⟩ := hw.none
    have F1 : Hid (Fr g w w1) := f1
    clear hw hrow RC f1
    unfold thrown
    go_wp2_with fail
    exact ⟨rfl, F1.out, rfl⟩
  | some l =>
    obtain ⟨f1, rfl, w1b⟩ := hw.some
    have F1 : Hid (Fr g w w1) := f1
    have W1 : Hid (Wb w1 g l) := w1b
    obtain ⟨v, r1, o1⟩ := w1b
    have z : w1.cell? ⟨g, 0, none⟩ = some v := row_cell r1 rfl
    obtain ⟨p, c', rfl⟩ := own_shape o1
    clear hw hrow RC f1 r1 o1
    by_cases h0 : l.length ≤ 16384
    · have d0 : decide ((l.length : Int) ≤ 16384) = true := decide_eq_true (by omega)
      go_wp2_with fail
      refine (demand_yes _ _ _).mono ?_
      rintro e w2 ⟨rfl, hw⟩
      have hw' := hw.symm
      subst hw'
      clear hw
      go_wp2_with fail
      refine bodyPost_end (results_none rfl _ _ _) rfl ?_
      show W6 _ _ (if l.length ≤ 16384 then .ok l else .error 5) _ _
      rw [if_pos h0]
      exact ⟨F1.out, rfl, W1.out⟩
    · have d0 : decide ((l.length : Int) ≤ 16384) = false := decide_eq_false (by omega)
      go_wp2_with fail
      refine (demand_no _ _ _).mono ?_
      rintro e w2 ⟨rfl, hw⟩
      have hw' := hw.symm
      subst hw'
      clear hw
      unfold thrown
      go_wp2_with fail
      refine ⟨rfl, ?_⟩
      show W6 _ _ (if l.length ≤ 16384 then .ok l else .error 5) _ _
      rw [if_neg h0]
      exact ⟨F1.out, rfl⟩
end Go.Proofs.Ytjmonkhkcmcfiaa
