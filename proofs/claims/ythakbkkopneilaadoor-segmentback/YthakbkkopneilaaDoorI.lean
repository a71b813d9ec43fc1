/- The contract of the reference's Seal; what Next answers, as a function of the bytes, and its contract, the program's. -/
import Derived.Test.YthakbkkopneilaaDoorH
namespace Go.Proofs.YthakbkkopneilaaDoor
open Go.ChangeShapes Go.WideShapes Go.ChangeAt Go.RowKit
theorem belN (w : World) (n : Nat) : Below w.heap.size w (w.drewN n) := ⟨rfl, rfl, rfl, Nat.le_refl _, fun _ _ => rfl⟩
set_option maxHeartbeats 4000000 in
set_option maxRecDepth 100000 in
theorem rseal_calls (k : Int) (v : Value) (l : List UInt8) (w : World) (hv : Hb w v l) (hl : l.length ≤ 1048576) : Calls Tryd.prog 28 #[.int .i64 k, v] w (NB w (sealL (kb k) l)) := by
  obtain ⟨b, hb⟩ : ∃ b, b = kb k := ⟨_, rfl⟩
  have hbv : (b.toNat : Int) = k % 256 := by rw [hb]; exact kb_val k
  rw [← hb]
  obtain ⟨sm, hsm⟩ : ∃ sm, sm = more 0 (b :: l) := ⟨_, rfl⟩
  have hsm4 : sm < 4294967296 := by rw [hsm]; exact more_lt 0 _ (by omega)
  have HV : Hid (∀ W, Below w.heap.size w W → Lib.HoldsBytes W v l) := fun W hW => holds_below hv.holds hW
  have RS : Hid (∀ W, Below w.heap.size w W → Calls Tryd.prog 50 #[.int .u8 (k % 256), v] W fun e w' => e = .returned (.int .u32 (sm : Int)) ∧ Below W.heap.size W w') := fun W hW => by rw [← hbv, hsm]; exact rsum2_calls b v l W (holds_below hv.holds hW) hl
  have F1 : Hid (∀ W, Calls Tryd.prog 49 #[.int .u32 (l.length : Int)] W _) := fun W => four_calls l.length (by omega) W
  have F2 : Hid (∀ W, Calls Tryd.prog 49 #[.int .u32 (sm : Int)] W _) := fun W => four_calls sm hsm4 W
  have HF : Hid (sealL b l = ((be4 l.length ++ be4 sm) ++ [b]) ++ l) := by show _ = _; rw [hsm]; simp [sealL]
  have HL : Hid (l.length ≤ 1048576) := hl
  have HBV : Hid ((b.toNat : Int) = k % 256) := hbv
  have hlb : (l.length : Int) ≤ 1048576 := by omega
  have hdl : decide (1048576 < (l.length : Int)) = false := decide_eq_false (by omega)
  obtain ⟨p, c, rfl, hc, hv'⟩ := hv
  clear hv' hb hbv hsm hsm4
  go_enter Tryd.func28, Tryd.ntmps28
  go_wp2_with fail
  refine (F1.out w).mono ?_
  rintro e w1 ⟨rfl, hw1⟩
  have O1 : Hid (Own w.heap.size w1 (.slice (some ⟨w.heap.size, 0, none⟩) 4 4) (be4 l.length)) := by subst hw1; exact own_bval w (be4 l.length) (by simp [be4])
  have B1 : Hid (Below w.heap.size w w1) := by subst hw1; exact below_alloc w _
  clear hw1
  go_wp2_with fail
  refine (RS.out w1 B1.out).mono ?_
  rintro e w2 ⟨rfl, hb2⟩
  have B2 : Hid (Below w.heap.size w w2) := B1.out.trans (hb2.mono B1.out.size)
  have O2 : Hid (Own w.heap.size w2 (.slice (some ⟨w.heap.size, 0, none⟩) 4 4) (be4 l.length)) := O1.out.below hb2
  clear hb2
  go_wp2_with fail
  refine (F2.out w2).mono ?_
  rintro e w3 ⟨rfl, hw3⟩
  have B3 : Hid (Below w.heap.size w w3) := by subst hw3; exact B2.out.alloc B2.out.size _
  have O3 : Hid (Own w.heap.size w3 (.slice (some ⟨w.heap.size, 0, none⟩) 4 4) (be4 l.length)) := by subst hw3; exact O2.out.below (below_alloc w2 _)
  have A3 : Hid (Lib.HoldsBytes w3 (.slice (some ⟨w2.heap.size, 0, none⟩) 4 4) (be4 sm)) := by subst hw3; exact holds_bval w2 (be4 sm)
  clear hw3
  obtain ⟨v4, w4, hr4, ho4, hb4⟩ := app_run O3.out A3.out B3.out.size (by simp [be4])
  have O4 : Hid (Own w.heap.size w4 v4 (be4 l.length ++ be4 sm)) := ho4
  have B4 : Hid (Below w.heap.size w w4) := B3.out.trans hb4
  clear ho4 hb4
  obtain ⟨v5, w5, hr5, ho5, hb5⟩ := app_run (O4.out.below (below_alloc w4 (.cells (bval [b]).toArray 5))) (holds_bval w4 [b]) (Nat.le_trans B4.out.size (by simp)) (by simp [be4])
  have O5 : Hid (Own w.heap.size w5 v5 ((be4 l.length ++ be4 sm) ++ [b])) := ho5
  have B5 : Hid (Below w.heap.size w w5) := (B4.out.alloc B4.out.size _).trans hb5
  clear ho5 hb5
  have hr5' : ∀ ty, (Builtin.append_ #[22, 22] ty #[v4, .slice (some ⟨w4.heap.size, 0, none⟩) 1 1]).run Tryd.prog (w4.alloc (.cells #[.int .u8 (k % 256)] 5)) = .ok v5 w5 := fun ty => by
    have := hr5 ty
    rw [show bval [b] = [.int .u8 (k % 256)] by rw [← HBV.out]; rfl] at this
    exact this
  obtain ⟨v6, w6, hr6, ho6, hb6⟩ := app_run O5.out (HV.out w5 B5.out) B5.out.size (by have := HL.out; simp [be4]; omega)
  rw [← HF.out] at ho6
  have O6 : Hid (Own w.heap.size w6 v6 (sealL b l)) := ho6
  have B6 : Hid (Below w.heap.size w w6) := B5.out.trans hb6
  clear ho6 hb6 hr5
  go_wp2_with (first | (at_builtin; refine Lib.wpList_append_run _ rfl _ _ 22 22 rfl _ _ rfl rfl _ _ (hr4 _) ?_) | (at_builtin; refine Lib.wpList_append_run _ rfl _ _ 22 22 rfl _ _ rfl rfl _ _ (hr5' _) ?_) | (at_builtin; refine Lib.wpList_append_run _ rfl _ _ 22 22 rfl _ _ rfl rfl _ _ (hr6 _) ?_))
  go_ret
  exact ⟨_, rfl, O6.out, B6.out⟩
theorem rseal_long (k : Int) (v : Value) (l : List UInt8) (w : World) (hv : Hb w v l) (hl : 1048576 < l.length) : Calls Tryd.prog 28 #[.int .i64 k, v] w fun e w' => e = .returned (.slice none 0 0) ∧ w' = w := by
  have hdl : decide (1048576 < (l.length : Int)) = true := decide_eq_true (by omega)
  obtain ⟨p, c, rfl, hc, hv'⟩ := hv
  clear hv'
  go_enter Tryd.func28, Tryd.ntmps28
  go_wp2
  go_ret
  exact ⟨rfl, rfl⟩
/-- What Next answers. -/
inductive Nx where
  | bad (c : Int)
  | ok (k : UInt8) (p : List UInt8)
def nextL (l : List UInt8) : Nx :=
  if l.length < 9 then .bad 4
  else if 1048576 < num4 l then .bad 5
  else if l.length < 9 + num4 l then .bad 4
  else if more 0 ((l.take (9 + num4 l)).drop 8) ≠ num4 (l.drop 4) then .bad 9
  else .ok (l.getD 8 0) ((l.drop 9).take (num4 l))
/-- What a call of Next leaves. -/
def NX (w : World) (r : Nx) (e : Ending) (w' : World) : Prop :=
  match r with
  | .bad c => e = .returned (.tuple #[.agg #[.int .i64 0, .slice none 0 0], .int .i64 0, .int .i64 c]) ∧ Below w.heap.size w w'
  | .ok k p => ∃ v, e = .returned (.tuple #[.agg #[.int .i64 (k.toNat : Int), v], .int .i64 ((9 + p.length : Nat) : Int), .int .i64 0]) ∧ Own w.heap.size w' v p ∧ Below w.heap.size w w'
theorem info29 : (Tryd.prog.info? 57).map (fun i => (i.zero, i.size, i.bytes)) = some (some (.agg #[.int .i64 0, .slice none 0 0]), 2, 32) := by kernel_rfl
theorem ret29 {fn : Func} {p q r : Tmp} (h : fn.results = #[.cell p 57, .tmp q, .tmp r]) (tmps : Array Value) {w : World} {g : Nat} {c0 c1 x y : Value} (hp : tmps.getD p undef = .pointer (some ⟨g, 0, none⟩)) (hq : tmps.getD q undef = x) (hr : tmps.getD r undef = y)
    (h0 : w.cell? ⟨g, 0, none⟩ = some c0) (h1 : w.cell? ⟨g, 1, none⟩ = some c1) : (results fn tmps).run Tryd.prog w = .ok (.tuple #[.agg #[c0, c1], x, y]) w := by
  have hp' : tmps[p]?.getD undef = .pointer (some ⟨g, 0, none⟩) := by simpa using hp
  have hq' : tmps[q]?.getD undef = x := by simpa using hq
  have hr' : tmps[r]?.getD undef = y := by simpa using hr
  have hl : (loadCells ⟨g, 0, none⟩ 2).run Tryd.prog w = .ok #[c0, c1] w :=
    run_loadCells_list (P := Tryd.prog) w ⟨g, 0, none⟩ [c0, c1] (fun j v hv => by
      rw [add_plain]
      match j, hv with
      | 0, hv => cases hv; exact h0
      | 1, hv => cases hv; exact h1
      | j + 2, hv => simp at hv)
  have hv : (loadVar 57 ⟨g, 0, none⟩).run Tryd.prog w = .ok (.agg #[c0, c1]) w := by
    obtain ⟨i0, hi, _, hz1, _⟩ := info_parts info29
    have hagg : (isAgg 57).run Tryd.prog w = .ok true w := by
      unfold isAgg
      rw [Sem.run_bind, run_underlying Tryd.underlying57 w]
      rfl
    simp [loadVar, Sem.run_bind, hagg, sizeOf, typeInfo, hi, hz1, hl]
  simp [results, h, hp', hq', hr', asAddr, hv]
end Go.Proofs.YthakbkkopneilaaDoor
