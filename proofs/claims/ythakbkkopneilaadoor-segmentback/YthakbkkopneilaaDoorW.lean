/- The contracts of Parse's deferred closure, and of Parse. -/
import Derived.Test.YthakbkkopneilaaDoorV
import Derived.Defers
import Derived.Recover
import Derived.BigRegion
import Derived.Deep.DeepCutAuto
namespace Go.Proofs.YthakbkkopneilaaDoor
open Go.ChangeShapes Go.WideShapes Go.ChangeAt Go.RowKit
theorem catch_idle (p q : Addr) (w : World) :
    CallsD Tryd.prog 30 #[.pointer (some p), .pointer (some q)] .returning w fun e u' w' => e = .returned (.tuple #[]) ∧ u' = .returning ∧ w' = w := by
  refine callsD_of_wpS Tryd.func30 rfl fun c₀ cs hu => ?_
  apply wpS_seq
  apply wpS_region
  simp [wpOpsS, go_sem, recoverD, hu, Tryd.ntmps30, Exit.thenS]
  apply wpS_seq
  apply wpS_seq
  apply wpS_region
  simp [wpOpsS, go_sem, Exit.thenS]
  refine wpS_cond (t := true) (by simp [Act.eval, Array.replicate]) ?_
  simp only [if_true]
  refine wpS_of_wp (wp_ret ?_)
  cases c₀
  simp_all [Exit.thenS, bodyPostS, results, Tryd.results30]
theorem setCell_self {w : World} {b o : Nat} {v : Value} {c : Array Value} {t : TypeId} {fz : Nat × Nat} (hb : w.heap[b]? = some (Obj.cells c t fz)) (h : c[o]? = some v) : w.setCell ⟨b, o, none⟩ v = w := by
  have key : (w.setCell ⟨b, o, none⟩ v).heap = w.heap := by
    unfold World.setCell
    apply Array.ext
    · simp
    · intro i h1 h2
      simp only [Array.getElem_modify]
      split
      · rename_i e
        subst e
        have hi : w.heap[b] = Obj.cells c t fz := (Array.getElem?_eq_some_iff.1 hb).2
        rw [hi]
        simp only [Option.isSome_none, Bool.false_eq_true, if_false]
        congr 1
        apply Array.ext
        · simp
        · intro j h3 h4
          rw [Array.getElem_setIfInBounds]
          split
          · rename_i e; subst e; exact ((Array.getElem?_eq_some_iff.1 h).2).symm
          · rfl
      · rfl
  cases w
  simp only [World.setCell] at key ⊢
  rw [key]
theorem reset7 {w : World} {g : Nat} {c0 c1 c2 c3 c4 c5 c6 : Value} (h : SegAt w g c0 c1 c2 c3 c4 c5 c6) : ((((((w.setCell ⟨g, 0, none⟩ c0).setCell ⟨g, 1, none⟩ c1).setCell ⟨g, 2, none⟩ c2).setCell ⟨g, 3, none⟩ c3).setCell ⟨g, 4, none⟩ c4).setCell ⟨g, 5, none⟩ c5).setCell ⟨g, 6, none⟩ c6 = w := by
  rw [setCell_self (v := c0) (o := 0) h rfl, setCell_self (v := c1) (o := 1) h rfl, setCell_self (v := c2) (o := 2) h rfl, setCell_self (v := c3) (o := 3) h rfl, setCell_self (v := c4) (o := 4) h rfl, setCell_self (v := c5) (o := 5) h rfl, setCell_self (v := c6) (o := 6) h rfl]
theorem info30 : (Tryd.prog.info? 30).map (fun i => (i.zero, i.size, i.bytes)) = some (some (.agg #[.int .i64 0, .int .i64 0, .bool false, .slice none 0 0, .slice none 0 0, .int .i64 0, .bool false]), 7, 88) := by kernel_rfl
theorem ret30 (tmps : Array Value) {w : World} {g h : Nat} {c0 c1 c2 c3 c4 c5 c6 y : Value} (hp : tmps.getD 2 undef = .pointer (some ⟨g, 0, none⟩)) (hq : tmps.getD 3 undef = .pointer (some ⟨h, 0, none⟩)) (hS : SegAt w g c0 c1 c2 c3 c4 c5 c6) (hE : w.heap[h]? = some (Obj.cells #[y] 31 (0, 0))) :
    (results Tryd.f15 tmps).run Tryd.prog w = .ok (.tuple #[.agg #[c0, c1, c2, c3, c4, c5, c6], y]) w := by
  have hp' : tmps[2]?.getD undef = .pointer (some ⟨g, 0, none⟩) := by simpa using hp
  have hq' : tmps[3]?.getD undef = .pointer (some ⟨h, 0, none⟩) := by simpa using hq
  have hl : (loadCells ⟨g, 0, none⟩ 7).run Tryd.prog w = .ok #[c0, c1, c2, c3, c4, c5, c6] w :=
    run_loadCells_list (P := Tryd.prog) w ⟨g, 0, none⟩ [c0, c1, c2, c3, c4, c5, c6] (fun j v hv => by
      rw [add_plain, Nat.zero_add, hS.cell j]
      simpa using hv)
  obtain ⟨i0, hi, _, hz1, _⟩ := info_parts info30
  have hagg : (isAgg 30).run Tryd.prog w = .ok true w := by
    unfold isAgg
    rw [Sem.run_bind, run_underlying Tryd.underlying30 w]
    rfl
  have hv : (loadVar 30 ⟨g, 0, none⟩).run Tryd.prog w = .ok (.agg #[c0, c1, c2, c3, c4, c5, c6]) w := by
    simp [loadVar, Sem.run_bind, hagg, sizeOf, typeInfo, hi, hz1, hl]
  have hc : w.cell? ⟨h, 0, none⟩ = some y := by rw [cell_of_row w h 0 _ 31 (0, 0) hE]; rfl
  have hv2 : (loadVar 31 ⟨h, 0, none⟩).run Tryd.prog w = .ok y w := by
    have hagg2 : (isAgg 31).run Tryd.prog w = .ok false w := by
      unfold isAgg
      rw [Sem.run_bind, run_underlying Tryd.underlying31 w]
      rfl
    simp [loadVar, Sem.run_bind, hagg2, go_sem, hc]
  simp [results, Tryd.results15, hp', hq', asAddr, hv, hv2]
/-- What bytes say, as a segment: the number, how many records were ahead, the snapshot, the records, how many bytes all these have. -/
def parseL (l : List UInt8) : Option (Int × Int × Option (List UInt8) × List (List UInt8) × Nat) :=
  match headOf l with
  | none => none
  | some (n, f, sz) =>
    match takeL l sz 2 with
    | none => some (n, f, none, recsL l sz, sz + rwide (recsL l sz))
    | some p => some (n, f, some p, recsL l (sz + (9 + p.length)), sz + (9 + p.length) + rwide (recsL l (sz + (9 + p.length))))
theorem headOf_le {l : List UInt8} {n f : Int} {sz : Nat} (h : headOf l = some (n, f, sz)) : sz ≤ l.length := by
  unfold headOf at h
  split at h
  · cases h
  · rename_i p hp
    split at h
    · have := (takeL_ok hp).1
      simp only [Option.some.injEq, Prod.mk.injEq] at h
      omega
    · cases h
theorem Ls.lower {B B' : Nat} {w : World} {v : Value} {ls : List (List UInt8)} (h : Ls B w v ls) (hB : B' ≤ B) : Ls B' w v ls := by
  obtain ⟨xs, hl, ⟨h1, h2⟩, hp⟩ := h
  refine ⟨xs, hl, ⟨h1, ?_⟩, fun i x f q1 q2 => (hp i x f q1 q2).lower hB⟩
  rcases h2 with h2 | ⟨g, cap, cur, h3, h4, r⟩
  · exact .inl h2
  · exact .inr ⟨g, cap, cur, h3, Nat.le_trans hB h4, r⟩
/-- What a call of Parse leaves. -/
def PX (w : World) (l : List UInt8) (r : Option (Int × Int × Option (List UInt8) × List (List UInt8) × Nat)) (e : Ending) (w' : World) : Prop :=
  Below w.heap.size w w' ∧
  match r with
  | none => e = .returned (.tuple #[.agg #[.int .i64 0, .int .i64 0, .bool false, .slice none 0 0, .slice none 0 0, .int .i64 0, .bool false], .int .i64 10])
  | some (n, f, sn, rs, sz) => ∃ x R, e = .returned (.tuple #[.agg #[.int .i64 n, .int .i64 f, .bool sn.isSome, x, R, .int .i64 (sz : Int), .bool (decide (sz < l.length))], .int .i64 0]) ∧ Own w.heap.size w' x (sn.getD []) ∧ Ls w.heap.size w' R rs
set_option maxHeartbeats 1000000 in
set_option maxRecDepth 100000 in
theorem parse_some (v : Value) (l : List UInt8) (w : World) (n f : Int) (sz : Nat) (hh : headOf l = some (n, f, sz)) (hv : Hb w v l) (ht : Tb w) (hl : l.length ≤ 1000000000) : Calls Tryd.prog 15 #[v] w (PX w l (parseL l)) := by
  have hmf : ∀ (fn : Fn) (first cap : Array Value) (w : World), (Instr.makeFunc fn first cap).run Tryd.prog w = .ok (.func fn first cap) w := fun _ _ _ _ => rfl
  have hvn := hv
  obtain ⟨va, vc, rfl, _, _⟩ := hvn
  obtain ⟨W2, hW2⟩ : ∃ W2, W2 = (w.alloc (Obj.cells #[Value.int IntKind.i64 0, Value.int IntKind.i64 0, Value.bool false, Value.slice none 0 0, Value.slice none 0 0, Value.int IntKind.i64 0, Value.bool false] 30)).alloc (Obj.cells #[Value.int IntKind.i64 0] 31) := ⟨_, rfl⟩
  have B2 : Below w.heap.size w W2 := by rw [hW2]; exact below_step (below_alloc _ _) (below_alloc _ _)
  have S2 : SegAt W2 w.heap.size (.int .i64 0) (.int .i64 0) (.bool false) (.slice none 0 0) (.slice none 0 0) (.int .i64 0) (.bool false) := by
    rw [hW2]; unfold SegAt; rw [Below.heap_alloc _ _ _ (by simp)]; exact heap_last w _
  have E2 : W2.heap[w.heap.size + 1]? = some (Obj.cells #[.int .i64 0] 31 (0, 0)) := by
    rw [hW2]
    have := heap_last (w.alloc (Obj.cells #[Value.int IntKind.i64 0, Value.int IntKind.i64 0, Value.bool false, Value.slice none 0 0, Value.slice none 0 0, Value.int IntKind.i64 0, Value.bool false] 30)) (Obj.cells #[Value.int IntKind.i64 0] 31)
    have e : (w.alloc (Obj.cells #[Value.int IntKind.i64 0, Value.int IntKind.i64 0, Value.bool false, Value.slice none 0 0, Value.slice none 0 0, Value.int IntKind.i64 0, Value.bool false] 30)).heap.size = w.heap.size + 1 := by simp
    rwa [e] at this
  have hsz2 : w.heap.size + 2 ≤ W2.heap.size := by rw [hW2]; simp
  have RC : Hid (Calls Tryd.prog 31 #[.pointer (some ⟨w.heap.size, 0, none⟩), .slice va l.length vc] W2 (RH w W2 w.heap.size (.bool false) (.slice none 0 0) (.slice none 0 0) (.bool false) (headOf l))) := readHead_calls w W2 w.heap.size _ _ _ _ _ l S2 hv ht B2 (Nat.le_refl _) hl
  have HV : Hid (Hb w (.slice va l.length vc) l) := hv
  have HT : Hid (Tb w) := ht
  have HL : Hid (l.length ≤ 1000000000) := hl
  have HE2 : Hid (W2.heap[w.heap.size + 1]? = _) := E2
  have HZ2 : Hid (w.heap.size + 2 ≤ W2.heap.size) := hsz2
  have HW2 : Hid (W2 = _) := hW2
  clear hv ht hl B2 S2 E2 hsz2 hW2
  go_enter_defers Tryd.func15, Tryd.ntmps15
  go_wp2_with fail
  rw [← HW2.out]
  refine RC.out.mono ?_
  intro e w3 h3
  obtain ⟨b3, k3, z3, h3⟩ := h3
  have B3 : Hid (Below w.heap.size w w3) := b3
  have E3 : Hid (w3.heap[w.heap.size + 1]? = some (Obj.cells #[.int .i64 0] 31 (0, 0))) := by show _ = _; rw [k3 _ (by have := HZ2.out; omega) (by omega)]; exact HE2.out
  have Z3 : Hid (w.heap.size + 2 ≤ w3.heap.size) := Nat.le_trans HZ2.out z3
  clear b3 k3 z3
  rw [hh] at h3
  obtain ⟨rfl, s3⟩ := h3
  have HHd : Hid (headOf l = some (n, f, sz)) := hh
  have hsz : sz ≤ l.length := headOf_le hh
  clear hh
  have TC : Hid (Calls Tryd.prog 32 #[.pointer (some ⟨w.heap.size, 0, none⟩), .slice va l.length vc, .int .i64 2] w3 (TK w w3 w.heap.size (.int .i64 n) (.int .i64 f) (.bool false) (.slice none 0 0) (.slice none 0 0) (.bool false) sz (takeL l sz 2))) := take_calls w w3 w.heap.size _ _ _ _ _ _ sz _ l 2 s3 HV.out HT.out B3.out (Nat.le_refl _) hsz HL.out
  have HS3 : Hid (SegAt w3 w.heap.size (.int .i64 n) (.int .i64 f) (.bool false) (.slice none 0 0) (.slice none 0 0) (.int .i64 (sz : Int)) (.bool false)) := s3
  clear s3
  go_wp2_with fail
  refine TC.out.mono ?_
  intro e w4 h4
  obtain ⟨b4, k4, z4, h4⟩ := h4
  have B4 : Hid (Below w.heap.size w w4) := b4
  have E4 : Hid (w4.heap[w.heap.size + 1]? = some (Obj.cells #[.int .i64 0] 31 (0, 0))) := by show _ = _; rw [k4 _ (by have := Z3.out; omega) (by omega)]; exact E3.out
  have Z4 : Hid (w.heap.size + 2 ≤ w4.heap.size) := Nat.le_trans Z3.out z4
  clear b4 k4 z4
  cases hn : takeL l sz 2 with
  | none =>
    rw [hn] at h4
    obtain ⟨rfl, s4⟩ := h4
    · skip
      have s5 : SegAt (w4.setCell ⟨w.heap.size, 3, none⟩ (.slice none 0 0)) w.heap.size (.int .i64 n) (.int .i64 f) (.bool false) (.slice none 0 0) (.slice none 0 0) (.int .i64 (sz : Int)) (.bool false) := s4.set 3 _
      have s6 : SegAt ((w4.setCell ⟨w.heap.size, 3, none⟩ (.slice none 0 0)).setCell ⟨w.heap.size, 2, none⟩ (.bool false)) w.heap.size (.int .i64 n) (.int .i64 f) (.bool false) (.slice none 0 0) (.slice none 0 0) (.int .i64 (sz : Int)) (.bool false) := s5.set 2 _
      have q3 : w4.cell? ⟨w.heap.size, 3, none⟩ = some (.slice none 0 0) := by rw [s4.cell 3]; rfl
      have q2 : w4.cell? ⟨w.heap.size, 2, none⟩ = some (.bool false) := by rw [s4.cell 2]; rfl
      have f3 := s4.free 3
      have f2 := s4.free 2
      obtain ⟨W6, hW6⟩ : ∃ W6, W6 = (w4.setCell ⟨w.heap.size, 3, none⟩ (.slice none 0 0)).setCell ⟨w.heap.size, 2, none⟩ (.bool false) := ⟨_, rfl⟩
      have HW6 : Hid (W6 = (w4.setCell ⟨w.heap.size, 3, none⟩ (.slice none 0 0)).setCell ⟨w.heap.size, 2, none⟩ (.bool false)) := hW6
      rw [← hW6] at s6
      have B6 : Hid (Below w.heap.size w W6) := by show Below _ _ _; rw [hW6]; exact (B4.out.setCell (p := ⟨w.heap.size, _, none⟩) (Nat.le_refl _) _).setCell (p := ⟨w.heap.size, _, none⟩) (Nat.le_refl _) _
      have E6 : Hid (W6.heap[w.heap.size + 1]? = some (Obj.cells #[.int .i64 0] 31 (0, 0))) := by show _ = _; rw [hW6, Below.heap_setCell _ _ _ _ (by simp), Below.heap_setCell _ _ _ _ (by simp)]; exact E4.out
      have O6 : Hid (Own w.heap.size W6 (.slice none 0 0) []) := by
        show Own _ _ _ _
        rw [hW6]
        exact ((Own.nil w.heap.size w4).kt (KT.set s4 3 _) (by decide)).kt (KT.set s5 2 _) (by decide)
      have Z6 : Hid (w.heap.size + 2 ≤ W6.heap.size) := by show _ ≤ _; rw [hW6]; have := Z4.out; simpa using this
      have RC6 : Hid (Calls Tryd.prog 33 #[.pointer (some ⟨w.heap.size, 0, none⟩), .slice va l.length vc] W6 (RR w W6 w.heap.size (.int .i64 n) (.int .i64 f) (.bool false) (.slice none 0 0) (.bool false) (sz) (recsL l (sz)))) := readRecords_calls w W6 w.heap.size _ _ _ _ _ (sz) _ l s6 HV.out HT.out B6.out (Nat.le_refl _) hsz HL.out
      obtain ⟨rs, hrs⟩ : ∃ rs, rs = recsL l (sz) := ⟨_, rfl⟩
      rw [← hrs] at RC6
      have HP : Hid (parseL l = some (n, f, none, rs, sz + rwide rs)) := by show _ = _; rw [hrs]; unfold parseL; rw [HHd.out]; simp only; rw [hn]
      obtain ⟨Z, hZ⟩ : ∃ Z, Z = sz + rwide rs := ⟨_, rfl⟩
      rw [← hZ] at HP
      have HZ : Hid (Z = sz + rwide rs) := hZ
      have HS6 : Hid (SegAt W6 w.heap.size (.int .i64 n) (.int .i64 f) (.bool false) (.slice none 0 0) (.slice none 0 0) (.int .i64 (sz : Int)) (.bool false)) := s6
      clear s4 s5 s6 hW6 hrs hZ hn
      go_wp2_with fail
      rw [← HW6.out]
      refine RC6.out.mono ?_
      rintro e w7 ⟨b7, k7, z7, rfl, R, s7, l7⟩
      rw [← HZ.out] at s7
      have K7 : KT (fun t => t ≠ 30) W6 w7 := k7.kt HS6.out
      have O7 : Hid (Own w.heap.size w7 (.slice none 0 0) []) := O6.out.kt K7 (by decide)
      have E7 : w7.heap[w.heap.size + 1]? = some (Obj.cells #[.int .i64 0] 31 (0, 0)) := K7 _ _ _ _ E6.out (by decide)
      have L7 : Hid (Ls w.heap.size w7 R rs) := l7.lower B6.out.size
      obtain ⟨Ra, Rn, Rc, rfl⟩ := l7.shape
      have B7 : Hid (Below w.heap.size w w7) := b7
      have s8 : SegAt (w7.setCell ⟨w.heap.size, 6, none⟩ (.bool (decide (Z < l.length)))) w.heap.size (.int .i64 n) (.int .i64 f) (.bool false) (.slice none 0 0) (.slice Ra Rn Rc) (.int .i64 (Z : Int)) (.bool (decide (Z < l.length))) := s7.set 6 _
      have q5 : w7.cell? ⟨w.heap.size, 5, none⟩ = some (.int .i64 (Z : Int)) := by rw [s7.cell 5]; rfl
      have q6 : w7.cell? ⟨w.heap.size, 6, none⟩ = some (.bool false) := by rw [s7.cell 6]; rfl
      have f6 := s7.free 6
      obtain ⟨tb, htb⟩ : ∃ tb, tb = decide (Z < l.length) := ⟨_, rfl⟩
      have HTB : Hid (tb = decide (Z < l.length)) := by show _ = _; exact htb
      obtain ⟨W8, hW8⟩ : ∃ W8, W8 = w7.setCell ⟨w.heap.size, 6, none⟩ (.bool (decide (Z < l.length))) := ⟨_, rfl⟩
      have HW8 : Hid (W8 = w7.setCell ⟨w.heap.size, 6, none⟩ (.bool (decide (Z < l.length)))) := hW8
      rw [← hW8, ← htb] at s8
      have B8 : Hid (Below w.heap.size w W8) := by show Below _ _ _; rw [hW8]; exact B7.out.setCell (p := ⟨w.heap.size, _, none⟩) (Nat.le_refl _) _
      have E8 : W8.heap[w.heap.size + 1]? = some (Obj.cells #[.int .i64 0] 31 (0, 0)) := by rw [hW8, Below.heap_setCell _ _ _ _ (by simp)]; exact E7
      have O8 : Hid (Own w.heap.size W8 (.slice none 0 0) []) := by show Own _ _ _ _; rw [hW8]; exact O7.out.kt (KT.set s7 6 _) (by decide)
      have L8 : Hid (Ls w.heap.size W8 (.slice Ra Rn Rc) rs) := by show Ls _ _ _ _; rw [hW8]; exact L7.out.kt (KT.set s7 6 _) (by decide) (by decide)
      have HTb : Hid (tb = decide (Z < l.length)) := htb
      clear b7 k7 z7 s7 l7 K7 E7 hW8 htb
      go_upto_region 6 with fail
      rw [← HW8.out, ← HTb.out]
      have t0 : W8.cell? ⟨w.heap.size, 0, none⟩ = some (.int .i64 n) := by rw [s8.cell 0]; rfl
      have t1 : W8.cell? ⟨w.heap.size, 1, none⟩ = some (.int .i64 f) := by rw [s8.cell 1]; rfl
      have t2 : W8.cell? ⟨w.heap.size, 2, none⟩ = some (.bool false) := by rw [s8.cell 2]; rfl
      have t3 : W8.cell? ⟨w.heap.size, 3, none⟩ = some (.slice none 0 0) := by rw [s8.cell 3]; rfl
      have t4 : W8.cell? ⟨w.heap.size, 4, none⟩ = some (.slice Ra Rn Rc) := by rw [s8.cell 4]; rfl
      have t5 : W8.cell? ⟨w.heap.size, 5, none⟩ = some (.int .i64 (Z : Int)) := by rw [s8.cell 5]; rfl
      have t6 : W8.cell? ⟨w.heap.size, 6, none⟩ = some (.bool tb) := by rw [s8.cell 6]; rfl
      have z0 := s8.free 0
      have z1 := s8.free 1
      have z2 := s8.free 2
      have z3 := s8.free 3
      have z4 := s8.free 4
      have z5 := s8.free 5
      have z6 := s8.free 6
      have te : W8.cell? ⟨w.heap.size + 1, 0, none⟩ = some (.int .i64 0) := by rw [cell_of_row _ _ 0 _ 31 (0, 0) E8]; rfl
      have ze : W8.frozen? ⟨w.heap.size + 1, 0, none⟩ = false := frozen_of_row _ _ 0 _ 31 E8
      have hres := reset7 s8
      have hre : W8.setCell ⟨w.heap.size + 1, 0, none⟩ (.int .i64 0) = W8 := setCell_self E8 rfl
      have HRes : Hid (_ = W8) := hres
      have HRe : Hid (_ = W8) := hre
      have HS8 : Hid (SegAt W8 w.heap.size (.int .i64 n) (.int .i64 f) (.bool false) (.slice none 0 0) (.slice Ra Rn Rc) (.int .i64 (Z : Int)) (.bool tb)) := s8
      have HE8 : Hid (W8.heap[w.heap.size + 1]? = _) := E8
      clear hres hre s8 E8 q5 q6 f6
      go_wp2_with fail
      rw [HRes.out, HRe.out]
      refine leaves_cons (f := 30) (args := #[.pointer (some ⟨w.heap.size, 0, none⟩), .pointer (some ⟨w.heap.size + 1, 0, none⟩)]) (by simp) (by simp [go_sem]) ?_
      refine (catch_idle _ _ _).mono ?_
      rintro e u' w9 ⟨rfl, rfl, rfl⟩
      refine ⟨_, ret30 _ rfl rfl HS8.out HE8.out, B8.out, ?_⟩
      rw [HP.out]
      exact ⟨_, _, by rw [HTB.out]; rfl, O8.out, L8.out⟩
  | some p =>
    rw [hn] at h4
    obtain ⟨x, rfl, ox, s4⟩ := h4
    have hok := takeL_ok hn
    have hsz2 : sz + (9 + p.length) ≤ l.length := hok.1
    have ox4 : Own w.heap.size w4 x p := ox.lower B3.out.size
    obtain ⟨xa, xn, xc, rfl⟩ := ox.hb.shape
    clear ox hok
    · skip
      have s5 : SegAt (w4.setCell ⟨w.heap.size, 3, none⟩ (.slice xa xn xc)) w.heap.size (.int .i64 n) (.int .i64 f) (.bool false) (.slice xa xn xc) (.slice none 0 0) (.int .i64 (sz + (9 + p.length) : Int)) (.bool false) := s4.set 3 _
      have s6 : SegAt ((w4.setCell ⟨w.heap.size, 3, none⟩ (.slice xa xn xc)).setCell ⟨w.heap.size, 2, none⟩ (.bool true)) w.heap.size (.int .i64 n) (.int .i64 f) (.bool true) (.slice xa xn xc) (.slice none 0 0) (.int .i64 (sz + (9 + p.length) : Int)) (.bool false) := s5.set 2 _
      have q3 : w4.cell? ⟨w.heap.size, 3, none⟩ = some (.slice none 0 0) := by rw [s4.cell 3]; rfl
      have q2 : w4.cell? ⟨w.heap.size, 2, none⟩ = some (.bool false) := by rw [s4.cell 2]; rfl
      have f3 := s4.free 3
      have f2 := s4.free 2
      obtain ⟨W6, hW6⟩ : ∃ W6, W6 = (w4.setCell ⟨w.heap.size, 3, none⟩ (.slice xa xn xc)).setCell ⟨w.heap.size, 2, none⟩ (.bool true) := ⟨_, rfl⟩
      have HW6 : Hid (W6 = (w4.setCell ⟨w.heap.size, 3, none⟩ (.slice xa xn xc)).setCell ⟨w.heap.size, 2, none⟩ (.bool true)) := hW6
      rw [← hW6] at s6
      have B6 : Hid (Below w.heap.size w W6) := by show Below _ _ _; rw [hW6]; exact (B4.out.setCell (p := ⟨w.heap.size, _, none⟩) (Nat.le_refl _) _).setCell (p := ⟨w.heap.size, _, none⟩) (Nat.le_refl _) _
      have E6 : Hid (W6.heap[w.heap.size + 1]? = some (Obj.cells #[.int .i64 0] 31 (0, 0))) := by show _ = _; rw [hW6, Below.heap_setCell _ _ _ _ (by simp), Below.heap_setCell _ _ _ _ (by simp)]; exact E4.out
      have O6 : Hid (Own w.heap.size W6 (.slice xa xn xc) p) := by
        show Own _ _ _ _
        rw [hW6]
        exact (ox4.kt (KT.set s4 3 _) (by decide)).kt (KT.set s5 2 _) (by decide)
      have Z6 : Hid (w.heap.size + 2 ≤ W6.heap.size) := by show _ ≤ _; rw [hW6]; have := Z4.out; simpa using this
      have RC6 : Hid (Calls Tryd.prog 33 #[.pointer (some ⟨w.heap.size, 0, none⟩), .slice va l.length vc] W6 (RR w W6 w.heap.size (.int .i64 n) (.int .i64 f) (.bool true) (.slice xa xn xc) (.bool false) (sz + (9 + p.length)) (recsL l (sz + (9 + p.length))))) := readRecords_calls w W6 w.heap.size _ _ _ _ _ (sz + (9 + p.length)) _ l s6 HV.out HT.out B6.out (Nat.le_refl _) hsz2 HL.out
      obtain ⟨rs, hrs⟩ : ∃ rs, rs = recsL l (sz + (9 + p.length)) := ⟨_, rfl⟩
      rw [← hrs] at RC6
      have HP : Hid (parseL l = some (n, f, some p, rs, sz + (9 + p.length) + rwide rs)) := by show _ = _; rw [hrs]; unfold parseL; rw [HHd.out]; simp only; rw [hn]
      obtain ⟨Z, hZ⟩ : ∃ Z, Z = sz + (9 + p.length) + rwide rs := ⟨_, rfl⟩
      rw [← hZ] at HP
      have HZ : Hid (Z = sz + (9 + p.length) + rwide rs) := hZ
      have HS6 : Hid (SegAt W6 w.heap.size (.int .i64 n) (.int .i64 f) (.bool true) (.slice xa xn xc) (.slice none 0 0) (.int .i64 (sz + (9 + p.length) : Int)) (.bool false)) := s6
      clear s4 s5 s6 hW6 hrs hZ hn
      go_wp2_with fail
      rw [← HW6.out]
      refine RC6.out.mono ?_
      rintro e w7 ⟨b7, k7, z7, rfl, R, s7, l7⟩
      rw [← HZ.out] at s7
      have K7 : KT (fun t => t ≠ 30) W6 w7 := k7.kt HS6.out
      have O7 : Hid (Own w.heap.size w7 (.slice xa xn xc) p) := O6.out.kt K7 (by decide)
      have E7 : w7.heap[w.heap.size + 1]? = some (Obj.cells #[.int .i64 0] 31 (0, 0)) := K7 _ _ _ _ E6.out (by decide)
      have L7 : Hid (Ls w.heap.size w7 R rs) := l7.lower B6.out.size
      obtain ⟨Ra, Rn, Rc, rfl⟩ := l7.shape
      have B7 : Hid (Below w.heap.size w w7) := b7
      have s8 : SegAt (w7.setCell ⟨w.heap.size, 6, none⟩ (.bool (decide (Z < l.length)))) w.heap.size (.int .i64 n) (.int .i64 f) (.bool true) (.slice xa xn xc) (.slice Ra Rn Rc) (.int .i64 (Z : Int)) (.bool (decide (Z < l.length))) := s7.set 6 _
      have q5 : w7.cell? ⟨w.heap.size, 5, none⟩ = some (.int .i64 (Z : Int)) := by rw [s7.cell 5]; rfl
      have q6 : w7.cell? ⟨w.heap.size, 6, none⟩ = some (.bool false) := by rw [s7.cell 6]; rfl
      have f6 := s7.free 6
      obtain ⟨tb, htb⟩ : ∃ tb, tb = decide (Z < l.length) := ⟨_, rfl⟩
      have HTB : Hid (tb = decide (Z < l.length)) := by show _ = _; exact htb
      obtain ⟨W8, hW8⟩ : ∃ W8, W8 = w7.setCell ⟨w.heap.size, 6, none⟩ (.bool (decide (Z < l.length))) := ⟨_, rfl⟩
      have HW8 : Hid (W8 = w7.setCell ⟨w.heap.size, 6, none⟩ (.bool (decide (Z < l.length)))) := hW8
      rw [← hW8, ← htb] at s8
      have B8 : Hid (Below w.heap.size w W8) := by show Below _ _ _; rw [hW8]; exact B7.out.setCell (p := ⟨w.heap.size, _, none⟩) (Nat.le_refl _) _
      have E8 : W8.heap[w.heap.size + 1]? = some (Obj.cells #[.int .i64 0] 31 (0, 0)) := by rw [hW8, Below.heap_setCell _ _ _ _ (by simp)]; exact E7
      have O8 : Hid (Own w.heap.size W8 (.slice xa xn xc) p) := by show Own _ _ _ _; rw [hW8]; exact O7.out.kt (KT.set s7 6 _) (by decide)
      have L8 : Hid (Ls w.heap.size W8 (.slice Ra Rn Rc) rs) := by show Ls _ _ _ _; rw [hW8]; exact L7.out.kt (KT.set s7 6 _) (by decide) (by decide)
      have HTb : Hid (tb = decide (Z < l.length)) := htb
      clear b7 k7 z7 s7 l7 K7 E7 hW8 htb
      go_upto_region 6 with fail
      rw [← HW8.out, ← HTb.out]
      have t0 : W8.cell? ⟨w.heap.size, 0, none⟩ = some (.int .i64 n) := by rw [s8.cell 0]; rfl
      have t1 : W8.cell? ⟨w.heap.size, 1, none⟩ = some (.int .i64 f) := by rw [s8.cell 1]; rfl
      have t2 : W8.cell? ⟨w.heap.size, 2, none⟩ = some (.bool true) := by rw [s8.cell 2]; rfl
      have t3 : W8.cell? ⟨w.heap.size, 3, none⟩ = some (.slice xa xn xc) := by rw [s8.cell 3]; rfl
      have t4 : W8.cell? ⟨w.heap.size, 4, none⟩ = some (.slice Ra Rn Rc) := by rw [s8.cell 4]; rfl
      have t5 : W8.cell? ⟨w.heap.size, 5, none⟩ = some (.int .i64 (Z : Int)) := by rw [s8.cell 5]; rfl
      have t6 : W8.cell? ⟨w.heap.size, 6, none⟩ = some (.bool tb) := by rw [s8.cell 6]; rfl
      have z0 := s8.free 0
      have z1 := s8.free 1
      have z2 := s8.free 2
      have z3 := s8.free 3
      have z4 := s8.free 4
      have z5 := s8.free 5
      have z6 := s8.free 6
      have te : W8.cell? ⟨w.heap.size + 1, 0, none⟩ = some (.int .i64 0) := by rw [cell_of_row _ _ 0 _ 31 (0, 0) E8]; rfl
      have ze : W8.frozen? ⟨w.heap.size + 1, 0, none⟩ = false := frozen_of_row _ _ 0 _ 31 E8
      have hres := reset7 s8
      have hre : W8.setCell ⟨w.heap.size + 1, 0, none⟩ (.int .i64 0) = W8 := setCell_self E8 rfl
      have HRes : Hid (_ = W8) := hres
      have HRe : Hid (_ = W8) := hre
      have HS8 : Hid (SegAt W8 w.heap.size (.int .i64 n) (.int .i64 f) (.bool true) (.slice xa xn xc) (.slice Ra Rn Rc) (.int .i64 (Z : Int)) (.bool tb)) := s8
      have HE8 : Hid (W8.heap[w.heap.size + 1]? = _) := E8
      clear hres hre s8 E8 q5 q6 f6
      go_wp2_with fail
      rw [HRes.out, HRe.out]
      refine leaves_cons (f := 30) (args := #[.pointer (some ⟨w.heap.size, 0, none⟩), .pointer (some ⟨w.heap.size + 1, 0, none⟩)]) (by simp) (by simp [go_sem]) ?_
      refine (catch_idle _ _ _).mono ?_
      rintro e u' w9 ⟨rfl, rfl, rfl⟩
      refine ⟨_, ret30 _ rfl rfl HS8.out HE8.out, B8.out, ?_⟩
      rw [HP.out]
      exact ⟨_, _, by rw [HTB.out]; rfl, O8.out, L8.out⟩
end Go.Proofs.YthakbkkopneilaaDoor
