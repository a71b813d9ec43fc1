/- The contract of Cut's closure: a zone's bytes, shorter. -/
import Derived.Test.YtfjcjaojbdcpeaaNI
import Derived.Deep.RegionHeld3
namespace Go.Proofs.Ytfjcjaojbdcpeaa
open Go.ChangeShapes Go.WideShapes Go.ChangeAt Go.RowKit Go.Maps
theorem KB.cell {b : Nat} {w w' : World} (k : KB b w w') {a : Addr} {v : Value} (h : w.cell? a = some v) (ha : a.block ≠ b) : w'.cell? a = some v := (World.cell?_of_block (k.2.2.2.2 a.block (World.block_lt_of_cell? w _ h) ha)).trans h
theorem Zm.no_cell {w : World} {b n : Nat} {D : DataW Value} (h : Zm w b n D) {q o : Nat} {v : Value} (hc : w.cell? ⟨q, o, none⟩ = some v) : q ≠ b := by
  intro e
  subst e
  obtain ⟨es, clock, hes, _⟩ := h
  simp [World.cell?, hes] at hc
/-- What Cut's closure leaves. -/
def CtP (lo b n : Nat) (D : DataW Value) (z : Int) (a : Option Addr) (c m : Nat) (s : Int) (out : List UInt8) (w : World) (x : Ending) (w' : World) : Prop :=
  x = .returned (.tuple #[]) ∧ Own lo w' (.slice a m c) (out.take m) ∧ (m ≠ 0 → Zm w' b (n + 1) (D.put (.int .i64 z) (.held (.agg #[.slice a m c, .int .i64 (min s (m : Int))])))) ∧ (m = 0 → Zm w' b (n + 1) (D.del (.int .i64 z))) ∧ KB b w w'
set_option maxHeartbeats 2000000 in
set_option maxRecDepth 100000 in
theorem cut1_calls (lo g b n q0 q1 q2 : Nat) (c0 c1 c2 : Value) (D : DataW Value) (z : Int) (hz : (Lit.int .i64 z).wf = true) (a : Option Addr) (vn c m : Nat) (s : Int) (out : List UInt8) (w : World)
    (h : Bk w g #[c0, c1, c2, .map (some b)] 57) (hm : Zm w b n D) (hn : n < maxLen) (hv : D.atKey (.int .i64 z) (.held zC) = .held (.agg #[.slice a vn c, .int .i64 s])) (ho : Own lo w (.slice a vn c) out) (hbv : (Value.slice a vn c).ownBlock ≠ some b) (hmo : m ≤ out.length)
    (k0 : w.cell? ⟨q0, 0, none⟩ = some (.pointer (some ⟨g, 0, none⟩))) (k1 : w.cell? ⟨q1, 0, none⟩ = some (.int .i64 z)) (k2 : w.cell? ⟨q2, 0, none⟩ = some (.int .i64 (m : Int))) :
    Calls Try.prog 47 #[.pointer (some ⟨q0, 0, none⟩), .pointer (some ⟨q1, 0, none⟩), .pointer (some ⟨q2, 0, none⟩)] w (CtP lo b n D z a c m s out w) := by
  have x3 : w.cell? ⟨g, 3, none⟩ = some (.map (some b)) := h.cell 3
  have lk0 := Zm.lookAll hz hv w.drew hm
  have F1 : Hid (Calls Try.prog 45 #[.agg #[.slice a vn c, .int .i64 s], .int .i64 (m : Int)] w.drew _) := first_own lo a vn c m s out w w.drew ho hmo
  have hvl : ∀ B, (Value.slice a vn c).ownBlock = some B → B < w.heap.size := fun B hB => (World.ownsRow.lt (show w.ownsRow lo 5 1 _ out.length (bval out) from ho) B hB).2
  have P1 : Hid (∀ W, Below w.heap.size w W → Calls Try.prog 42 #[.pointer (some ⟨g, 0, none⟩), .int .i64 z, .agg #[.slice a m c, .int .i64 (min s (m : Int))]] W (CtP lo b n D z a c m s out w)) := fun W hB => by
    have bk := h.below hB
    have zm : Zm W b n D := hm.kb (KB.of_below (g := b + 1) hB) (by omega)
    have ho2 : ∀ w', KB b W w' → Own lo w' (.slice a m c) (out.take m) := fun w' k => (ho.cut hmo).keep (fun B hB2 => by
      have hB3 : (Value.slice a vn c).ownBlock = some B := by
        cases a with
        | none => cases hB2
        | some p => exact hB2
      have hlt := hvl B hB3
      exact (k.2.2.2.2 B (Nat.lt_of_lt_of_le hlt hB.size) (fun e => hbv (by rw [← e]; exact hB3))).trans (hB.block B hlt))
    by_cases h0 : m = 0
    · subst h0
      exact (put_none g b n c0 c1 c2 D z hz a c _ W bk zm).mono fun e w' ⟨h1, h2, h3⟩ => ⟨h1, ho2 w' h3, fun h => absurd rfl h, fun _ => World.ownsMap.mono h2 (Nat.le_succ n), (KB.of_below hB).trans h3⟩
    · exact (put_some g b n c0 c1 c2 D z hz a m c _ W bk zm hn h0).mono fun e w' ⟨h1, h2, h3⟩ => ⟨h1, ho2 w' h3, fun _ => h2, fun h => absurd h h0, (KB.of_below hB).trans h3⟩
  have HP : Hid (∀ x w', CtP lo b n D z a c m s out w x w' → x = .returned (.tuple #[]) ∧ w'.cell? ⟨q0, 0, none⟩ = some (.pointer (some ⟨g, 0, none⟩)) ∧ w'.cell? ⟨q1, 0, none⟩ = some (.int .i64 z) ∧ w'.cell? ⟨q2, 0, none⟩ = some (.int .i64 (m : Int)) ∧ w'.cell? ⟨g, 3, none⟩ = some (.map (some b))) := fun x w' hh => ⟨hh.1, hh.2.2.2.2.cell k0 (hm.no_cell k0), hh.2.2.2.2.cell k1 (hm.no_cell k1), hh.2.2.2.2.cell k2 (hm.no_cell k2), hh.2.2.2.2.cell x3 (hm.no_cell x3)⟩
  generalize CtP lo b n D z a c m s out w = CP at P1 HP ⊢
  generalize min s (m : Int) = s' at F1 P1
  clear h hm hn hv ho hbv hmo hvl hz
  go_enter Try.func47, Try.ntmps47
  go_wp2_with fail
  go_region_held3 (fun w' => w'.cell? ⟨q0, 0, none⟩ = some (.pointer (some ⟨g, 0, none⟩)) ∧ w'.cell? ⟨q1, 0, none⟩ = some (.int .i64 z) ∧ w'.cell? ⟨q2, 0, none⟩ = some (.int .i64 (m : Int)) ∧ w'.cell? ⟨g, 3, none⟩ = some (.map (some b))) (go_keep) (first
    | (go_at_call 45; refine F1.out.mono ?_; rintro e w1 ⟨rfl, hb1⟩; have B1 : Hid (Below w.heap.size w w1) := bel2 (Below.refl _ w).drew hb1; have y0 := cell_below k0 B1.out; have y1 := cell_below k1 B1.out; have y2 := cell_below k2 B1.out; have y3 := cell_below x3 B1.out; clear hb1)
    | (go_at_call 42; refine (P1.out _ B1.out).mono ?_; intro e w2 hq; have HQ : Hid (CP e w2) := hq; obtain ⟨rfl, v0, v1, v2, v3⟩ := HP.out _ _ hq; clear hq))
  all_goals go_wp2_with fail
  all_goals first | go_end0 | refine bodyPost_ret (results_none rfl _ _ _) rfl ?_
  all_goals exact HQ.out
end Go.Proofs.Ytfjcjaojbdcpeaa
