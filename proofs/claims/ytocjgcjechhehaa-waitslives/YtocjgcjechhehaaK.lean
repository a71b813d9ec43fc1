/- The contracts of open, isSession, handed, end. -/
import Derived.Test.YtocjgcjechhehaaJ
namespace Go.Proofs.Ytocjgcjechhehaa
open Go.ChangeAt Go.ChangeShapes Go.Deep Go.RowKit Go.WideShapes
/-- Does it wait for that run, and is it not over? -/
def opn (x : Wt) (flow : ByteArray) (run : Int) : Bool := !x.over && (decide (x.flow = flow) && decide (x.run = run))
set_option maxHeartbeats 1000000 in
theorem open_calls {R : Value → Tv → Prop} (r : Array Value) (x : Wt) (h : IsW R r x) (flow : ByteArray) (run : Int) (w : World) :
    Calls Try.prog 36 #[.agg r, .string flow, .int .i64 run] w fun e w' => e = .returned (.bool (opn x flow run)) ∧ Below w.heap.size w w' := by
  have HB : Hid (Below w.heap.size w (w.alloc (.cells r 29))) := bel1 w _
  have hrow : (w.alloc (.cells r 29)).heap[w.heap.size]? = some (.cells r 29 (0, 0)) := heap_alloc_new w _
  have e17 : (w.alloc (.cells r 29)).cell? ⟨w.heap.size, 17, none⟩ = some (.bool x.over) := row_cell hrow h.c17
  have e4 : (w.alloc (.cells r 29)).cell? ⟨w.heap.size, 4, none⟩ = some (.string x.flow) := row_cell hrow h.c4
  have e1 : (w.alloc (.cells r 29)).cell? ⟨w.heap.size, 1, none⟩ = some (.int .i64 x.run) := row_cell hrow h.c1
  have HO : Hid (opn x flow run = (!x.over && (decide (x.flow = flow) && decide (x.run = run)))) := rfl
  generalize opn x flow run = z at HO ⊢
  generalize x.over = ov at *
  generalize x.flow = fl at *
  generalize x.run = rn at *
  clear h hrow
  go_enter Try.func36, Try.ntmps36
  go_upto_region 1 with fail
  generalize w.alloc (.cells r 29) = W at HB e17 e4 e1 ⊢
  cases ov with
  | true =>
    go_wp2_with fail
    go_ret
    exact ⟨by rw [HO.out]; rfl, HB.out⟩
  | false =>
    by_cases h4 : fl = flow
    · subst h4
      by_cases h1 : rn = run
      · subst h1
        go_wp2_with fail
        go_ret
        exact ⟨by rw [HO.out]; simp, HB.out⟩
      · have f1 : (rn == run) = false := by simpa using h1
        go_wp2_with fail
        go_ret
        exact ⟨by rw [HO.out]; simp [h1], HB.out⟩
    · have f4 := tl_ne h4
      go_wp2_with fail
      go_ret
      exact ⟨by rw [HO.out]; simp [h4], HB.out⟩
/-- Is it a session's number? -/
def isS (s : Int) : Bool := decide (0 ≤ s ∧ s ≤ 2147483648)
theorem isS_calls (s : Int) (w : World) : Calls Try.prog 43 #[.int .i64 s] w fun e w' => e = .returned (.bool (isS s)) ∧ Below w.heap.size w w' := by
  have HO : Hid (isS s = decide (0 ≤ s ∧ s ≤ 2147483648)) := rfl
  generalize isS s = z at HO ⊢
  by_cases h0 : 0 ≤ s
  · by_cases h1 : s ≤ 2147483648
    · have f0 : decide (0 ≤ s) = true := by simpa using h0
      have f1 : decide (s ≤ 2147483648) = true := by simpa using h1
      have HZ : Hid (z = true) := by show _ = _; rw [HO.out]; simp [h0, h1]
      clear h0 h1 HO
      go_enter Try.func43, Try.ntmps43
      go_wp2_with fail
      go_ret
      exact ⟨by rw [HZ.out]; rfl, Below.refl _ _⟩
    · have f0 : decide (0 ≤ s) = true := by simpa using h0
      have f1 : decide (s ≤ 2147483648) = false := by simpa using h1
      have HZ : Hid (z = false) := by show _ = _; rw [HO.out]; simp [h1]
      clear h0 h1 HO
      go_enter Try.func43, Try.ntmps43
      go_wp2_with fail
      go_ret
      exact ⟨by rw [HZ.out]; rfl, Below.refl _ _⟩
  · have f0 : decide (0 ≤ s) = false := by simpa using h0
    have HZ : Hid (z = false) := by show _ = _; rw [HO.out]; simp [h0]
    clear h0 HO
    go_enter Try.func43, Try.ntmps43
    go_wp2_with fail
    go_ret
    exact ⟨by rw [HZ.out]; rfl, Below.refl _ _⟩
theorem handed_calls (s : Int) (w : World) : Calls Try.prog 44 #[.int .i64 s] w fun e w' => e = .returned (.int .i64 (wrap64 (s + 1))) ∧ Below w.heap.size w w' := by
  go_enter Try.func44, Try.ntmps44
  go_wp2_with fail
  go_ret
  exact ⟨rfl, Below.refl _ _⟩
theorem is_lit {w : World} : ∀ {n : Nat} {v : Value} {t : Tv}, Is w n v t → ∃ k x b s a m c, v = .agg #[.int .i64 k, .int .i64 x, .int .u64 b, .string s, .slice a m c]
  | 0, _, _, h => h.elim
  | _ + 1, _, .mk k x b s l, ⟨a, c, hv, _, _⟩ => ⟨k, x, b, s, a, l.length, c, hv⟩
/-- What turns a wait in its box. -/
def TuP (n b : Nat) (x : Wt) (w : World) (e : Ending) (w' : World) : Prop := e = .returned (.tuple #[]) ∧ KB b w w' ∧ ∃ cs, w'.heap[b]? = some (.cells cs 29 (0, 0)) ∧ IsW (IsN (b + 1) w' n) cs x
theorem end_isW {R R' : Value → Tv → Prop} {cs : Array Value} {x : Wt} {k1 x1 b1 : Int} {s1 : ByteArray} {a1 : Option Addr} {m1 c1 : Nat} {t : Tv} (h : IsW R cs x) (hR : ∀ v t, R v t → R' v t)
    (hv : R' (.agg #[.int .i64 k1, .int .i64 x1, .int .u64 b1, .string s1, .slice a1 m1 c1]) t) :
    IsW R' (put5 (cs.setIfInBounds 17 (.bool true)) 11 (.int .i64 k1) (.int .i64 x1) (.int .u64 b1) (.string s1) (.slice a1 m1 c1)) { x with over := true, value := t } := by
  have hs := h.size
  have o : ∀ q, (q < 11 ∨ q = 16 ∨ 18 ≤ q) → (put5 (cs.setIfInBounds 17 (.bool true)) 11 (.int .i64 k1) (.int .i64 x1) (.int .u64 b1) (.string s1) (.slice a1 m1 c1))[q]? = cs[q]? := fun q hq => by
    rw [put5_other _ _ _ _ _ _ _ _ (by omega), Array.getElem?_setIfInBounds_ne (by omega)]
  exact { size := by rw [put5_size]; simp [hs], c0 := (o 0 (by omega)).trans h.c0, c1 := (o 1 (by omega)).trans h.c1, c2 := (o 2 (by omega)).trans h.c2, c3 := (o 3 (by omega)).trans h.c3, c4 := (o 4 (by omega)).trans h.c4, c5 := (o 5 (by omega)).trans h.c5, c16 := (o 16 (by omega)).trans h.c16, c18 := (o 18 (by omega)).trans h.c18,
          c17 := by rw [put5_other _ _ _ _ _ _ _ _ (by omega), Array.getElem?_setIfInBounds_self_of_lt (by omega)],
          asked := (h.asked.map fun v => hR v _).other fun q h1 h2 => o q (by omega), value := put5_v5 (by simp [hs]) hv }
set_option maxHeartbeats 2000000 in
theorem end_calls (n b : Nat) (cs : Array Value) (x : Wt) (v : Value) (t : Tv) (w : World) (hb : b < w.heap.size) (hrow : w.heap[b]? = some (.cells cs 29 (0, 0))) (h : IsW (IsN (b + 1) w n) cs x) (hv : Is w n v t) (hs : SmallW n t) :
    Calls Try.prog 47 #[.pointer (some ⟨b, 0, none⟩), v] w (TuP n b { x with over := true, value := t } w) := by
  obtain ⟨k, y, z, s, a, m, c, rfl⟩ := is_lit hv
  obtain ⟨k', x', b', s', a', m', c', i1, i2, i3, i4, i5, _⟩ := h.value
  have KC : Hid (∀ W, Below w.heap.size w W → _) := fun W hW => pcloneW n _ t W (hv.below hW) hs
  have HR : Hid (w.heap[b]? = some (.cells cs 29 (0, 0))) := hrow
  have HI : Hid (IsW (IsN (b + 1) w n) cs x) := h
  have HBL : Hid (b < w.heap.size) := hb
  have HQ : Hid (∀ w' cs', KB b w w' → w'.heap[b]? = some (.cells cs' 29 (0, 0)) → IsW (IsN (b + 1) w' n) cs' { x with over := true, value := t } → TuP n b { x with over := true, value := t } w (.returned (.tuple #[])) w') := fun w' cs' h1 h2 h3 => ⟨rfl, h1, cs', h2, h3⟩
  have I : Hid (cs[11]? = some (.int .i64 k') ∧ cs[11 + 1]? = some (.int .i64 x') ∧ cs[11 + 2]? = some (.int .u64 b') ∧ cs[11 + 3]? = some (.string s') ∧ cs[11 + 4]? = some (.slice a' m' c')) := ⟨i1, i2, i3, i4, i5⟩
  clear hrow h hv hs hb i1 i2 i3 i4 i5
  generalize TuP n b { x with over := true, value := t } w = Q at HQ ⊢
  go_enter Try.func47, Try.ntmps47
  go_wp2_with fail
  refine (KC.out _ (bel1 w _)).mono ?_
  rintro e w1 ⟨⟨v1, rfl, hn1⟩, hb1⟩
  obtain ⟨k1, x1, b1, s1, a1, m1, c1, rfl⟩ := hn1.shape
  have HB1 : Hid (Below w.heap.size w w1) := bel2 (bel1 w _) hb1
  have hrow1 : w1.heap[b]? = some (.cells cs 29 (0, 0)) := row_below HB1.out HR.out
  have HRow1 : Hid (w1.heap[b]? = some (.cells cs 29 (0, 0))) := hrow1
  have p17 : w1.cell? ⟨b, 17, none⟩ = some (.bool x.over) := row_cell hrow1 HI.out.c17
  have p11 : w1.cell? ⟨b, 11, none⟩ = some (.int .i64 k') := row_cell hrow1 I.out.1
  have p12 : w1.cell? ⟨b, 12, none⟩ = some (.int .i64 x') := row_cell hrow1 I.out.2.1
  have p13 : w1.cell? ⟨b, 13, none⟩ = some (.int .u64 b') := row_cell hrow1 I.out.2.2.1
  have p14 : w1.cell? ⟨b, 14, none⟩ = some (.string s') := row_cell hrow1 I.out.2.2.2.1
  have p15 : w1.cell? ⟨b, 15, none⟩ = some (.slice a' m' c') := row_cell hrow1 I.out.2.2.2.2
  have pf : ∀ o, w1.frozen? ⟨b, o, none⟩ = false := fun o => frozen_of_row w1 b o _ 29 hrow1
  have HN1 : Hid (IsN (b + 1) w1 n _ t) := hn1.lower (by have := HBL.out; simp; omega)
  clear hb1 hn1 hrow1 KC
  go_wp2_with fail
  have k17 := KB.setCell b w1 17 (.bool true)
  have k5 := set5_kb (w1.setCell ⟨b, 17, none⟩ (.bool true)) b 11 (.int .i64 k1) (.int .i64 x1) (.int .u64 b1) (.string s1) (.slice a1 m1 c1)
  have k := k17.trans k5
  refine bodyPost_end (results_none rfl _ _ _) rfl (HQ.out _ _ ((KB.of_below HB1.out).trans k) (set5_row (heap_setCell_same w1 b 17 _ 29 (.bool true) HRow1.out) _ _ _ _ _) ?_)
  exact end_isW HI.out (fun v t h => (h.kb (KB.of_below HB1.out) (Nat.lt_succ_self b)).kb k (Nat.lt_succ_self b)) (HN1.out.kb k (Nat.lt_succ_self b))
end Go.Proofs.Ytocjgcjechhehaa
