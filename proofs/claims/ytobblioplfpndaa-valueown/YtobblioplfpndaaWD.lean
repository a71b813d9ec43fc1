/- The walk of ValueOwn: what is written into one clone is not in the other. -/
import Derived.Test.YtobblioplfpndaaWC
import Derived.Test.YtobblioplfpndaaVI
import Derived.Laws.Concat
import Derived.Deep.DeepCutAuto
namespace Go.Proofs.Ytobblioplfpndaa
open Go.ChangeShapes Go.WideShapes Go.ChangeAt Go.RowKit
set_option maxHeartbeats 1000000 in
set_option maxRecDepth 100000 in
theorem own_region (n : Nat) (t : Tv) (k x b : Int) (s : ByteArray) (a : Option Addr) (m c g0 : Nat) (W0 : World) (Q : Exit → Act → World → Prop) (CL : ∀ W, Below W0.heap.size W0 W → Calls Try.prog 39 #[.agg #[.int .i64 k, .int .i64 x, .int .u64 b, .string s, .slice a m c]] W fun e w' => (∃ v', e = .returned v' ∧ IsF W.heap.size w' n v' t) ∧ Below W.heap.size W w') (HA : ∀ W, Below W0.heap.size W0 W → (fun w' : World => w'.cell? ⟨g0, 0, none⟩ = some (.int .i64 k) ∧ w'.cell? ⟨g0, 0 + 1, none⟩ = some (.int .i64 x) ∧ w'.cell? ⟨g0, 0 + 2, none⟩ = some (.int .u64 b) ∧ w'.cell? ⟨g0, 0 + 3, none⟩ = some (.string s) ∧ w'.cell? ⟨g0, 0 + 4, none⟩ = some (.slice a m c)) W) (HQ : ∀ (g3 g4 : Nat) (v1 v2 : Value) (lo hi lo2 hi2 : Nat) (W : World), OwnR n t W0 g3 g4 v1 v2 lo hi lo2 hi2 W → Q .normal ⟨#[.agg #[.int .i64 k, .int .i64 x, .int .u64 b, .string s, .slice a m c], .pointer (some ⟨g0, 0, none⟩), .bool false, .pointer (some ⟨g3, 0, none⟩), .pointer (some ⟨g4, 0, none⟩), undef, undef, .agg #[.int .i64 k, .int .i64 x, .int .u64 b, .string s, .slice a m c], .bool true, .bool false, undef, .agg #[.int .i64 k, .int .i64 x, .int .u64 b, .string s, .slice a m c], v1, .agg #[.int .i64 k, .int .i64 x, .int .u64 b, .string s, .slice a m c], v2, undef, undef, undef, undef, undef, undef, undef, undef, undef, undef, undef, undef, undef, undef, undef, undef, undef, undef, undef, undef, undef, undef, undef, undef, undef, undef, undef, undef, undef, undef, undef, undef, undef, undef, undef, undef, undef, undef, undef, undef, undef, undef, undef, undef, undef, undef], []⟩ W) (HP : ∀ c (a : Act) (d : Option Tmp) (u : Value) (w : World), Q (.panic c) (a.put d u) w → Q (.panic c) a w) :
    (Code.region 3 ops3 true).wp Try.prog Q ⟨#[.agg #[.int .i64 k, .int .i64 x, .int .u64 b, .string s, .slice a m c], .pointer (some ⟨g0, 0, none⟩), .bool false, undef, undef, undef, undef, .agg #[.int .i64 k, .int .i64 x, .int .u64 b, .string s, .slice a m c], .bool true, .bool false, undef, undef, undef, undef, undef, undef, undef, undef, undef, undef, undef, undef, undef, undef, undef, undef, undef, undef, undef, undef, undef, undef, undef, undef, undef, undef, undef, undef, undef, undef, undef, undef, undef, undef, undef, undef, undef, undef, undef, undef, undef, undef, undef, undef, undef, undef, undef, undef, undef, undef, undef], []⟩ W0 := by
  conv => arg 2; arg 2; whnf
  refine wp_region_held_drew (S := (fun w' : World => w'.cell? ⟨g0, 0, none⟩ = some (.int .i64 k) ∧ w'.cell? ⟨g0, 0 + 1, none⟩ = some (.int .i64 x) ∧ w'.cell? ⟨g0, 0 + 2, none⟩ = some (.int .u64 b) ∧ w'.cell? ⟨g0, 0 + 3, none⟩ = some (.string s) ∧ w'.cell? ⟨g0, 0 + 4, none⟩ = some (.slice a m c))) (by kernel_rfl) (HA _ (Below.refl _ W0).drew) (fun hHeld => ?_)
  refine wpAnyH_take (i := 0) (oi := _) (v := .agg #[.int .i64 k, .int .i64 x, .int .u64 b, .string s, .slice a m c]) rfl (by kernel_rfl) (by kernel_rfl) (by kernel_rfl) (fun _ _ _ h => HP _ _ _ _ _ h) (Or.inl ⟨by rfl, by intro w hSw; (try dsimp only at hSw); go_simp⟩) hHeld ?_
  simp only [Act.put, List.setIfInBounds_toArray]
  refine wpAnyH_take (i := 2) (oi := _) (v := .agg #[.int .i64 k, .int .i64 x, .int .u64 b, .string s, .slice a m c]) rfl (by kernel_rfl) (by kernel_rfl) (by kernel_rfl) (fun _ _ _ h => HP _ _ _ _ _ h) (Or.inl ⟨by rfl, by intro w hSw; (try dsimp only at hSw); go_simp⟩) hHeld ?_
  simp only [Act.put]
  exact own_st000 n t k x b s a m c g0 W0 Q CL HA HQ _ (Below.refl _ W0).drew
/-- Whole numbers were changed for whole numbers, texts for texts that have at most N bytes more, all in blocks from lo to hi. -/
structure Kp (lo hi N : Nat) (X w : World) : Prop where
  os : w.os = X.os
  tape : w.tape = X.tape
  output : w.output = X.output
  size : w.heap.size = X.heap.size
  out : ∀ B, (B < lo ∨ hi ≤ B) → w.heap[B]? = X.heap[B]?
  ints : ∀ (B o : Nat) x, X.cell? ⟨B, o, none⟩ = some (.int .i64 x) → ∃ y, w.cell? ⟨B, o, none⟩ = some (.int .i64 y)
  strs : ∀ (B o : Nat) s, X.cell? ⟨B, o, none⟩ = some (.string s) → ∃ s', w.cell? ⟨B, o, none⟩ = some (.string s') ∧ s'.size ≤ s.size + N
  sls : ∀ (B o : Nat) p n c, X.cell? ⟨B, o, none⟩ = some (.slice p n c) → w.cell? ⟨B, o, none⟩ = some (.slice p n c)
  frz : ∀ a, w.frozen? a = X.frozen? a
theorem Kp.refl (lo hi N : Nat) (X : World) : Kp lo hi N X X := ⟨rfl, rfl, rfl, rfl, fun _ _ => rfl, fun _ _ x h => ⟨x, h⟩, fun _ _ s h => ⟨s, h, Nat.le_add_right _ _⟩, fun _ _ _ _ _ h => h, fun _ => rfl⟩
theorem Kp.mono {lo hi N M : Nat} {X w : World} (h : Kp lo hi N X w) (hM : N ≤ M) : Kp lo hi M X w :=
  ⟨h.os, h.tape, h.output, h.size, h.out, h.ints, fun B o s hc => by obtain ⟨s', h1, h2⟩ := h.strs B o s hc; exact ⟨s', h1, by omega⟩, h.sls, h.frz⟩
theorem cell_set (w : World) (B o B' o' : Nat) (u : Value) (h : ¬ (B = B' ∧ o = o')) : (w.setCell ⟨B', o', none⟩ u).cell? ⟨B, o, none⟩ = w.cell? ⟨B, o, none⟩ :=
  World.cell?_setCell_other w _ _ u (fun e => h (by injection e with e1 e2; exact ⟨e1.symm, e2.symm⟩))
theorem Kp.setInt {lo hi N B o : Nat} {X w : World} {x : Int} (h : Kp lo hi N X w) (hB : lo ≤ B ∧ B < hi) (hc : X.cell? ⟨B, o, none⟩ = some (.int .i64 x)) (y : Int) : Kp lo hi N X (w.setCell ⟨B, o, none⟩ (.int .i64 y)) := by
  obtain ⟨z, hz⟩ := h.ints B o x hc
  refine ⟨h.os, h.tape, h.output, by rw [← h.size]; simp [World.setCell], fun C hC => (Below.heap_setCell _ _ _ _ (fun e => by subst e; omega)).trans (h.out C hC), ?_, ?_, ?_, fun a => (World.frozen?_setCell _ _ _ _).trans (h.frz a)⟩
  · intro C p q hq
    by_cases e : C = B ∧ p = o
    · obtain ⟨rfl, rfl⟩ := e
      exact ⟨y, World.cell?_setCell_same _ _ _ hz⟩
    · rw [cell_set w C p B o _ e]
      exact h.ints C p q hq
  · intro C p q hq
    by_cases e : C = B ∧ p = o
    · obtain ⟨rfl, rfl⟩ := e
      rw [hc] at hq
      cases hq
    · rw [cell_set w C p B o _ e]
      exact h.strs C p q hq
  · intro C p q1 q2 q3 hq
    by_cases e : C = B ∧ p = o
    · obtain ⟨rfl, rfl⟩ := e
      rw [hc] at hq
      cases hq
    · rw [cell_set w C p B o _ e]
      exact h.sls C p q1 q2 q3 hq
theorem Kp.setStr {lo hi N B o : Nat} {X w : World} {s0 s1 : ByteArray} (h : Kp lo hi N X w) (hB : lo ≤ B ∧ B < hi) (hc : X.cell? ⟨B, o, none⟩ = some (.string s0)) (hs : s1.size ≤ s0.size + (N + 1)) : Kp lo hi (N + 1) X (w.setCell ⟨B, o, none⟩ (.string s1)) := by
  obtain ⟨z, hz, _⟩ := h.strs B o s0 hc
  refine ⟨h.os, h.tape, h.output, by rw [← h.size]; simp [World.setCell], fun C hC => (Below.heap_setCell _ _ _ _ (fun e => by subst e; omega)).trans (h.out C hC), ?_, ?_, ?_, fun a => (World.frozen?_setCell _ _ _ _).trans (h.frz a)⟩
  · intro C p q hq
    by_cases e : C = B ∧ p = o
    · obtain ⟨rfl, rfl⟩ := e
      rw [hc] at hq
      cases hq
    · rw [cell_set w C p B o _ e]
      exact h.ints C p q hq
  · intro C p q hq
    by_cases e : C = B ∧ p = o
    · obtain ⟨rfl, rfl⟩ := e
      rw [hc] at hq
      cases hq
      exact ⟨s1, World.cell?_setCell_same _ _ _ hz, hs⟩
    · rw [cell_set w C p B o _ e]
      exact (h.mono (Nat.le_succ N)).strs C p q hq
  · intro C p q1 q2 q3 hq
    by_cases e : C = B ∧ p = o
    · obtain ⟨rfl, rfl⟩ := e
      rw [hc] at hq
      cases hq
    · rw [cell_set w C p B o _ e]
      exact h.sls C p q1 q2 q3 hq
theorem Kp.below {lo hi N B : Nat} {X w w0 : World} (h : Kp lo hi N X w) (hb : Below B w0 X) (hB : B ≤ lo) : Below B w0 w :=
  ⟨h.os.trans hb.os, h.tape.trans hb.tape, h.output.trans hb.output, by rw [h.size]; exact hb.size, fun k hk => (h.out k (by omega)).trans (hb.block k hk)⟩
/-- The texts of a list's values' lists' values are no longer than memory allows. -/
def Txt2 : Tv → Prop
  | .mk _ _ _ _ l => ∀ (i : Nat) k x b s l1, l[i]? = some (.mk k x b s l1) → ∀ (q : Nat) k2 x2 b2 s2 l2, l1[q]? = some (.mk k2 x2 b2 s2 l2) → s2.size ≤ 140737488355328
/-- What the loops meet in a list's value. -/
theorem row_at {P : Nat → Prop} {X : World} {n : Nat} {a : Option Addr} {l : List Tv} (h : RowP P (IsP P X (n + 1)) X a l) (j : Nat) (hj : j < l.length) :
    ∃ B o x a2 l1 c2 k b s, a = some ⟨B, o, none⟩ ∧ P B ∧ (∀ p, X.frozen? ⟨B, p, none⟩ = false) ∧ X.cell? ⟨B, o + j * 5 + 1, none⟩ = some (.int .i64 x) ∧ X.cell? ⟨B, o + j * 5 + 4, none⟩ = some (.slice a2 l1.length c2) ∧ l[j]? = some (.mk k x b s l1) ∧ RowP P (IsP P X n) X a2 l1 := by
  obtain ⟨B, o, c0, c1, c2, c3, c4, ha, hB, h5, hi⟩ := h j _ (List.getElem?_eq_getElem hj)
  cases ht : l[j] with
  | mk k x b s l1 =>
    rw [ht] at hi
    obtain ⟨a2, cc, hv, _, hr⟩ := hi
    simp only [Value.agg.injEq, Array.mk.injEq, List.cons.injEq, and_true] at hv
    obtain ⟨_, rfl, _, _, rfl⟩ := hv
    exact ⟨B, o, x, a2, l1, cc, k, b, s, ha, hB.1, hB.2, h5.2.1, h5.2.2.2.2, by rw [List.getElem?_eq_getElem hj, ht], hr⟩
theorem row_str {P : Nat → Prop} {X : World} {n : Nat} {a : Option Addr} {l : List Tv} (h : RowP P (IsP P X n) X a l) (j : Nat) (hj : j < l.length) :
    ∃ B o s k x b l1, a = some ⟨B, o, none⟩ ∧ P B ∧ (∀ p, X.frozen? ⟨B, p, none⟩ = false) ∧ X.cell? ⟨B, o + j * 5 + 3, none⟩ = some (.string s) ∧ l[j]? = some (.mk k x b s l1) := by
  obtain ⟨B, o, c0, c1, c2, c3, c4, ha, hB, h5, hi⟩ := h j _ (List.getElem?_eq_getElem hj)
  cases n with
  | zero => exact hi.elim
  | succ n =>
    cases ht : l[j] with
    | mk k x b s l1 =>
      rw [ht] at hi
      obtain ⟨a2, cc, hv, _, hr⟩ := hi
      simp only [Value.agg.injEq, Array.mk.injEq, List.cons.injEq, and_true] at hv
      obtain ⟨_, _, _, rfl, _⟩ := hv
      exact ⟨B, o, s, k, x, b, l1, ha, hB.1, hB.2, h5.2.2.2.1, by rw [List.getElem?_eq_getElem hj, ht]⟩
set_option maxHeartbeats 4000000 in
set_option maxRecDepth 100000 in
theorem own_walk (n : Nat) (v : Value) (t : Tv) (w : World) (h : Is w (n + 1) v t) (htx : Txt2 t) :
    Calls Try.prog 8 #[v] w fun e w' => e = .returned (.bool true) ∧ Below w.heap.size w w' := by
  have F1 : Hid (∀ W, Below w.heap.size w W → Calls Try.prog 9 #[v] W fun e w' => (∃ r : Bool, e = .returned (.bool r) ∧ (r = true → Small (n + 1) t)) ∧ Below W.heap.size W w') := fun W hB => fine2_calls (n + 1) v t W (h.below hB)
  have HI : Hid (∀ W, Below w.heap.size w W → Is W (n + 1) v t) := fun W hB => h.below hB
  have HTX : Hid (Txt2 t) := htx
  obtain ⟨k, x, b, s, a, m, c, rfl⟩ : ∃ k x b s a m c, v = .agg #[.int .i64 k, .int .i64 x, .int .u64 b, .string s, .slice a m c] := by
    obtain ⟨k, x, b, s, l⟩ := t; obtain ⟨a, c, rfl, _⟩ := h; exact ⟨_, _, _, _, _, _, _, rfl⟩
  clear h htx
  go_enter Try.func8, Try.ntmps8
  go_wp2_with fail
  generalize hW0 : w.alloc (Obj.cells #[.int .i64 k, .int .i64 x, .int .u64 b, .string s, .slice a m c] 25) = W0
  have HA : Hid (At5 W0 w.heap.size 0 (.int .i64 k) (.int .i64 x) (.int .u64 b) (.string s) (.slice a m c)) := by subst hW0; exact box_at w _ _ _ _ _
  have HB0 : Hid (Below w.heap.size w W0) := by subst hW0; exact bel1 _ _
  clear hW0
  refine (F1.out W0 HB0.out).mono ?_
  rintro e w1 ⟨⟨f1, rfl, hf1⟩, hb1⟩
  have T1 : Hid (Below W0.heap.size W0 w1) := hb1
  have HSm : Hid (f1 = true → Small (n + 1) t) := hf1
  clear hb1 hf1
  obtain ⟨p0, p1, p2, p3, p4⟩ := HA.out.below T1.out
  cases f1 with
  | false =>
    go_wp2_with fail
    refine (awake_calls _).mono ?_
    rintro e w2 ⟨rfl, hb2⟩
    have T2 : Hid (Below W0.heap.size W0 w2) := bel2 T1.out hb2
    clear hb2
    go_wp2_with fail
    go_ret
    exact ⟨rfl, bel2 HB0.out T2.out⟩
  | true =>
    have HS1 : Hid (Small (n + 1) t) := HSm.out rfl
    clear HSm
    go_wp2_with fail
    have Bw : Hid (Below w.heap.size w w1) := bel2 HB0.out T1.out
    refine own_region (n + 1) t k x b s a m c w.heap.size w1 _ (fun W hW => cloneF_calls (n + 1) _ t W (HI.out W (bel2 Bw.out hW)) HS1.out) (fun W hW => (HA.out.below (bel2 T1.out hW))) ?_ (fun c a d u w h => by cases d <;> exact h)
    intro g3 g4 v1 v2 lo hi lo2 hi2 X HX
    have HX' : Hid (OwnR (n + 1) t w1 g3 g4 v1 v2 lo hi lo2 hi2 X) := HX
    obtain ⟨kt, xt, bt, st, l⟩ := t
    obtain ⟨a1, c1, hv1, hfit, hrow⟩ := HX.one
    have HR : Hid (RowP (fun B => lo ≤ B ∧ B < hi) (IsP (fun B => lo ≤ B ∧ B < hi) X n) X a1 l) := hrow
    have HL : Hid (l.length ≤ 500 ∧ ∀ (i : Nat) t, l[i]? = some t → Small n t) := HS1.out
    subst hv1
    obtain ⟨k2, x2, b2, s2, a2, m2, c2, rfl⟩ := HX.two.shape
    have HC3 : Hid (∀ W N, Kp lo hi N X W → W.cell? ⟨g3, 4, none⟩ = some (.slice a1 l.length c1)) := fun W N hK => by
      rw [cell_of_row W g3 4 _ 25 (0, 0) ((hK.out g3 HX.i3.2.2.1).trans HX.box3)]
      rfl
    have hlb : (l.length : Int) ≤ 500 := by have := HL.out.1; omega
    clear HX hfit hrow p0 p1 p2 p3 p4 F1
    have q3 := HC3.out X 0 (Kp.refl _ _ _ _)
    go_wp2_with fail
    go_loopw [18] (fun i wr => ∃ j : Nat, j ≤ l.length ∧ i = .int .i64 (j : Int) ∧ Hid (Kp lo hi (j * 500) X wr)) (fun i _ => l.length - (intOf i).toNat)
    case atStart => exact ⟨0, Nat.zero_le _, rfl, Kp.refl _ _ _ _⟩
    case round =>
      obtain ⟨j, hj, rfl, HK⟩ := hrel
      clear q3
      by_cases hlt : j < l.length
      · obtain ⟨n', rfl⟩ : ∃ n', n = n' + 1 := by
          cases n with
          | zero => obtain ⟨B, o, c0, c1, c2, c3, c4, _, _, _, hi⟩ := HR.out j _ (List.getElem?_eq_getElem hlt); exact hi.elim
          | succ n' => exact ⟨n', rfl⟩
        obtain ⟨B, o, xj, aj, l1, cj, kj, bj, sj, rfl, hPB, hfr, hcx, hcl, hlj, hrj⟩ := row_at HR.out j hlt
        have q3 := HC3.out wr _ HK.out
        obtain ⟨yj, hyj⟩ := HK.out.ints B (o + j * 5 + 1) xj hcx
        have hcl1 := HK.out.sls B (o + j * 5 + 4) _ _ _ hcl
        have hf1 : wr.frozen? ⟨B, o + j * 5 + 1, none⟩ = false := (HK.out.frz _).trans (hfr _)
        have hjl : (j : Int) < (l.length : Int) := by omega
        obtain ⟨yy, hyy⟩ : ∃ yy, IntKind.i64.wrap (yj + 1) = yy := ⟨_, rfl⟩
        obtain ⟨W1, hW1⟩ : ∃ W1, W1 = wr.setCell ⟨B, o + j * 5 + 1, none⟩ (.int .i64 yy) := ⟨_, rfl⟩
        have K1 : Hid (Kp lo hi (j * 500) X W1) := by rw [hW1]; exact HK.out.setInt hPB hcx yy
        have HW1 : Hid (W1 = wr.setCell ⟨B, o + j * 5 + 1, none⟩ (.int .i64 yy)) := hW1
        have HRJ : Hid (RowP (fun B => lo ≤ B ∧ B < hi) (IsP (fun B => lo ≤ B ∧ B < hi) X n') X aj l1) := hrj
        have HLJ : Hid (l[j]? = some (.mk kj xj bj sj l1)) := hlj
        have HL1 : Hid (l1.length ≤ 500) := (HL.out.2 j _ hlj).1
        have HCL : Hid (X.cell? ⟨B, o + j * 5 + 4, none⟩ = some (.slice aj l1.length cj)) := hcl
        have hl1b : (l1.length : Int) ≤ 500 := by have := HL1.out; omega
        clear hPB hfr hcx hcl hlj hrj hW1 hcl1
        go_upto_region 8 with fail
        rw [← HW1.out]
        have q31 := HC3.out W1 _ K1.out
        have hcl2 := K1.out.sls B (o + j * 5 + 4) _ _ _ HCL.out
        clear q3 hyj hf1 hyy
        go_wp2_with fail
        go_loopw [37] (fun i wq => ∃ q : Nat, q ≤ l1.length ∧ i = .int .i64 (q : Int) ∧ Hid (Kp lo hi (j * 500 + q) X wq)) (fun i _ => l1.length - (intOf i).toNat)
        case atStart => exact ⟨0, Nat.zero_le _, rfl, K1⟩
        case round =>
          obtain ⟨q, hq, rfl, HQ⟩ := hrel
          clear q31 hcl2
          by_cases hqt : q < l1.length
          · obtain ⟨B2, o2, s2', k2', x2', b2', l2', rfl, hPB, hfr, hcs, hlq⟩ := row_str HRJ.out q hqt
            have q3 := HC3.out wr _ HQ.out
            have hcl3 := HQ.out.sls B (o + j * 5 + 4) _ _ _ HCL.out
            obtain ⟨s3, hs3, hs3b⟩ := HQ.out.strs B2 (o2 + q * 5 + 3) s2' hcs
            have hf3 : wr.frozen? ⟨B2, o2 + q * 5 + 3, none⟩ = false := (HQ.out.frz _).trans (hfr _)
            have hql : (q : Int) < (l1.length : Int) := by omega
            have hjl2 : (j : Int) < (l.length : Int) := by omega
            have htx := HTX.out j _ _ _ _ _ HLJ.out q _ _ _ _ _ hlq
            obtain ⟨s4, hs4⟩ : ∃ s4, s4 = s3 ++ (⟨#[120]⟩ : ByteArray) := ⟨_, rfl⟩
            have hadd : ∀ w : World, (Op.stringOp .add s3 ⟨#[120]⟩).run Try.prog w = .ok (.string s4) w := fun w => by
              rw [hs4]
              exact run_string_add_sum w _ _ (by have e : (⟨#[120]⟩ : ByteArray).size = 1 := rfl; have := HL.out.1; have := HL1.out; have : j * 500 ≤ 250000 := by omega
                                                 omega)
            have K2 : Hid (Kp lo hi (j * 500 + (q + 1)) X (wr.setCell ⟨B2, o2 + q * 5 + 3, none⟩ (.string s4))) := HQ.out.setStr hPB hcs (by rw [hs4, ByteArray.size_append]; have e : (⟨#[120]⟩ : ByteArray).size = 1 := rfl; omega)
            clear hPB hfr hcs hlq hs3b htx hs4 hq
            go_wp2_with fail
            refine ⟨⟨q + 1, hqt, by rw [Int.natCast_add]; rfl, K2⟩, ?_⟩
            simp only [intOf]
            omega
          · obtain rfl : q = l1.length := by omega
            have K3 : Hid (Kp lo hi ((j + 1) * 500) X wr) := HQ.out.mono (by have := HL1.out; omega)
            go_wp2_with fail
            refine ⟨⟨j + 1, hlt, by rw [Int.natCast_add]; rfl, K3⟩, ?_⟩
            simp only [intOf]
            omega
      · obtain rfl : j = l.length := by omega
        have hbX : Below w.heap.size w wr := (HK.out.below (bel2 Bw.out HX'.out.bel) (by have := HX'.out.r1.1; have := Bw.out.size; omega))
        have hbW : Below W0.heap.size W0 wr := HK.out.below (T1.out.trans (HX'.out.bel.mono T1.out.size)) (by have := HX'.out.r1.1; have := T1.out.size; omega)
        have b4 : wr.heap[g4]? = _ := (HK.out.out g4 HX'.out.i4.2.2.1).trans HX'.out.box4
        have d0 : wr.cell? ⟨g4, 0, none⟩ = some (.int .i64 k2) := by rw [cell_of_row wr g4 0 _ 25 (0, 0) b4]; rfl
        have d1 : wr.cell? ⟨g4, 0 + 1, none⟩ = some (.int .i64 x2) := by rw [cell_of_row wr g4 (0 + 1) _ 25 (0, 0) b4]; rfl
        have d2 : wr.cell? ⟨g4, 0 + 2, none⟩ = some (.int .u64 b2) := by rw [cell_of_row wr g4 (0 + 2) _ 25 (0, 0) b4]; rfl
        have d3 : wr.cell? ⟨g4, 0 + 3, none⟩ = some (.string s2) := by rw [cell_of_row wr g4 (0 + 3) _ 25 (0, 0) b4]; rfl
        have d4 : wr.cell? ⟨g4, 0 + 4, none⟩ = some (.slice a2 m2 c2) := by rw [cell_of_row wr g4 (0 + 4) _ 25 (0, 0) b4]; rfl
        obtain ⟨p0, p1, p2, p3, p4⟩ := HA.out.below hbW
        have i2 : Is wr (n + 1) (.agg #[.int .i64 k2, .int .i64 x2, .int .u64 b2, .string s2, .slice a2 m2 c2]) (.mk kt xt bt st l) := (HX'.out.two.keep (fun B hB => HK.out.out B (by have := HX'.out.r2.1; omega))).is
        have SC : Hid (Calls Try.prog 11 #[.agg #[.int .i64 k2, .int .i64 x2, .int .u64 b2, .string s2, .slice a2 m2 c2], .agg #[.int .i64 k, .int .i64 x, .int .u64 b, .string s, .slice a m c]] wr _) := rsame_calls (n + 1) _ _ _ _ wr i2 (HI.out wr hbX)
        have HBX : Hid (Below w.heap.size w wr) := hbX
        clear hbX hbW b4 i2
        go_wp2_with fail
        refine SC.out.mono ?_
        rintro e w3 ⟨⟨r, rfl, hr⟩, hb3⟩
        obtain rfl : r = true := hr.2 (by simp)
        have B3 : Hid (Below w.heap.size w w3) := bel2 HBX.out hb3
        clear hb3 hr
        go_wp2_with fail
        refine (awake_calls _).mono ?_
        rintro e w4 ⟨rfl, hb4⟩
        have B4 : Hid (Below w.heap.size w w4) := bel2 B3.out hb4
        clear hb4
        go_wp2_with fail
        go_ret
        exact ⟨rfl, B4.out⟩
end Go.Proofs.Ytobblioplfpndaa
