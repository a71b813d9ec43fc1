/- The contract of Parse. -/
import Derived.Test.YtimiklekajelfaaSH
namespace Go.Proofs.Ytimiklekajelfaa
open Go.ChangeShapes Go.WideShapes Go.ChangeAt Go.RowKit
attribute [local go_sem] Oper.semAt_some
theorem wpListIn_append_runG {F : Fence} {n : Nat} {P : Program} {w : World} {ops : Array Oper} {rest : List Oper} {o : Oper} {a : Act} {Q : Exit → Act → World → Prop}
    (hg : o.guard = none) (s x : Operand) (t : TypeId) (hop : o.op = Op.call { callee := Callee.builtin Builtin.append, args := #[s, x], argTypes := #[t, t] })
    (vs vx : Value) (hs : a.eval s = vs) (hx : a.eval x = vx) (v' : Value) (w' : World) (hrun : (Builtin.append_ #[t, t] o.type #[vs, vx]).run P w = .ok v' w')
    (hK : wpListIn F n P ops Q rest (a.put o.dst v') w') : wpListIn F n P ops Q (o :: rest) a w := by
  refine wpListIn_plain hg fun K hK' => ?_
  unfold Oper.wpIn
  refine ⟨?_, ?_⟩
  · simp [Oper.about, hop, resolve, Target.leads, Sem.run_pure]
  · rw [Oper.semAt_plain F _ _ (by rw [hop]; intro c hc'; cases hc')]
    simp [execOp, hop, resolve, invoke, builtin, hs, hx, hrun, Result.andThen]
    exact hK' _ _ hK
theorem HL.keepC {α : Type} {enc : α → Value} {P : Nat → Prop} {w w' : World} {v : Value} {l : List α} (h : HL enc P w v l) (hk : ∀ B o, P B → w.heap[B]? = some o → o.isCells = true → w'.heap[B]? = w.heap[B]?) : HL enc P w' v l := by
  obtain ⟨p, c, hv, h1, h2, h3⟩ := h
  refine ⟨p, c, hv, h1, h2, fun i x hx => ?_⟩
  obtain ⟨B, o, hp, hB, hc⟩ := h3 i x hx
  obtain ⟨ob, ho, hcc⟩ := cells_of_cell hc
  exact ⟨B, o, hp, hB, (World.cell?_of_block (hk B ob hB ho hcc)).trans hc⟩
theorem GrS.keepC {lo : Nat} {Q : Nat → Prop} {w w' : World} {u : Value} {xs : List Sp} (h : GrS lo Q w u xs) (hk : ∀ B o, (Q B ∨ u.ownBlock = some B) → w.heap[B]? = some o → o.isCells = true → w'.heap[B]? = w.heap[B]?) : GrS lo Q w' u xs := by
  obtain ⟨cells, ho, hc⟩ := h
  refine ⟨cells, ?_, fun i t ht => ?_⟩
  · obtain ⟨h1, h2 | ⟨g, cap, cur, rfl, hB, hg, r⟩⟩ := ho
    · exact ⟨h1, .inl h2⟩
    · exact ⟨h1, .inr ⟨g, cap, cur, rfl, hB, by rw [hk g _ (.inr rfl) hg rfl]; exact hg, r⟩⟩
  · obtain ⟨vb, vk, e0, hi⟩ := hc i t ht
    exact ⟨vb, vk, e0, hi.1.keepC fun B o hB => hk B o (.inl hB.1), hi.2.keepC fun B o hB => hk B o (.inl hB.1)⟩
/-- A text's step, if it is one's. -/
def stB (t : List UInt8) : Option Sp := if (stR t).2 then some (stR t).1 else none
def parseB (b : List UInt8) : List Sp := (tx b).filterMap stB
/-- Between two rounds: the box of what came so far. -/
def PsI (w : World) (gg hh : Nat) (pre : List (List UInt8)) (W : World) : Prop :=
  ∃ u, Boxed W w.heap.size 22 u ∧ GrS w.heap.size (fun B => w.heap.size + 1 < B ∧ B ≠ gg) W u (pre.filterMap stB) ∧ u.ownBlock ≠ some gg ∧ u.ownBlock ≠ some hh ∧ Below w.heap.size w W ∧ gg < W.heap.size ∧ hh < W.heap.size
theorem psI_own (w : World) (gg hh B : Nat) (hB : w.heap.size ≤ B) : OwnFrom B (PsI w gg hh) := fun pre X Y row ⟨u, h1, h2, h3, h4, h5, h6, h7⟩ hg hr => by
  have hr2 : ∀ r, row = some r → ∃ o : Obj, X.heap[r]? = some o ∧ o.isCells = false := fun r e => (hr r e).2
  refine ⟨u, h1.kept hg (fun e' => ?_), h2.keepC fun B o _ ho hc => grownBy_keeps_cells hg hr2 ho hc, h3, h4, ?_, Nat.lt_of_lt_of_le h6 hg.size, Nat.lt_of_lt_of_le h7 hg.size⟩
  · obtain ⟨o, ho, hc⟩ := hr2 _ e'.symm
    rw [show X.heap[w.heap.size]? = _ from h1] at ho; cases ho; cases hc
  · exact h5.grown hg h5.size (fun k e => Nat.le_trans hB (hr k e).1)
theorem psI_kb (w : World) (gg hh : Nat) (pre : List (List UInt8)) (A C : World) (hg : w.heap.size < gg) (h : PsI w gg hh pre A) (k : KB gg A C) : PsI w gg hh pre C := by
  obtain ⟨u, h1, h2, h3, h4, h5, h6, h7⟩ := h
  have hz := k.2.2.2.1
  refine ⟨u, (k.2.2.2.2 _ h1.lt (by omega)).trans h1, h2.keepC fun B o hB ho _ => k.2.2.2.2 B (Array.getElem?_eq_some_iff.1 ho).1 ?_, h3, h4, h5.trans (k.below (by omega) h5.size), by omega, by omega⟩
  rcases hB with hB | hB
  · exact hB.2
  · intro e; subst e; exact h3 hB
theorem tx_len : ∀ (n : Nat) (l : List UInt8), (txN n l).length ≤ n
  | 0, _ => by simp [txN]
  | n + 1, l => by
    unfold txN
    split
    · simp
    · split
      · have := tx_len n (sText 32768 l 0).2.1
        simp
        omega
      · simp
theorem psI_below {w W W' : World} {gg hh : Nat} {pre : List (List UInt8)} (h : PsI w gg hh pre W) (hb : Below W.heap.size W W') : PsI w gg hh pre W' := by
  obtain ⟨u, h1, h2, h3, h4, h5, h6, h7⟩ := h
  have hz := hb.size
  exact ⟨u, (hb.block _ h1.lt).trans h1, h2.below hb, h3, h4, h5.trans (hb.mono h5.size), by omega, by omega⟩
theorem keepsFrom_below {B : Nat} {W W' : World} (hb : Below W.heap.size W W') : KeepsFrom B W W' :=
  ⟨hb.size, fun k _o _ hk _ => (hb.block k (Array.getElem?_eq_some_iff.1 hk).1).trans hk⟩
theorem boxed_ne {w : World} {lo B : Nat} {Q : Nat → Prop} {u v : Value} {xs : List Sp} (h : GrS lo Q w u xs) (hb : Boxed w B 22 v) : u.ownBlock ≠ some B := fun e => by
  obtain ⟨cur, hc⟩ := h.cells e
  have := (show w.heap[B]? = _ from hb).symm.trans hc
  simp at this
set_option maxRecDepth 100000 in
set_option maxHeartbeats 1000000 in
theorem parse_in (n : Nat) (hn : 4 ≤ n) (v : Value) (b : List UInt8) (w : World) (hv : Lib.HoldsBytes w v b) (hl : b.length ≤ 1099511627776) :
    CallsIn Fence.wide n Try.prog 15 #[v] w fun e w' => ∃ u, e = .returned u ∧ GrS w.heap.size (fun B => w.heap.size < B) w' u (parseB b) ∧ Below w.heap.size w w' := by
  have h1 : 1 ≤ n := by omega
  have h2 : 1 ≤ n - 1 := by omega
  have h3 : 1 ≤ n - 1 - 1 := by omega
  obtain ⟨pv, nv, cv, rfl⟩ : ∃ a m c, v = .slice a m c := by obtain ⟨p, cap, rfl, q1, q2⟩ := hv; exact ⟨_, _, _, rfl⟩
  refine callsIn_of_wp_marks Try.func15 rfl trivial ?_ rfl
  simp only [Try.ntmps15, List.size_toArray, List.length_cons, List.length_nil, Nat.reduceAdd, Nat.reduceSub, Array.replicate_succ, Array.replicate_zero, List.push_toArray, List.append_toArray, List.nil_append, List.cons_append]
  gi_wp2_with (refine ⟨trivial, ?_⟩; gi_at_call 35; refine (callsIn_wide.2 (texts_calls _ _ ⟨_, _, _, rfl⟩)).mono ?_; rintro e w' ⟨rfl, rfl⟩)
  have bO := (Boxed.new w 22 (.slice none 0 0)).alloc (.cells #[.slice pv nv cv] 23)
  have bV := Boxed.new (w.alloc (.cells #[.slice none 0 0] 22)) 23 (.slice pv nv cv)
  have hz1 : (w.alloc (.cells #[.slice none 0 0] 22)).heap.size = w.heap.size + 1 := by simp
  have hb0 : Below w.heap.size w ((w.alloc (.cells #[.slice none 0 0] 22)).alloc (.cells #[.slice pv nv cv] 23)) := ((Below.refl _ w).alloc (Nat.le_refl _) _).alloc (by simp) _
  rw [hz1] at bV
  have hv1 := holds_below hv hb0
  have hz2 : ((w.alloc (.cells #[.slice none 0 0] 22)).alloc (.cells #[.slice pv nv cv] 23)).heap.size = w.heap.size + 2 := by simp
  have HTL : Hid ((tx b).length ≤ b.length) := tx_len _ _
  generalize (w.alloc (.cells #[.slice none 0 0] 22)).alloc (.cells #[.slice pv nv cv] 23) = w1 at bO bV hb0 hv1 hz2 ⊢
  have HZ2 : Hid (w1.heap.size = w.heap.size + 2) := hz2
  have HBL : Hid (b.length ≤ 1099511627776) := hl
  have HB0 : Hid (Below w.heap.size w w1) := hb0
  have SQ := texts1_in (n - 1) (by omega) (w.heap.size + 1) (.slice pv nv cv) b w1 bV.cell hv1 (by omega)
  clear hv hv1 hl hb0 hz2 bV hz1
  refine wpIn_rangeFunc_rd h1 (gf := 58) (lb := #[.pointer (some ⟨w.heap.size + 1, 0, none⟩)]) rfl (enters_of Try.func58 (by kernel_rfl) rfl) SQ
    (PsI w) (fun gg hh => psI_own w gg hh _ (by have := HZ2.out; omega)) (fun gg hh pre A C hg => psI_kb w gg hh pre A C (by have := HZ2.out; omega))
    (fun gg hh W1 a1 a2 a3 a4 => ⟨_, (a4.block _ bO.lt).trans bO, GrS.nil _ _ _, by simp [Value.ownBlock], by simp [Value.ownBlock], HB0.out.trans (a4.mono HB0.out.size), a3, by omega⟩)
    (fun x => { tmps := #[.slice pv nv cv, undef, .slice none 0 0, .pointer (some ⟨w.heap.size, 0, none⟩), x, undef, undef, .slice pv nv cv, .func (.func 58) #[] #[.pointer (some ⟨w.heap.size + 1, 0, none⟩)], x, undef, undef, undef, undef, undef, undef, undef, undef, undef, undef, undef], defers := [] }) ?assign ?body ?done
  case assign =>
    intro l x W K hK
    gi_wp2
    exact hK
  case body =>
    rintro l gg hh pre x v W c1 c2 ⟨u, i1, i2, i3, i4, i5, i6, i7⟩ hv hxl hlen
    have SC0 := step_calls W v x hv.bytes (by omega)
    have HSB : Hid (stB x = if (stR x).2 then some (stR x).1 else none) := rfl
    obtain ⟨px, cx, rfl, _⟩ := hv.shape
    generalize stR x = R at SC0 HSB
    obtain ⟨⟨k, s, nn, bb, ks⟩, ok⟩ := R
    have SC : Hid (Calls Try.prog 9 #[.slice px x.length cx] W (StP W (⟨k, s, nn, bb, ks⟩, ok))) := SC0
    have I1 : Hid (Boxed W w.heap.size 22 u) := i1
    have I2 : Hid (GrS w.heap.size (fun B => w.heap.size + 1 < B ∧ B ≠ gg) W u (pre.filterMap stB)) := i2
    have I3 : Hid (u.ownBlock ≠ some gg ∧ u.ownBlock ≠ some hh ∧ gg < W.heap.size ∧ hh < W.heap.size) := ⟨i3, i4, i6, i7⟩
    have I5 : Hid (Below w.heap.size w W) := i5
    have HC : Hid (w.heap.size + 2 < hh ∧ w.heap.size + 2 < gg) := by have := HZ2.out; show _ ∧ _; omega
    have HPL : Hid (pre.length < b.length) := hlen
    have HFL : Hid ((pre.filterMap stB).length ≤ pre.length) := List.length_filterMap_le _ _
    clear SC0 i1 i2 i3 i4 i5 i6 i7 hv hlen c1 c2 hxl
    cases ok with
    | false =>
      have HN : Hid ((pre ++ [x]).filterMap stB = pre.filterMap stB) := by show _ = _; rw [List.filterMap_append]; have := HSB.out; simp at this; simp [this]
      gi_wp2_with (refine ⟨trivial, ?_⟩; gi_at_call 9; refine (CallsIn.inRound l (callsIn_wide.2 SC.out)).mono ?_; rintro e w2 ⟨vb, vk, rfl, hi2, hb2⟩)
      obtain ⟨pb, cb, rfl, _⟩ := hi2.1.shape
      obtain ⟨pk, ck, rfl, _⟩ := hi2.2.shape
      have HB2 : Hid (Below W.heap.size W w2) := hb2
      clear hi2 hb2
      unfold rowS
      dsimp only
      gi_wp2
      have hb3 : Below W.heap.size W (w2.alloc (.cells #[.int .i64 k, .int .i64 s, .int .i64 nn, .slice pb bb.length cb, .slice pk ks.length ck] 28)) := HB2.out.alloc HB2.out.size _
      refine ⟨keepsFrom_below hb3, ?_, hb3.block _ I3.out.2.2.1, hb3.block _ I3.out.2.2.2⟩
      have := psI_below (pre := pre) ⟨u, I1.out, I2.out, I3.out.1, I3.out.2.1, I5.out, I3.out.2.2⟩ hb3
      unfold PsI at this ⊢
      rw [HN.out]
      exact this
    | true =>
      have HN : Hid ((pre ++ [x]).filterMap stB = pre.filterMap stB ++ [⟨k, s, nn, bb, ks⟩]) := by show _ = _; rw [List.filterMap_append]; have := HSB.out; simp at this; simp [this]
      gi_wp2_with (refine ⟨trivial, ?_⟩; gi_at_call 9; refine (CallsIn.inRound l (callsIn_wide.2 SC.out)).mono ?_; rintro e w2 ⟨vb, vk, rfl, hi2, hb2⟩)
      obtain ⟨pb, cb, rfl, _⟩ := hi2.1.shape
      obtain ⟨pk, ck, rfl, _⟩ := hi2.2.shape
      have HB2 : Hid (Below W.heap.size W w2) := hb2
      have HI2 : Hid (IsV (fun B => W.heap.size ≤ B) w2 (.slice pb bb.length cb) (.slice pk ks.length ck) ⟨k, s, nn, bb, ks⟩) := hi2
      clear hi2 hb2
      unfold rowS
      dsimp only
      have x0 := I1.out.cell
      obtain ⟨pu, cu, rfl, _⟩ := I2.out.shape
      have bx : ((w2.alloc (.cells #[.int .i64 k, .int .i64 s, .int .i64 nn, .slice pb bb.length cb, .slice pk ks.length ck] 28))).cell? ⟨w.heap.size, 0, none⟩ = _ := ((HB2.out.alloc HB2.out.size (.cells #[.int .i64 k, .int .i64 s, .int .i64 nn, .slice pb bb.length cb, .slice pk ks.length ck] 28)).cell (p := ⟨w.heap.size, 0, none⟩) I1.out.lt).trans x0
      obtain ⟨o0, o1, o2, o3, o4⟩ := box_at w2 (.int .i64 k) (.int .i64 s) (.int .i64 nn) (.slice pb bb.length cb) (.slice pk ks.length ck)
      have hbx : Below W.heap.size W ((w2.alloc (.cells #[.int .i64 k, .int .i64 s, .int .i64 nn, .slice pb bb.length cb, .slice pk ks.length ck] 28)).alloc (.cells #[.int .i64 k, .int .i64 s, .int .i64 nn, .slice pb bb.length cb, .slice pk ks.length ck] 28)) := (HB2.out.alloc HB2.out.size _).alloc (by have := HB2.out.size; simp; omega) _
      have hlt := I2.out.lt
      obtain ⟨u', w5, hr, g5, b5, k5, e5⟩ := GrS.app (src := w2.heap.size + 1) (x := ⟨k, s, nn, bb, ks⟩) (I2.out.below hbx) (box_at' _ _ (by simp) _ _ _ _ _)
        (HI2.out.keep fun B hB hl => ⟨((below_alloc (w2.alloc (.cells #[.int .i64 k, .int .i64 s, .int .i64 nn, .slice pb bb.length cb, .slice pk ks.length ck] 28)) (.cells #[.int .i64 k, .int .i64 s, .int .i64 nn, .slice pb bb.length cb, .slice pk ks.length ck] 28)).block B (by simp; omega)).trans ((below_alloc w2 _).block B hl), ⟨by have := I5.out.size; have := HC.out; have := I3.out.2.2; have hB' : W.heap.size ≤ B := hB; omega, by have := I3.out.2.2; have hB' : W.heap.size ≤ B := hB; omega⟩, fun e => by have := (hlt B e).2; have hB' : W.heap.size ≤ B := hB; omega⟩)
        (by have := I5.out.size; have := hbx.size; omega) (by have := HFL.out; have := HPL.out; have := HBL.out; omega)
      obtain ⟨ys, hys⟩ : ∃ ys : List Sp, ys = pre.filterMap stB ++ [⟨k, s, nn, bb, ks⟩] := ⟨_, rfl⟩
      rw [← hys] at g5 HN
      clear hys
      obtain ⟨pu', cu', rfl, _⟩ := g5.shape
      have G5 : Hid (GrS _ _ w5 _ _) := g5
      have hbo := I1.out.lt
      have hne : (Value.slice pu (pre.filterMap stB).length cu).ownBlock ≠ some w.heap.size := boxed_ne I2.out I1.out
      have bx5 : Boxed w5 w.heap.size 22 (.slice pu (pre.filterMap stB).length cu) := ((k5 _ (by have := hbx.size; omega) hne).trans (hbx.block _ hbo)).trans I1.out
      have bc5 := bx5.cell
      have bf5 := bx5.frozen
      have HX5 : Hid (Boxed w5 w.heap.size 22 _) := bx5
      have HK5 : Hid (∀ B, B < W.heap.size → (Value.slice pu (pre.filterMap stB).length cu).ownBlock ≠ some B → w5.heap[B]? = W.heap[B]?) := fun B hB hn => (k5 B (by have := hbx.size; omega) hn).trans (hbx.block B hB)
      have HZ5 : Hid (W.heap.size ≤ w5.heap.size) := Nat.le_trans hbx.size b5.size
      have HE5 : Hid ((Value.slice pu' ys.length cu').ownBlock ≠ some gg ∧ (Value.slice pu' ys.length cu').ownBlock ≠ some hh) := by
        show _ ∧ _
        have hz := hbx.size
        have i3 := I3.out
        rcases e5 with e | e
        · rw [e]; exact ⟨i3.1, i3.2.1⟩
        · rw [e]
          exact ⟨fun e2 => by injection e2 with e2; omega, fun e2 => by injection e2 with e2; omega⟩
      have HB5 : Hid (Below w.heap.size w w5) := I5.out.trans ((hbx.mono I5.out.size).trans (b5.mono (Nat.le_refl _)))
      have HKF : Hid (KeepsFrom w1.heap.size W w5) := ⟨HZ5.out, fun j o _ hj hc => (HK5.out j (Array.getElem?_eq_some_iff.1 hj).1 (fun e => by
        obtain ⟨cur, hcur⟩ := I2.out.cells e
        rw [hj] at hcur
        cases hcur
        cases hc)).trans hj⟩
      clear g5 k5 e5 hlt hne bx5 hbo b5
      gi_wp2_with (gi_at_builtin; refine wpListIn_append_runG rfl _ _ 22 rfl _ _ rfl rfl _ _ (hr _) ?_)
      have hset : ∀ B, B ≠ w.heap.size → (w5.setCell ⟨w.heap.size, 0, none⟩ (.slice pu' ys.length cu')).heap[B]? = w5.heap[B]? := fun B hB => Below.heap_setCell _ _ _ _ hB
      have hsz : (w5.setCell ⟨w.heap.size, 0, none⟩ (.slice pu' ys.length cu')).heap.size = w5.heap.size := by simp [World.setCell]
      have hcc := HC.out
      have i3 := I3.out
      refine ⟨HKF.out.trans ((KeepsOthers.setCell _ _ _).from _), ?_, (hset gg (by omega)).trans (HK5.out gg i3.2.2.1 i3.1), (hset hh (by omega)).trans (HK5.out hh i3.2.2.2 i3.2.1)⟩
      unfold PsI
      rw [HN.out]
      exact ⟨_, HX5.out.set _, G5.out.keepC fun B o hB _ _ => hset B (by
        rcases hB with hB | hB
        · omega
        · intro e; subst e; exact boxed_ne G5.out HX5.out hB), HE5.out.1, HE5.out.2, HB5.out.setCell (p := ⟨w.heap.size, 0, none⟩) (Nat.le_refl _) _, by have := HZ5.out; omega, by have := HZ5.out; omega⟩
  case done =>
    rintro D gg hh W hD c2 ⟨u, i1, i2, i3, i4, i5, i6, i7⟩ hK
    have hc := i1.cell
    obtain ⟨pu, cu, rfl, _⟩ := i2.shape
    gi_wp2
    refine ⟨by simp, .inl ⟨_, _, rfl, run_takeDeferred hK, ?_⟩⟩
    refine ⟨_, results_tmp rfl _ _ _, _, rfl, ?_, ?_⟩
    · exact (i2.keepC fun B o _ ho hc2 => World.putObj_heap_other (fun e => by subst e; rw [hK] at ho; cases ho; cases hc2)).keep (fun B _ _ => rfl) (fun B h => by have := h.1; omega)
    · exact i5.trans (belowK_b (w := w) (Nat.le_refl _) W D _ _ (by have := HZ2.out; omega) hK rfl rfl)
/-- Parse: the steps of a script, in memory of their own. -/
theorem parse_calls (v : Value) (b : List UInt8) (w : World) (hv : Lib.HoldsBytes w v b) (hl : b.length ≤ 1099511627776) :
    Calls Try.prog 15 #[v] w fun e w' => ∃ u, e = .returned u ∧ GrS w.heap.size (fun B => w.heap.size < B) w' u (parseB b) ∧ Below w.heap.size w w' := callsIn_wide.1 (parse_in 8 (by omega) v b w hv hl)
end Go.Proofs.Ytimiklekajelfaa
