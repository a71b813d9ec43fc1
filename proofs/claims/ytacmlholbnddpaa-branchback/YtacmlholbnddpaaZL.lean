/- A region that draws its order within a round, walked as anywhere; the contracts of Common and Same. -/
import Derived.Test.YtacmlholbnddpaaYB
namespace Go.Proofs.Ytacmlholbnddpaa
open Go.ChangeAt Go.ChangeShapes Go.Deep Go.RowKit Go.WideShapes Go.Shelf
attribute [local go_sem] Oper.semAt_some
theorem operIn_of {P : Program} {o : Oper} {a : Act} {w : World} {K : Act → World → Prop} {Q : Exit → Act → World → Prop} {l n : Nat} (hd : ∀ c, o.op ≠ .defer c) (h : o.wp P a w K Q) : o.wpIn (Fence.wide.inRound l) n P a w K Q := by
  refine ⟨fun _ _ => trivial, ?_⟩
  rw [show (Fence.wide.inRound l).round = some l from rfl, Oper.semAt_some l _ _ hd]
  unfold Oper.wp at h
  generalize (execOp a.eval o).run P w = r at h ⊢
  cases r with
  | ok x w' =>
    cases x with
    | value v => exact h
    | skip => exact h
    | defer d => exact h
    | enter f args => exact ⟨fun e => (by cases e), CallsIn.inRound l (callsIn_wide.2 h)⟩
    | row r args => exact ⟨fun e => (by cases e), fun c cs _ => let ⟨v, w', r, s⟩ := h c cs; ⟨v, w', r, stepsIn_wide.2 s⟩⟩
    | _ => exact h.elim
  | halt x w' => cases x <;> first | exact h | exact h.elim
/-- No operation defers. -/
def noDefer (ops : Array Oper) : Bool := ops.all fun o => match o.op with | .defer _ => false | _ => true
theorem noDefer_spec {ops : Array Oper} (h : noDefer ops = true) {i : Nat} {o : Oper} (ho : ops[i]? = some o) : ∀ c, o.op ≠ .defer c := by
  intro c e
  unfold noDefer at h
  rw [Array.all_eq_true] at h
  obtain ⟨hi, rfl⟩ := Array.getElem?_eq_some_iff.1 ho
  have := h i hi
  rw [e] at this
  cases this
theorem wpAnyIn_of {P : Program} {md : Region.Mode} {ops : Array Oper} {Q : Exit → Act → World → Prop} {l n : Nat} (hL : ¬ LetsOut Q) (hd : noDefer ops = true) : ∀ {fuel : Nat} {listed : Array Bool} {a : Act} {w : World}, wpAny P md ops Q fuel listed a w → wpAnyIn (Fence.wide.inRound l) n P md ops Q fuel listed a w
  | 0, _, _, _, h => h
  | fuel + 1, listed, a, w, h => ⟨h.1, fun i hi => by
      have hh := h.2 i hi
      unfold wpOp at hh
      unfold wpOpIn
      cases ho : ops[i]? with
      | none => simp only [ho] at hh; exact wpAnyIn_of hL hd hh
      | some o =>
        simp only [ho] at hh ⊢
        by_cases hw : Region.wanted o (yielded ops a.tmps) = true
        · rw [if_pos hw] at hh ⊢
          rcases hh with h1 | ⟨_, h2⟩
          · exact Oper.wpIn_mono (fun a w hq => wpAnyIn_of hL hd hq) (operIn_of (noDefer_spec hd ho) h1)
          · exact (hL h2).elim
        · rw [if_neg hw] at hh ⊢
          exact ⟨fun _ _ => trivial, wpAnyIn_of hL hd hh⟩⟩
/-- k events begin both. -/
structure IsC (ys zs : List Ev) (k : Nat) : Prop where
  l1 : k ≤ ys.length
  l2 : k ≤ zs.length
  eq : ∀ i, i < k → exE ys i = exE zs i
  ne : k < ys.length → k < zs.length → exE ys k ≠ exE zs k
theorem IsC.unique {ys zs : List Ev} {k m : Nat} (h : IsC ys zs k) (g : IsC ys zs m) : k = m := by
  rcases Nat.lt_trichotomy k m with e | e | e
  · exact absurd (g.eq k e) (h.ne (by have := g.l1; omega) (by have := g.l2; omega))
  · exact e
  · exact absurd (h.eq m e) (g.ne (by have := h.l1; omega) (by have := h.l2; omega))
def lst : List Nat → Int
  | pre => match pre.getLast? with
    | some x => (x : Int) + 1
    | none => 0
theorem lst_snoc (pre : List Nat) (x : Nat) : lst (pre ++ [x]) = (x : Int) + 1 := by simp [lst]
theorem lst_range (n : Nat) : lst (List.range n) = (n : Int) := by
  cases n with
  | zero => rfl
  | succ n => rw [List.range_succ, lst_snoc]; rfl
/-- All these stand in both, the same. -/
def bothE (ys zs : List Ev) (pre : List Nat) : Prop := ∀ i ∈ pre, i < zs.length ∧ exE ys i = exE zs i
theorem isC_all {ys zs : List Ev} (h : bothE ys zs (List.range ys.length)) : IsC ys zs ys.length := ⟨Nat.le_refl _, by
    cases hn : ys.length with
    | zero => omega
    | succ n => have := (h n (by rw [hn]; simp)).1; omega, fun i hi => (h i (by simpa using hi)).2, fun h1 => absurd h1 (by omega)⟩
theorem isC_stop {ys zs : List Ev} {p : List Nat} {x : Nat} (h : bothE ys zs p) (hx : ¬ (x < zs.length ∧ exE ys x = exE zs x)) (hp : p ++ [x] <+: List.range ys.length) : ∃ k, p = List.range k ∧ IsC ys zs k := by
  have hl : p.length + 1 ≤ ys.length := by have := hp.length_le; simpa using this
  have e := List.prefix_iff_eq_take.1 hp
  rw [List.length_append, List.length_singleton, List.take_range, Nat.min_eq_left hl, List.range_succ] at e
  obtain ⟨e1, e2⟩ := List.append_inj e (by simp)
  have exx : x = p.length := by simpa using e2
  refine ⟨p.length, e1, by omega, ?_, fun i hi => (h i (by rw [e1]; simpa using hi)).2, fun _ h2 he => hx ⟨by omega, by rw [exx]; exact he⟩⟩
  cases hn : p.length with
  | zero => omega
  | succ n => have := (h n (by rw [e1, hn]; simp)).1; omega
theorem same_is (N : Nat) (r1 r2 : Rw) (y z : Ev) (b : Bool) (hb : b = true ↔ y = z) (w : World) (h1 : IsE w N r1 y) (h2 : IsE w N r2 z) :
    Calls Try.prog 30 #[.agg #[.int .i64 r1.k, .int .i64 r1.t, .int .i64 r1.n, .int .i64 r1.d, .string r1.s, .int .i64 r1.vk, .int .i64 r1.vx, .int .u64 r1.vb, .string r1.vs, .slice r1.la r1.ll r1.lc, .int .i64 r1.f, .int .u64 (r1.c : Int), .int .i64 r1.m], .agg #[.int .i64 r2.k, .int .i64 r2.t, .int .i64 r2.n, .int .i64 r2.d, .string r2.s, .int .i64 r2.vk, .int .i64 r2.vx, .int .u64 r2.vb, .string r2.vs, .slice r2.la r2.ll r2.lc, .int .i64 r2.f, .int .u64 (r2.c : Int), .int .i64 r2.m]] w fun e w' => e = .returned (.bool b) ∧ Below w.heap.size w w' := by
  obtain ⟨tv, e1, i1⟩ := h1
  obtain ⟨tv2, e2, i2⟩ := h2
  subst e1 e2
  refine (evsame_calls N tv tv2 r1.k r1.t r1.n r1.d r1.s r1.vk r1.vx r1.vb r1.vs r1.la r1.ll r1.lc r1.f r1.c r1.m r2.k r2.t r2.n r2.d r2.s r2.vk r2.vx r2.vb r2.vs r2.la r2.ll r2.lc r2.f r2.c r2.m w i1 i2).mono ?_
  rintro e w' ⟨⟨b', rfl, hb'⟩, hbl⟩
  have e3 : (b' = true) ↔ (b = true) := by
    rw [hb', hb]
    simp only [Rw.ev, Ev.mk.injEq]
  have : b' = b := by cases b <;> cases b' <;> simp_all
  subst this
  exact ⟨rfl, hbl⟩
set_option maxRecDepth 100000 in
set_option maxHeartbeats 4000000 in
theorem common_in (n : Nat) (hn : 4 ≤ n) (a a2 : Option Addr) (c c2 NN : Nat) (hs hs2 : List Rw) (ys zs : List Ev) (N M : Nat) (hN : hs.length = N) (hM : hs2.length = M) (hl : N ≤ 200) (hl2 : M ≤ 200) (w : World) (hR : RowE w a hs) (hE : ∀ i, IsE w NN (rx hs i) (exE ys i)) (hy : hs.length = ys.length) (hR2 : RowE w a2 hs2) (hE2 : ∀ i, IsE w NN (rx hs2 i) (exE zs i)) (hz : hs2.length = zs.length) :
    CallsIn Fence.wide n Try.prog 15 #[.slice a N c, .slice a2 M c2] w fun e W' => (∃ k, e = .returned (.int .i64 ((k : Nat) : Int)) ∧ IsC ys zs k) ∧ Below w.heap.size w W' := by
  have h1 : 1 ≤ n := by omega
  have hmix : Try.prog.follows .mixedOrders = true := by kernel_rfl
  have HZ : Hid (M = zs.length ∧ N = ys.length ∧ M ≤ 200) := ⟨by omega, by omega, hl2⟩
  have HM : Hid (hs2.length = M) := hM
  refine callsIn_of_wp_marks Try.func15 rfl trivial ?_ rfl
  simp only [Try.ntmps15, List.size_toArray, List.length_cons, List.length_nil, Nat.reduceAdd, Nat.reduceSub, Array.replicate_succ, Array.replicate_zero, List.push_toArray, List.append_toArray, List.nil_append, List.cons_append]
  gi_wp2_with (refine ⟨trivial, ?_⟩; gi_at_call 21; refine (numbered_in (n - 1) _ _ _ _).mono ?_; rintro e w' ⟨rfl, rfl⟩)
  obtain ⟨w1, hw1⟩ : ∃ w1, w1 = w.alloc (.cells #[.slice a2 M c2] 22) := ⟨_, rfl⟩
  have hs1 : w1.heap.size = w.heap.size + 1 := by rw [hw1]; simp
  have hb1 : Below w.heap.size w w1 := by rw [hw1]; exact bel1 _ _
  have bB : w1.cell? ⟨w.heap.size, 0, none⟩ = some (.slice a2 M c2) := by rw [hw1]; exact (Boxed.new w 22 (.slice a2 M c2)).cell
  rw [← hw1]
  clear hw1
  have bO := Boxed.new w1 3 (.int .i64 0)
  have bN := Boxed.new (w1.alloc (.cells #[.int .i64 0] 3)) 22 (.slice a N c)
  rw [World.size_alloc] at bN
  have hB0 : Below w1.heap.size w1 ((w1.alloc (.cells #[.int .i64 0] 3)).alloc (.cells #[.slice a N c] 22)) := ((Below.refl _ w1).alloc (Nat.le_refl _) _).alloc (by simp) _
  have HR1 : Hid (RowE w1 a hs) := hR.below hb1
  have HE1 : Hid (∀ i, IsE w1 NN (rx hs i) (exE ys i)) := fun i => (hE i).below hb1
  have HR2 : Hid (RowE w1 a2 hs2) := hR2.below hb1
  have HE2 : Hid (∀ i, IsE w1 NN (rx hs2 i) (exE zs i)) := fun i => (hE2 i).below hb1
  have HB1 : Hid (Below w.heap.size w w1) := hb1
  rw [hs1] at bO bN
  have HS1 : Hid (w1.heap.size = w.heap.size + 1) := hs1
  clear hR hE hR2 hE2 hb1 hy hz hM
  refine wpIn_rangeFunc_ownH rfl h1 (gf := 38) (lb := #[.pointer (some ⟨w.heap.size + 1 + 1, 0, none⟩)]) rfl trivial (enters_of Try.func38 (by kernel_rfl) rfl)
    (num_stops (n - 1) (by omega) (w.heap.size + 1 + 1) w1 a c hs N hN hl _ (by simp; omega) hB0 bN.cell HR1.out) belowK_t (belowK_b (by simp; omega)) (Below.refl _ _) (fun _ => rfl)
    (fun pre W => (Boxed W (w.heap.size + 1) 3 (.int .i64 (lst pre)) ∧ bothE ys zs pre) ∧ Below w1.heap.size w1 W)
    (fun c pre W => (Boxed W (w.heap.size + 1) 3 (.int .i64 (lst pre.dropLast)) ∧ (c = .exit 0 ∧ ∃ (p : List Nat) (x : Nat), pre = p ++ [x] ∧ bothE ys zs p ∧ ¬ (x < zs.length ∧ exE ys x = exE zs x))) ∧ Below w1.heap.size w1 W)
    (OwnFrom.and (OwnFrom.and (Go.Own.from (boxed_own _ _ (fun pre => .int .i64 (lst pre))) _) (ownFrom_pure _ (bothE ys zs))) (ownFrom_below (Nat.le_refl _) (by simp; omega)))
    (fun c => OwnFrom.and (OwnFrom.and (Go.Own.from (boxed_own _ _ (fun (pre : List Nat) => .int .i64 (lst pre.dropLast))) _) (ownFrom_pure _ (fun pre => c = .exit 0 ∧ ∃ (p : List Nat) (x : Nat), pre = p ++ [x] ∧ bothE ys zs p ∧ ¬ (x < zs.length ∧ exE ys x = exE zs x)))) (ownFrom_below (Nat.le_refl _) (by simp; omega)))
    ⟨⟨bO.alloc _, fun i hi => by simp at hi⟩, hB0⟩
    (fun x a' W => ∃ Bx, w.heap.size + 1 < Bx ∧ Bx13 W Bx (rx hs x) ∧ a' = { tmps := #[.slice a N c, .slice a2 M c2, undef, .pointer (some ⟨w.heap.size, 0, none⟩), .int .i64 0, .pointer (some ⟨w.heap.size + 1, 0, none⟩), .int .i64 ((x : Int) + 1), .pointer (some ⟨Bx, 0, none⟩), .slice a N c, .func (.func 38) #[] #[.pointer (some ⟨w.heap.size + 1 + 1, 0, none⟩)], .int .i64 ((x : Int) + 1), .agg #[.int .i64 (rx hs x).k, .int .i64 (rx hs x).t, .int .i64 (rx hs x).n, .int .i64 (rx hs x).d, .string (rx hs x).s, .int .i64 (rx hs x).vk, .int .i64 (rx hs x).vx, .int .u64 (rx hs x).vb, .string (rx hs x).vs, .slice (rx hs x).la (rx hs x).ll (rx hs x).lc, .int .i64 (rx hs x).f, .int .u64 ((rx hs x).c : Int), .int .i64 (rx hs x).m], undef, undef, undef, undef, undef, undef, undef, undef, undef, undef, undef, undef, undef, undef, undef, undef], defers := [] })
    (fun x a' _ X Y row hs hg hr => by obtain ⟨Bx, h1, h2, h3⟩ := hs; exact ⟨Bx, h1, bx13_own Bx _ () X Y row h2 hg (fun r e => (hr r e).2), h3⟩)
    ?assign ?body ?done ?stop
  case assign =>
    rintro l pre x W K ⟨⟨hv, hu⟩, hB⟩ hK
    simp only [encR, Rw.val]
    gi_wp2
    exact hK _ _ ((KeepsOthers.alloc _ _).from _) ((Below.refl _ W).alloc hB.size _) ⟨⟨hv.alloc _, hu⟩, hB.alloc hB.size _⟩ ⟨W.heap.size, hv.lt, Bx13.new W _, rfl⟩
  case body =>
    rintro l pre x a' W _ _ ⟨⟨hv, hu⟩, hB⟩ ⟨Bx, hBx, bX, rfl⟩ hlt
    have hn2 : 1 ≤ n - 1 - 1 := by omega
    have xB : W.cell? ⟨w.heap.size, 0, none⟩ = some (.slice a2 M c2) := (hB.cell (p := ⟨w.heap.size, 0, none⟩) (by show w.heap.size < _; omega)).trans bB
    have hc := hv.cell
    have hf := hv.frozen
    have HV : Hid (Boxed W (w.heap.size + 1) 3 (.int .i64 (lst pre))) := hv
    have HU : Hid (bothE ys zs pre) := hu
    have HB : Hid (Below w1.heap.size w1 W) := hB
    have HX : Hid (∀ W', Below W.heap.size W W' → (∀ B, KeepsFrom B W W') ∧ Boxed W' (w.heap.size + 1) 3 (.int .i64 (lst pre)) ∧ Below w1.heap.size w1 W') := fun W' hW => ⟨fun B => (keepsO hW).from B, (hW.block _ hv.lt).trans hv, bel2 hB hW⟩
    clear hs1 hB hu hv
    by_cases hx : x < M
    · have d0 : decide ((M : Int) < (x : Int) + 1) = false := decide_eq_false (by omega)
      obtain ⟨r2, hr2⟩ : ∃ r, hs2[x]? = some r := ⟨_, List.getElem?_eq_getElem (by rw [HM.out]; exact hx)⟩
      obtain ⟨B2, o2, rfl, hat⟩ := HR2.out x r2 hr2
      have HC : Hid (AtR W B2 (o2 + x * 13) r2) := hat.below HB.out
      have q1 := (HE1.out x).below HB.out
      have q2 := (HE2.out x).below HB.out
      rw [rx_some hr2] at q2
      have wx : IntKind.i64.wrap ((x : Int) + 1 - 1) = (x : Int) := by rw [IntKind.wrap_i64]; have := HZ.out; omega
      have wx3 : IntKind.i64.wrap (x : Int) = (x : Int) := by rw [IntKind.wrap_i64]; have := HZ.out; omega
      have wx2 : wrap64 ((x : Int) + 1 - 1) = (x : Int) := by unfold wrap64; have := HZ.out; omega
      have hxm : (x : Int) < (M : Int) := by omega
      obtain ⟨b0_0, b0_1, b0_2, b0_3, b0_4, b0_5, b0_6, b0_7, b0_8, b0_9, b0_10, b0_11, b0_12⟩ := HC.out
      obtain ⟨q0_0, q0_1, q0_2, q0_3, q0_4, q0_5, q0_6, q0_7, q0_8, q0_9, q0_10, q0_11, q0_12⟩ := bX.at
      have HXM : Hid (x < M) := hx
      by_cases he : exE ys x = exE zs x
      · have KS : Hid (∀ W', Below W.heap.size W W' → Calls Try.prog 30 #[.agg #[.int .i64 (rx hs x).k, .int .i64 (rx hs x).t, .int .i64 (rx hs x).n, .int .i64 (rx hs x).d, .string (rx hs x).s, .int .i64 (rx hs x).vk, .int .i64 (rx hs x).vx, .int .u64 (rx hs x).vb, .string (rx hs x).vs, .slice (rx hs x).la (rx hs x).ll (rx hs x).lc, .int .i64 (rx hs x).f, .int .u64 ((rx hs x).c : Int), .int .i64 (rx hs x).m], .agg #[.int .i64 r2.k, .int .i64 r2.t, .int .i64 r2.n, .int .i64 r2.d, .string r2.s, .int .i64 r2.vk, .int .i64 r2.vx, .int .u64 r2.vb, .string r2.vs, .slice r2.la r2.ll r2.lc, .int .i64 r2.f, .int .u64 (r2.c : Int), .int .i64 r2.m]] W' fun e w' => e = .returned (.bool true) ∧ Below W'.heap.size W' w') := fun W' hW => same_is NN (rx hs x) r2 (exE ys x) (exE zs x) true (by simp [he]) W' (q1.below hW) (q2.below hW)
        have HQ : Hid (x < M ∧ exE ys x = exE zs x) := ⟨hx, he⟩
        clear hat hr2 q1 q2 he hx
        gi_wp2
        refine wpIn_region_any hmix (wpAnyIn_of (hL := fun ⟨_, _, h⟩ => h) (hd := by kernel_rfl) (wpAny_of_held (S := (fun w' => w'.cell? ⟨w.heap.size, 0, none⟩ = some (.slice (some ⟨B2, o2, none⟩) M c2) ∧ w'.cell? ⟨Bx, 0, none⟩ = some (.int .i64 (rx hs x).k) ∧ w'.cell? ⟨Bx, 1, none⟩ = some (.int .i64 (rx hs x).t) ∧ w'.cell? ⟨Bx, 2, none⟩ = some (.int .i64 (rx hs x).n) ∧ w'.cell? ⟨Bx, 3, none⟩ = some (.int .i64 (rx hs x).d) ∧ w'.cell? ⟨Bx, 4, none⟩ = some (.string (rx hs x).s) ∧ w'.cell? ⟨Bx, 5, none⟩ = some (.int .i64 (rx hs x).vk) ∧ w'.cell? ⟨Bx, 6, none⟩ = some (.int .i64 (rx hs x).vx) ∧ w'.cell? ⟨Bx, 7, none⟩ = some (.int .u64 (rx hs x).vb) ∧ w'.cell? ⟨Bx, 8, none⟩ = some (.string (rx hs x).vs) ∧ w'.cell? ⟨Bx, 9, none⟩ = some (.slice (rx hs x).la (rx hs x).ll (rx hs x).lc) ∧ w'.cell? ⟨Bx, 10, none⟩ = some (.int .i64 (rx hs x).f) ∧ w'.cell? ⟨Bx, 11, none⟩ = some (.int .u64 ((rx hs x).c : Int)) ∧ w'.cell? ⟨Bx, 12, none⟩ = some (.int .i64 (rx hs x).m) ∧ w'.cell? ⟨B2, o2 + x * 13, none⟩ = some (.int .i64 r2.k) ∧ w'.cell? ⟨B2, o2 + x * 13 + 1, none⟩ = some (.int .i64 r2.t) ∧ w'.cell? ⟨B2, o2 + x * 13 + 2, none⟩ = some (.int .i64 r2.n) ∧ w'.cell? ⟨B2, o2 + x * 13 + 3, none⟩ = some (.int .i64 r2.d) ∧ w'.cell? ⟨B2, o2 + x * 13 + 4, none⟩ = some (.string r2.s) ∧ w'.cell? ⟨B2, o2 + x * 13 + 5, none⟩ = some (.int .i64 r2.vk) ∧ w'.cell? ⟨B2, o2 + x * 13 + 6, none⟩ = some (.int .i64 r2.vx) ∧ w'.cell? ⟨B2, o2 + x * 13 + 7, none⟩ = some (.int .u64 r2.vb) ∧ w'.cell? ⟨B2, o2 + x * 13 + 8, none⟩ = some (.string r2.vs) ∧ w'.cell? ⟨B2, o2 + x * 13 + 9, none⟩ = some (.slice r2.la r2.ll r2.lc) ∧ w'.cell? ⟨B2, o2 + x * 13 + 10, none⟩ = some (.int .i64 r2.f) ∧ w'.cell? ⟨B2, o2 + x * 13 + 11, none⟩ = some (.int .u64 (r2.c : Int)) ∧ w'.cell? ⟨B2, o2 + x * 13 + 12, none⟩ = some (.int .i64 r2.m))) _ _ _ _ ?_))
        have hHeld : (fun w' => w'.cell? ⟨w.heap.size, 0, none⟩ = some (.slice (some ⟨B2, o2, none⟩) M c2) ∧ w'.cell? ⟨Bx, 0, none⟩ = some (.int .i64 (rx hs x).k) ∧ w'.cell? ⟨Bx, 1, none⟩ = some (.int .i64 (rx hs x).t) ∧ w'.cell? ⟨Bx, 2, none⟩ = some (.int .i64 (rx hs x).n) ∧ w'.cell? ⟨Bx, 3, none⟩ = some (.int .i64 (rx hs x).d) ∧ w'.cell? ⟨Bx, 4, none⟩ = some (.string (rx hs x).s) ∧ w'.cell? ⟨Bx, 5, none⟩ = some (.int .i64 (rx hs x).vk) ∧ w'.cell? ⟨Bx, 6, none⟩ = some (.int .i64 (rx hs x).vx) ∧ w'.cell? ⟨Bx, 7, none⟩ = some (.int .u64 (rx hs x).vb) ∧ w'.cell? ⟨Bx, 8, none⟩ = some (.string (rx hs x).vs) ∧ w'.cell? ⟨Bx, 9, none⟩ = some (.slice (rx hs x).la (rx hs x).ll (rx hs x).lc) ∧ w'.cell? ⟨Bx, 10, none⟩ = some (.int .i64 (rx hs x).f) ∧ w'.cell? ⟨Bx, 11, none⟩ = some (.int .u64 ((rx hs x).c : Int)) ∧ w'.cell? ⟨Bx, 12, none⟩ = some (.int .i64 (rx hs x).m) ∧ w'.cell? ⟨B2, o2 + x * 13, none⟩ = some (.int .i64 r2.k) ∧ w'.cell? ⟨B2, o2 + x * 13 + 1, none⟩ = some (.int .i64 r2.t) ∧ w'.cell? ⟨B2, o2 + x * 13 + 2, none⟩ = some (.int .i64 r2.n) ∧ w'.cell? ⟨B2, o2 + x * 13 + 3, none⟩ = some (.int .i64 r2.d) ∧ w'.cell? ⟨B2, o2 + x * 13 + 4, none⟩ = some (.string r2.s) ∧ w'.cell? ⟨B2, o2 + x * 13 + 5, none⟩ = some (.int .i64 r2.vk) ∧ w'.cell? ⟨B2, o2 + x * 13 + 6, none⟩ = some (.int .i64 r2.vx) ∧ w'.cell? ⟨B2, o2 + x * 13 + 7, none⟩ = some (.int .u64 r2.vb) ∧ w'.cell? ⟨B2, o2 + x * 13 + 8, none⟩ = some (.string r2.vs) ∧ w'.cell? ⟨B2, o2 + x * 13 + 9, none⟩ = some (.slice r2.la r2.ll r2.lc) ∧ w'.cell? ⟨B2, o2 + x * 13 + 10, none⟩ = some (.int .i64 r2.f) ∧ w'.cell? ⟨B2, o2 + x * 13 + 11, none⟩ = some (.int .u64 (r2.c : Int)) ∧ w'.cell? ⟨B2, o2 + x * 13 + 12, none⟩ = some (.int .i64 r2.m)) W.drew := ⟨xB, q0_0, q0_1, q0_2, q0_3, q0_4, q0_5, q0_6, q0_7, q0_8, q0_9, q0_10, q0_11, q0_12, b0_0, b0_1, b0_2, b0_3, b0_4, b0_5, b0_6, b0_7, b0_8, b0_9, b0_10, b0_11, b0_12⟩
        change wpAnyH _ _ _ _ _ _ _ _ (World.drew _)
        refine wpAnyH_take (i := 0) (oi := { dst := some 12, op := Go.Op.move (Go.Operand.tmp 6), type := 3, pos := "branch.go:101", after := #[], guard := none }) (v := ?_) rfl (by kernel_rfl) (by kernel_rfl) (by kernel_rfl) (fun _ _ _ h => h) (Or.inl ⟨by rfl, ?_⟩) hHeld ?_
        rotate_left 1
        · (intro w hSw; (try dsimp only at hSw); go_simp <;> with_reducible rfl)
        simp only [Act.put, List.setIfInBounds_toArray, List.set_cons_zero, List.set_cons_succ]
        refine wpAnyH_take (i := 1) (oi := { dst := some 13, op := Go.Op.load 22 (Go.Operand.tmp 3), type := 22, pos := "branch.go:101", after := #[], guard := none }) (v := ?_) rfl (by kernel_rfl) (by kernel_rfl) (by kernel_rfl) (fun _ _ _ h => h) (Or.inl ⟨by rfl, ?_⟩) hHeld ?_
        rotate_left 1
        · (intro w hSw; (try dsimp only at hSw); go_simp <;> with_reducible rfl)
        simp only [Act.put, List.setIfInBounds_toArray, List.set_cons_zero, List.set_cons_succ]
        refine wpAnyH_take (i := 2) (oi := { dst := some 14, op := Go.Op.call { callee := Go.Callee.builtin Go.Builtin.len, args := #[Go.Operand.tmp 13], argTypes := #[22] }, type := 3, pos := "branch.go:101", after := #[{ on := 1, ground := Go.Ground.data }], guard := none }) (v := ?_) rfl (by kernel_rfl) (by kernel_rfl) (by kernel_rfl) (fun _ _ _ h => h) (Or.inl ⟨by rfl, ?_⟩) hHeld ?_
        rotate_left 1
        · (intro w hSw; (try dsimp only at hSw); go_simp <;> with_reducible rfl)
        simp only [Act.put, List.setIfInBounds_toArray, List.set_cons_zero, List.set_cons_succ]
        refine wpAnyH_take (i := 3) (oi := { dst := some 15, op := Go.Op.binOp Go.BinOp.gtr 3 (Go.Operand.tmp 12) (Go.Operand.tmp 14) 3, type := 4, pos := "branch.go:101", after := #[{ on := 0, ground := Go.Ground.data }, { on := 2, ground := Go.Ground.data }], guard := none }) (v := ?_) rfl (by kernel_rfl) (by kernel_rfl) (by kernel_rfl) (fun _ _ _ h => h) (Or.inl ⟨by rfl, ?_⟩) hHeld ?_
        rotate_left 1
        · (intro w hSw; (try dsimp only at hSw); go_simp <;> with_reducible rfl)
        simp only [Act.put, List.setIfInBounds_toArray, List.set_cons_zero, List.set_cons_succ]
        refine wpAnyH_take (i := 4) (oi := { dst := some 16, op := Go.Op.move (Go.Operand.tmp 15), type := 4, pos := "branch.go:101", after := #[{ on := 3, ground := Go.Ground.data }], guard := none }) (v := ?_) rfl (by kernel_rfl) (by kernel_rfl) (by kernel_rfl) (fun _ _ _ h => h) (Or.inl ⟨by rfl, ?_⟩) hHeld ?_
        rotate_left 1
        · (intro w hSw; (try dsimp only at hSw); go_simp <;> with_reducible rfl)
        simp only [Act.put, List.setIfInBounds_toArray, List.set_cons_zero, List.set_cons_succ]
        refine wpAnyH_take (i := 5) (oi := { dst := some 17, op := Go.Op.load 39 (Go.Operand.tmp 7), type := 39, pos := "branch.go:101", after := #[{ on := 4, ground := Go.Ground.guard }], guard := some (4, false) }) (v := ?_) rfl (by kernel_rfl) (by kernel_rfl) (by kernel_rfl) (fun _ _ _ h => h) (Or.inl ⟨by rfl, ?_⟩) hHeld ?_
        rotate_left 1
        · (intro w hSw; (try dsimp only at hSw); go_simp <;> with_reducible rfl)
        simp only [Act.put, List.setIfInBounds_toArray, List.set_cons_zero, List.set_cons_succ]
        refine wpAnyH_take (i := 6) (oi := { dst := some 18, op := Go.Op.load 22 (Go.Operand.tmp 3), type := 22, pos := "branch.go:101", after := #[{ on := 4, ground := Go.Ground.guard }], guard := some (4, false) }) (v := ?_) rfl (by kernel_rfl) (by kernel_rfl) (by kernel_rfl) (fun _ _ _ h => h) (Or.inl ⟨by rfl, ?_⟩) hHeld ?_
        rotate_left 1
        · (intro w hSw; (try dsimp only at hSw); go_simp <;> with_reducible rfl)
        simp only [Act.put, List.setIfInBounds_toArray, List.set_cons_zero, List.set_cons_succ]
        refine wpAnyH_take (i := 7) (oi := { dst := some 19, op := Go.Op.move (Go.Operand.tmp 6), type := 3, pos := "branch.go:101", after := #[{ on := 4, ground := Go.Ground.guard }], guard := some (4, false) }) (v := ?_) rfl (by kernel_rfl) (by kernel_rfl) (by kernel_rfl) (fun _ _ _ h => h) (Or.inl ⟨by rfl, ?_⟩) hHeld ?_
        rotate_left 1
        · (intro w hSw; (try dsimp only at hSw); go_simp <;> with_reducible rfl)
        simp only [Act.put, List.setIfInBounds_toArray, List.set_cons_zero, List.set_cons_succ]
        refine wpAnyH_take (i := 8) (oi := { dst := some 20, op := Go.Op.binOp Go.BinOp.sub 3 (Go.Operand.tmp 19) (Go.Operand.const (Go.Value.int Go.IntKind.i64 1)) 3, type := 3, pos := "branch.go:101", after := #[{ on := 7, ground := Go.Ground.data }, { on := 4, ground := Go.Ground.guard }], guard := some (4, false) }) (v := ?_) rfl (by kernel_rfl) (by kernel_rfl) (by kernel_rfl) (fun _ _ _ h => h) (Or.inl ⟨by rfl, ?_⟩) hHeld ?_
        rotate_left 1
        · (intro w hSw; (try dsimp only at hSw); go_simp <;> with_reducible rfl)
        simp only [Act.put, List.setIfInBounds_toArray, List.set_cons_zero, List.set_cons_succ]
        refine wpAnyH_take (i := 9) (oi := { dst := some 21, op := Go.Op.indexAddr 22 (Go.Operand.tmp 18) (Go.Operand.tmp 20), type := 0, pos := "branch.go:101", after := #[{ on := 6, ground := Go.Ground.data }, { on := 8, ground := Go.Ground.data }, { on := 4, ground := Go.Ground.guard }], guard := some (4, false) }) (v := ?_) rfl (by kernel_rfl) (by kernel_rfl) (by kernel_rfl) (fun _ _ _ h => h) (Or.inl ⟨by rfl, ?_⟩) hHeld ?_
        rotate_left 1
        · (intro w hSw; (try dsimp only at hSw); go_simp <;> with_reducible rfl)
        simp only [Act.put, List.setIfInBounds_toArray, List.set_cons_zero, List.set_cons_succ]
        refine wpAnyH_take (i := 10) (oi := { dst := some 22, op := Go.Op.load 39 (Go.Operand.tmp 21), type := 39, pos := "branch.go:101", after := #[{ on := 9, ground := Go.Ground.data }, { on := 4, ground := Go.Ground.guard }], guard := some (4, false) }) (v := ?_) rfl (by kernel_rfl) (by kernel_rfl) (by kernel_rfl) (fun _ _ _ h => h) (Or.inl ⟨by rfl, ?_⟩) hHeld ?_
        rotate_left 1
        · (intro w hSw; (try dsimp only at hSw); go_simp <;> with_reducible rfl)
        simp only [Act.put, List.setIfInBounds_toArray, List.set_cons_zero, List.set_cons_succ]
        refine wpAnyH_ready (rs := [11]) (by kernel_rfl) (by simp) ?_
        refine AllReadyH.cons (o := { dst := some 23, op := Go.Op.call { callee := Go.Callee.value (Go.Operand.func 30), args := #[Go.Operand.tmp 17, Go.Operand.tmp 22], argTypes := #[39, 39] }, type := 4, pos := "branch.go:101", after := #[{ on := 5, ground := Go.Ground.data }, { on := 10, ground := Go.Ground.data }, { on := 4, ground := Go.Ground.chain }, { on := 4, ground := Go.Ground.guard }], guard := some (4, false) }) rfl (fun K hK => ?_) AllReadyH.nil
        go_simp
        refine (KS.out _ (Below.refl _ W).drew).mono ?_
        rintro e w3 ⟨rfl, hb3⟩
        have T3 : Hid (Below W.heap.size W w3) := bel2 (Below.refl _ W).drew hb3
        have xb3 := cellB xB T3.out
        obtain ⟨q1_0, q1_1, q1_2, q1_3, q1_4, q1_5, q1_6, q1_7, q1_8, q1_9, q1_10, q1_11, q1_12⟩ := AtR.below bX.at T3.out
        obtain ⟨b1_0, b1_1, b1_2, b1_3, b1_4, b1_5, b1_6, b1_7, b1_8, b1_9, b1_10, b1_11, b1_12⟩ := HC.out.below T3.out
        clear hb3 hHeld
        refine hK.out _ _ ⟨xb3, q1_0, q1_1, q1_2, q1_3, q1_4, q1_5, q1_6, q1_7, q1_8, q1_9, q1_10, q1_11, q1_12, b1_0, b1_1, b1_2, b1_3, b1_4, b1_5, b1_6, b1_7, b1_8, b1_9, b1_10, b1_11, b1_12⟩ (fun hHeld => ?_)
        clear hK K
        refine wpAnyH_take (i := 12) (oi := { dst := some 24, op := Go.Op.unOp Go.UnOp.not 4 (Go.Operand.tmp 23), type := 4, pos := "branch.go:101", after := #[{ on := 11, ground := Go.Ground.data }, { on := 4, ground := Go.Ground.guard }], guard := some (4, false) }) (v := ?_) rfl (by kernel_rfl) (by kernel_rfl) (by kernel_rfl) (fun _ _ _ h => h) (Or.inl ⟨by rfl, ?_⟩) hHeld ?_
        rotate_left 1
        · (intro w hSw; (try dsimp only at hSw); go_simp <;> with_reducible rfl)
        simp only [Act.put, List.setIfInBounds_toArray, List.set_cons_zero, List.set_cons_succ]
        refine wpAnyH_take (i := 13) (oi := { dst := some 25, op := Go.Op.pick (Go.Operand.tmp 16) (Go.Operand.const (Go.Value.bool true)) (Go.Operand.tmp 24), type := 4, pos := "branch.go:101", after := #[{ on := 4, ground := Go.Ground.data }, { on := 12, ground := Go.Ground.data }], guard := none }) (v := ?_) rfl (by kernel_rfl) (by kernel_rfl) (by kernel_rfl) (fun _ _ _ h => h) (Or.inl ⟨by rfl, ?_⟩) hHeld ?_
        rotate_left 1
        · (intro w hSw; (try dsimp only at hSw); go_simp <;> with_reducible rfl)
        simp only [Act.put, List.setIfInBounds_toArray, List.set_cons_zero, List.set_cons_succ]
        refine wpAnyH_done (by kernel_rfl) ?_ _
        have hv3 : Boxed w3 (w.heap.size + 1) 3 (.int .i64 (lst pre)) := (T3.out.block _ HV.out.lt).trans HV.out
        have hc3 := hv3.cell
        have hf3 := hv3.frozen
        gi_wp2
        refine ⟨((keepsO T3.out).trans (KeepsOthers.setCell _ _ _)).from _, ?_, ⟨?_, ?_⟩, ?_⟩
        · exact (T3.out.mono HB.out.size).setCell (p := ⟨w.heap.size + 1, 0, none⟩) (by rw [HS1.out]; exact Nat.le_refl _) _
        · rw [lst_snoc]
          exact hv3.set _
        · intro i hi
          rcases List.mem_append.1 hi with h | h
          · exact HU.out i h
          · obtain rfl := List.mem_singleton.1 h
            rw [← HZ.out.1]
            exact HQ.out
        · exact HB.out.trans ((T3.out.mono HB.out.size).setCell (p := ⟨w.heap.size + 1, 0, none⟩) (by rw [HS1.out]; exact Nat.le_refl _) _)
      · have KS : Hid (∀ W', Below W.heap.size W W' → Calls Try.prog 30 #[.agg #[.int .i64 (rx hs x).k, .int .i64 (rx hs x).t, .int .i64 (rx hs x).n, .int .i64 (rx hs x).d, .string (rx hs x).s, .int .i64 (rx hs x).vk, .int .i64 (rx hs x).vx, .int .u64 (rx hs x).vb, .string (rx hs x).vs, .slice (rx hs x).la (rx hs x).ll (rx hs x).lc, .int .i64 (rx hs x).f, .int .u64 ((rx hs x).c : Int), .int .i64 (rx hs x).m], .agg #[.int .i64 r2.k, .int .i64 r2.t, .int .i64 r2.n, .int .i64 r2.d, .string r2.s, .int .i64 r2.vk, .int .i64 r2.vx, .int .u64 r2.vb, .string r2.vs, .slice r2.la r2.ll r2.lc, .int .i64 r2.f, .int .u64 (r2.c : Int), .int .i64 r2.m]] W' fun e w' => e = .returned (.bool false) ∧ Below W'.heap.size W' w') := fun W' hW => same_is NN (rx hs x) r2 (exE ys x) (exE zs x) false (by simp [he]) W' (q1.below hW) (q2.below hW)
        have HQ : Hid (¬ (x < M ∧ exE ys x = exE zs x)) := fun h => he h.2
        clear hat hr2 q1 q2 he hx
        gi_wp2
        refine wpIn_region_any hmix (wpAnyIn_of (hL := fun ⟨_, _, h⟩ => h) (hd := by kernel_rfl) (wpAny_of_held (S := (fun w' => w'.cell? ⟨w.heap.size, 0, none⟩ = some (.slice (some ⟨B2, o2, none⟩) M c2) ∧ w'.cell? ⟨Bx, 0, none⟩ = some (.int .i64 (rx hs x).k) ∧ w'.cell? ⟨Bx, 1, none⟩ = some (.int .i64 (rx hs x).t) ∧ w'.cell? ⟨Bx, 2, none⟩ = some (.int .i64 (rx hs x).n) ∧ w'.cell? ⟨Bx, 3, none⟩ = some (.int .i64 (rx hs x).d) ∧ w'.cell? ⟨Bx, 4, none⟩ = some (.string (rx hs x).s) ∧ w'.cell? ⟨Bx, 5, none⟩ = some (.int .i64 (rx hs x).vk) ∧ w'.cell? ⟨Bx, 6, none⟩ = some (.int .i64 (rx hs x).vx) ∧ w'.cell? ⟨Bx, 7, none⟩ = some (.int .u64 (rx hs x).vb) ∧ w'.cell? ⟨Bx, 8, none⟩ = some (.string (rx hs x).vs) ∧ w'.cell? ⟨Bx, 9, none⟩ = some (.slice (rx hs x).la (rx hs x).ll (rx hs x).lc) ∧ w'.cell? ⟨Bx, 10, none⟩ = some (.int .i64 (rx hs x).f) ∧ w'.cell? ⟨Bx, 11, none⟩ = some (.int .u64 ((rx hs x).c : Int)) ∧ w'.cell? ⟨Bx, 12, none⟩ = some (.int .i64 (rx hs x).m) ∧ w'.cell? ⟨B2, o2 + x * 13, none⟩ = some (.int .i64 r2.k) ∧ w'.cell? ⟨B2, o2 + x * 13 + 1, none⟩ = some (.int .i64 r2.t) ∧ w'.cell? ⟨B2, o2 + x * 13 + 2, none⟩ = some (.int .i64 r2.n) ∧ w'.cell? ⟨B2, o2 + x * 13 + 3, none⟩ = some (.int .i64 r2.d) ∧ w'.cell? ⟨B2, o2 + x * 13 + 4, none⟩ = some (.string r2.s) ∧ w'.cell? ⟨B2, o2 + x * 13 + 5, none⟩ = some (.int .i64 r2.vk) ∧ w'.cell? ⟨B2, o2 + x * 13 + 6, none⟩ = some (.int .i64 r2.vx) ∧ w'.cell? ⟨B2, o2 + x * 13 + 7, none⟩ = some (.int .u64 r2.vb) ∧ w'.cell? ⟨B2, o2 + x * 13 + 8, none⟩ = some (.string r2.vs) ∧ w'.cell? ⟨B2, o2 + x * 13 + 9, none⟩ = some (.slice r2.la r2.ll r2.lc) ∧ w'.cell? ⟨B2, o2 + x * 13 + 10, none⟩ = some (.int .i64 r2.f) ∧ w'.cell? ⟨B2, o2 + x * 13 + 11, none⟩ = some (.int .u64 (r2.c : Int)) ∧ w'.cell? ⟨B2, o2 + x * 13 + 12, none⟩ = some (.int .i64 r2.m))) _ _ _ _ ?_))
        have hHeld : (fun w' => w'.cell? ⟨w.heap.size, 0, none⟩ = some (.slice (some ⟨B2, o2, none⟩) M c2) ∧ w'.cell? ⟨Bx, 0, none⟩ = some (.int .i64 (rx hs x).k) ∧ w'.cell? ⟨Bx, 1, none⟩ = some (.int .i64 (rx hs x).t) ∧ w'.cell? ⟨Bx, 2, none⟩ = some (.int .i64 (rx hs x).n) ∧ w'.cell? ⟨Bx, 3, none⟩ = some (.int .i64 (rx hs x).d) ∧ w'.cell? ⟨Bx, 4, none⟩ = some (.string (rx hs x).s) ∧ w'.cell? ⟨Bx, 5, none⟩ = some (.int .i64 (rx hs x).vk) ∧ w'.cell? ⟨Bx, 6, none⟩ = some (.int .i64 (rx hs x).vx) ∧ w'.cell? ⟨Bx, 7, none⟩ = some (.int .u64 (rx hs x).vb) ∧ w'.cell? ⟨Bx, 8, none⟩ = some (.string (rx hs x).vs) ∧ w'.cell? ⟨Bx, 9, none⟩ = some (.slice (rx hs x).la (rx hs x).ll (rx hs x).lc) ∧ w'.cell? ⟨Bx, 10, none⟩ = some (.int .i64 (rx hs x).f) ∧ w'.cell? ⟨Bx, 11, none⟩ = some (.int .u64 ((rx hs x).c : Int)) ∧ w'.cell? ⟨Bx, 12, none⟩ = some (.int .i64 (rx hs x).m) ∧ w'.cell? ⟨B2, o2 + x * 13, none⟩ = some (.int .i64 r2.k) ∧ w'.cell? ⟨B2, o2 + x * 13 + 1, none⟩ = some (.int .i64 r2.t) ∧ w'.cell? ⟨B2, o2 + x * 13 + 2, none⟩ = some (.int .i64 r2.n) ∧ w'.cell? ⟨B2, o2 + x * 13 + 3, none⟩ = some (.int .i64 r2.d) ∧ w'.cell? ⟨B2, o2 + x * 13 + 4, none⟩ = some (.string r2.s) ∧ w'.cell? ⟨B2, o2 + x * 13 + 5, none⟩ = some (.int .i64 r2.vk) ∧ w'.cell? ⟨B2, o2 + x * 13 + 6, none⟩ = some (.int .i64 r2.vx) ∧ w'.cell? ⟨B2, o2 + x * 13 + 7, none⟩ = some (.int .u64 r2.vb) ∧ w'.cell? ⟨B2, o2 + x * 13 + 8, none⟩ = some (.string r2.vs) ∧ w'.cell? ⟨B2, o2 + x * 13 + 9, none⟩ = some (.slice r2.la r2.ll r2.lc) ∧ w'.cell? ⟨B2, o2 + x * 13 + 10, none⟩ = some (.int .i64 r2.f) ∧ w'.cell? ⟨B2, o2 + x * 13 + 11, none⟩ = some (.int .u64 (r2.c : Int)) ∧ w'.cell? ⟨B2, o2 + x * 13 + 12, none⟩ = some (.int .i64 r2.m)) W.drew := ⟨xB, q0_0, q0_1, q0_2, q0_3, q0_4, q0_5, q0_6, q0_7, q0_8, q0_9, q0_10, q0_11, q0_12, b0_0, b0_1, b0_2, b0_3, b0_4, b0_5, b0_6, b0_7, b0_8, b0_9, b0_10, b0_11, b0_12⟩
        change wpAnyH _ _ _ _ _ _ _ _ (World.drew _)
        refine wpAnyH_take (i := 0) (oi := { dst := some 12, op := Go.Op.move (Go.Operand.tmp 6), type := 3, pos := "branch.go:101", after := #[], guard := none }) (v := ?_) rfl (by kernel_rfl) (by kernel_rfl) (by kernel_rfl) (fun _ _ _ h => h) (Or.inl ⟨by rfl, ?_⟩) hHeld ?_
        rotate_left 1
        · (intro w hSw; (try dsimp only at hSw); go_simp <;> with_reducible rfl)
        simp only [Act.put, List.setIfInBounds_toArray, List.set_cons_zero, List.set_cons_succ]
        refine wpAnyH_take (i := 1) (oi := { dst := some 13, op := Go.Op.load 22 (Go.Operand.tmp 3), type := 22, pos := "branch.go:101", after := #[], guard := none }) (v := ?_) rfl (by kernel_rfl) (by kernel_rfl) (by kernel_rfl) (fun _ _ _ h => h) (Or.inl ⟨by rfl, ?_⟩) hHeld ?_
        rotate_left 1
        · (intro w hSw; (try dsimp only at hSw); go_simp <;> with_reducible rfl)
        simp only [Act.put, List.setIfInBounds_toArray, List.set_cons_zero, List.set_cons_succ]
        refine wpAnyH_take (i := 2) (oi := { dst := some 14, op := Go.Op.call { callee := Go.Callee.builtin Go.Builtin.len, args := #[Go.Operand.tmp 13], argTypes := #[22] }, type := 3, pos := "branch.go:101", after := #[{ on := 1, ground := Go.Ground.data }], guard := none }) (v := ?_) rfl (by kernel_rfl) (by kernel_rfl) (by kernel_rfl) (fun _ _ _ h => h) (Or.inl ⟨by rfl, ?_⟩) hHeld ?_
        rotate_left 1
        · (intro w hSw; (try dsimp only at hSw); go_simp <;> with_reducible rfl)
        simp only [Act.put, List.setIfInBounds_toArray, List.set_cons_zero, List.set_cons_succ]
        refine wpAnyH_take (i := 3) (oi := { dst := some 15, op := Go.Op.binOp Go.BinOp.gtr 3 (Go.Operand.tmp 12) (Go.Operand.tmp 14) 3, type := 4, pos := "branch.go:101", after := #[{ on := 0, ground := Go.Ground.data }, { on := 2, ground := Go.Ground.data }], guard := none }) (v := ?_) rfl (by kernel_rfl) (by kernel_rfl) (by kernel_rfl) (fun _ _ _ h => h) (Or.inl ⟨by rfl, ?_⟩) hHeld ?_
        rotate_left 1
        · (intro w hSw; (try dsimp only at hSw); go_simp <;> with_reducible rfl)
        simp only [Act.put, List.setIfInBounds_toArray, List.set_cons_zero, List.set_cons_succ]
        refine wpAnyH_take (i := 4) (oi := { dst := some 16, op := Go.Op.move (Go.Operand.tmp 15), type := 4, pos := "branch.go:101", after := #[{ on := 3, ground := Go.Ground.data }], guard := none }) (v := ?_) rfl (by kernel_rfl) (by kernel_rfl) (by kernel_rfl) (fun _ _ _ h => h) (Or.inl ⟨by rfl, ?_⟩) hHeld ?_
        rotate_left 1
        · (intro w hSw; (try dsimp only at hSw); go_simp <;> with_reducible rfl)
        simp only [Act.put, List.setIfInBounds_toArray, List.set_cons_zero, List.set_cons_succ]
        refine wpAnyH_take (i := 5) (oi := { dst := some 17, op := Go.Op.load 39 (Go.Operand.tmp 7), type := 39, pos := "branch.go:101", after := #[{ on := 4, ground := Go.Ground.guard }], guard := some (4, false) }) (v := ?_) rfl (by kernel_rfl) (by kernel_rfl) (by kernel_rfl) (fun _ _ _ h => h) (Or.inl ⟨by rfl, ?_⟩) hHeld ?_
        rotate_left 1
        · (intro w hSw; (try dsimp only at hSw); go_simp <;> with_reducible rfl)
        simp only [Act.put, List.setIfInBounds_toArray, List.set_cons_zero, List.set_cons_succ]
        refine wpAnyH_take (i := 6) (oi := { dst := some 18, op := Go.Op.load 22 (Go.Operand.tmp 3), type := 22, pos := "branch.go:101", after := #[{ on := 4, ground := Go.Ground.guard }], guard := some (4, false) }) (v := ?_) rfl (by kernel_rfl) (by kernel_rfl) (by kernel_rfl) (fun _ _ _ h => h) (Or.inl ⟨by rfl, ?_⟩) hHeld ?_
        rotate_left 1
        · (intro w hSw; (try dsimp only at hSw); go_simp <;> with_reducible rfl)
        simp only [Act.put, List.setIfInBounds_toArray, List.set_cons_zero, List.set_cons_succ]
        refine wpAnyH_take (i := 7) (oi := { dst := some 19, op := Go.Op.move (Go.Operand.tmp 6), type := 3, pos := "branch.go:101", after := #[{ on := 4, ground := Go.Ground.guard }], guard := some (4, false) }) (v := ?_) rfl (by kernel_rfl) (by kernel_rfl) (by kernel_rfl) (fun _ _ _ h => h) (Or.inl ⟨by rfl, ?_⟩) hHeld ?_
        rotate_left 1
        · (intro w hSw; (try dsimp only at hSw); go_simp <;> with_reducible rfl)
        simp only [Act.put, List.setIfInBounds_toArray, List.set_cons_zero, List.set_cons_succ]
        refine wpAnyH_take (i := 8) (oi := { dst := some 20, op := Go.Op.binOp Go.BinOp.sub 3 (Go.Operand.tmp 19) (Go.Operand.const (Go.Value.int Go.IntKind.i64 1)) 3, type := 3, pos := "branch.go:101", after := #[{ on := 7, ground := Go.Ground.data }, { on := 4, ground := Go.Ground.guard }], guard := some (4, false) }) (v := ?_) rfl (by kernel_rfl) (by kernel_rfl) (by kernel_rfl) (fun _ _ _ h => h) (Or.inl ⟨by rfl, ?_⟩) hHeld ?_
        rotate_left 1
        · (intro w hSw; (try dsimp only at hSw); go_simp <;> with_reducible rfl)
        simp only [Act.put, List.setIfInBounds_toArray, List.set_cons_zero, List.set_cons_succ]
        refine wpAnyH_take (i := 9) (oi := { dst := some 21, op := Go.Op.indexAddr 22 (Go.Operand.tmp 18) (Go.Operand.tmp 20), type := 0, pos := "branch.go:101", after := #[{ on := 6, ground := Go.Ground.data }, { on := 8, ground := Go.Ground.data }, { on := 4, ground := Go.Ground.guard }], guard := some (4, false) }) (v := ?_) rfl (by kernel_rfl) (by kernel_rfl) (by kernel_rfl) (fun _ _ _ h => h) (Or.inl ⟨by rfl, ?_⟩) hHeld ?_
        rotate_left 1
        · (intro w hSw; (try dsimp only at hSw); go_simp <;> with_reducible rfl)
        simp only [Act.put, List.setIfInBounds_toArray, List.set_cons_zero, List.set_cons_succ]
        refine wpAnyH_take (i := 10) (oi := { dst := some 22, op := Go.Op.load 39 (Go.Operand.tmp 21), type := 39, pos := "branch.go:101", after := #[{ on := 9, ground := Go.Ground.data }, { on := 4, ground := Go.Ground.guard }], guard := some (4, false) }) (v := ?_) rfl (by kernel_rfl) (by kernel_rfl) (by kernel_rfl) (fun _ _ _ h => h) (Or.inl ⟨by rfl, ?_⟩) hHeld ?_
        rotate_left 1
        · (intro w hSw; (try dsimp only at hSw); go_simp <;> with_reducible rfl)
        simp only [Act.put, List.setIfInBounds_toArray, List.set_cons_zero, List.set_cons_succ]
        refine wpAnyH_ready (rs := [11]) (by kernel_rfl) (by simp) ?_
        refine AllReadyH.cons (o := { dst := some 23, op := Go.Op.call { callee := Go.Callee.value (Go.Operand.func 30), args := #[Go.Operand.tmp 17, Go.Operand.tmp 22], argTypes := #[39, 39] }, type := 4, pos := "branch.go:101", after := #[{ on := 5, ground := Go.Ground.data }, { on := 10, ground := Go.Ground.data }, { on := 4, ground := Go.Ground.chain }, { on := 4, ground := Go.Ground.guard }], guard := some (4, false) }) rfl (fun K hK => ?_) AllReadyH.nil
        go_simp
        refine (KS.out _ (Below.refl _ W).drew).mono ?_
        rintro e w3 ⟨rfl, hb3⟩
        have T3 : Hid (Below W.heap.size W w3) := bel2 (Below.refl _ W).drew hb3
        have xb3 := cellB xB T3.out
        obtain ⟨q1_0, q1_1, q1_2, q1_3, q1_4, q1_5, q1_6, q1_7, q1_8, q1_9, q1_10, q1_11, q1_12⟩ := AtR.below bX.at T3.out
        obtain ⟨b1_0, b1_1, b1_2, b1_3, b1_4, b1_5, b1_6, b1_7, b1_8, b1_9, b1_10, b1_11, b1_12⟩ := HC.out.below T3.out
        clear hb3 hHeld
        refine hK.out _ _ ⟨xb3, q1_0, q1_1, q1_2, q1_3, q1_4, q1_5, q1_6, q1_7, q1_8, q1_9, q1_10, q1_11, q1_12, b1_0, b1_1, b1_2, b1_3, b1_4, b1_5, b1_6, b1_7, b1_8, b1_9, b1_10, b1_11, b1_12⟩ (fun hHeld => ?_)
        clear hK K
        refine wpAnyH_take (i := 12) (oi := { dst := some 24, op := Go.Op.unOp Go.UnOp.not 4 (Go.Operand.tmp 23), type := 4, pos := "branch.go:101", after := #[{ on := 11, ground := Go.Ground.data }, { on := 4, ground := Go.Ground.guard }], guard := some (4, false) }) (v := ?_) rfl (by kernel_rfl) (by kernel_rfl) (by kernel_rfl) (fun _ _ _ h => h) (Or.inl ⟨by rfl, ?_⟩) hHeld ?_
        rotate_left 1
        · (intro w hSw; (try dsimp only at hSw); go_simp <;> with_reducible rfl)
        simp only [Act.put, List.setIfInBounds_toArray, List.set_cons_zero, List.set_cons_succ]
        refine wpAnyH_take (i := 13) (oi := { dst := some 25, op := Go.Op.pick (Go.Operand.tmp 16) (Go.Operand.const (Go.Value.bool true)) (Go.Operand.tmp 24), type := 4, pos := "branch.go:101", after := #[{ on := 4, ground := Go.Ground.data }, { on := 12, ground := Go.Ground.data }], guard := none }) (v := ?_) rfl (by kernel_rfl) (by kernel_rfl) (by kernel_rfl) (fun _ _ _ h => h) (Or.inl ⟨by rfl, ?_⟩) hHeld ?_
        rotate_left 1
        · (intro w hSw; (try dsimp only at hSw); go_simp <;> with_reducible rfl)
        simp only [Act.put, List.setIfInBounds_toArray, List.set_cons_zero, List.set_cons_succ]
        refine wpAnyH_done (by kernel_rfl) ?_ _
        gi_wp2
        obtain ⟨x1, x2, x3⟩ := HX.out _ T3.out
        exact ⟨x1 _, ⟨by rw [List.dropLast_concat]; exact x2, rfl, pre, x, rfl, HU.out, by rw [← HZ.out.1]; first | exact HQ.out | exact fun h1 h2 => HQ.out ⟨h1, h2⟩⟩, x3⟩
    · have d0 : decide ((M : Int) < (x : Int) + 1) = true := decide_eq_true (by omega)
      have HQ : Hid (¬ (x < M ∧ exE ys x = exE zs x)) := fun h => hx h.1
      clear hx
      gi_wp2
      refine wpIn_region_any hmix (wpAnyIn_of (hL := fun ⟨_, _, h⟩ => h) (hd := by kernel_rfl) (wpAny_of_held (S := (fun w' => w'.cell? ⟨w.heap.size, 0, none⟩ = some (.slice a2 M c2))) _ _ _ _ ?_))
      have hHeld : (fun w' => w'.cell? ⟨w.heap.size, 0, none⟩ = some (.slice a2 M c2)) W.drew := xB
      change wpAnyH _ _ _ _ _ _ _ _ (World.drew _)
      refine wpAnyH_take (i := 0) (oi := { dst := some 12, op := Go.Op.move (Go.Operand.tmp 6), type := 3, pos := "branch.go:101", after := #[], guard := none }) (v := ?_) rfl (by kernel_rfl) (by kernel_rfl) (by kernel_rfl) (fun _ _ _ h => h) (Or.inl ⟨by rfl, ?_⟩) hHeld ?_
      rotate_left 1
      · (intro w hSw; (try dsimp only at hSw); go_simp <;> with_reducible rfl)
      simp only [Act.put, List.setIfInBounds_toArray, List.set_cons_zero, List.set_cons_succ]
      refine wpAnyH_take (i := 1) (oi := { dst := some 13, op := Go.Op.load 22 (Go.Operand.tmp 3), type := 22, pos := "branch.go:101", after := #[], guard := none }) (v := ?_) rfl (by kernel_rfl) (by kernel_rfl) (by kernel_rfl) (fun _ _ _ h => h) (Or.inl ⟨by rfl, ?_⟩) hHeld ?_
      rotate_left 1
      · (intro w hSw; (try dsimp only at hSw); go_simp <;> with_reducible rfl)
      simp only [Act.put, List.setIfInBounds_toArray, List.set_cons_zero, List.set_cons_succ]
      refine wpAnyH_take (i := 2) (oi := { dst := some 14, op := Go.Op.call { callee := Go.Callee.builtin Go.Builtin.len, args := #[Go.Operand.tmp 13], argTypes := #[22] }, type := 3, pos := "branch.go:101", after := #[{ on := 1, ground := Go.Ground.data }], guard := none }) (v := ?_) rfl (by kernel_rfl) (by kernel_rfl) (by kernel_rfl) (fun _ _ _ h => h) (Or.inl ⟨by rfl, ?_⟩) hHeld ?_
      rotate_left 1
      · (intro w hSw; (try dsimp only at hSw); go_simp <;> with_reducible rfl)
      simp only [Act.put, List.setIfInBounds_toArray, List.set_cons_zero, List.set_cons_succ]
      refine wpAnyH_take (i := 3) (oi := { dst := some 15, op := Go.Op.binOp Go.BinOp.gtr 3 (Go.Operand.tmp 12) (Go.Operand.tmp 14) 3, type := 4, pos := "branch.go:101", after := #[{ on := 0, ground := Go.Ground.data }, { on := 2, ground := Go.Ground.data }], guard := none }) (v := ?_) rfl (by kernel_rfl) (by kernel_rfl) (by kernel_rfl) (fun _ _ _ h => h) (Or.inl ⟨by rfl, ?_⟩) hHeld ?_
      rotate_left 1
      · (intro w hSw; (try dsimp only at hSw); go_simp <;> with_reducible rfl)
      simp only [Act.put, List.setIfInBounds_toArray, List.set_cons_zero, List.set_cons_succ]
      refine wpAnyH_take (i := 4) (oi := { dst := some 16, op := Go.Op.move (Go.Operand.tmp 15), type := 4, pos := "branch.go:101", after := #[{ on := 3, ground := Go.Ground.data }], guard := none }) (v := ?_) rfl (by kernel_rfl) (by kernel_rfl) (by kernel_rfl) (fun _ _ _ h => h) (Or.inl ⟨by rfl, ?_⟩) hHeld ?_
      rotate_left 1
      · (intro w hSw; (try dsimp only at hSw); go_simp <;> with_reducible rfl)
      simp only [Act.put, List.setIfInBounds_toArray, List.set_cons_zero, List.set_cons_succ]
      refine wpAnyH_take (i := 5) (oi := { dst := some 17, op := Go.Op.load 39 (Go.Operand.tmp 7), type := 39, pos := "branch.go:101", after := #[{ on := 4, ground := Go.Ground.guard }], guard := some (4, false) }) (v := undef) rfl (by kernel_rfl) (by kernel_rfl) (by kernel_rfl) (fun _ _ _ h => h) (Or.inr ⟨by rfl, rfl⟩) hHeld ?_
      simp only [Act.put, List.setIfInBounds_toArray, List.set_cons_zero, List.set_cons_succ]
      refine wpAnyH_take (i := 6) (oi := { dst := some 18, op := Go.Op.load 22 (Go.Operand.tmp 3), type := 22, pos := "branch.go:101", after := #[{ on := 4, ground := Go.Ground.guard }], guard := some (4, false) }) (v := undef) rfl (by kernel_rfl) (by kernel_rfl) (by kernel_rfl) (fun _ _ _ h => h) (Or.inr ⟨by rfl, rfl⟩) hHeld ?_
      simp only [Act.put, List.setIfInBounds_toArray, List.set_cons_zero, List.set_cons_succ]
      refine wpAnyH_take (i := 7) (oi := { dst := some 19, op := Go.Op.move (Go.Operand.tmp 6), type := 3, pos := "branch.go:101", after := #[{ on := 4, ground := Go.Ground.guard }], guard := some (4, false) }) (v := undef) rfl (by kernel_rfl) (by kernel_rfl) (by kernel_rfl) (fun _ _ _ h => h) (Or.inr ⟨by rfl, rfl⟩) hHeld ?_
      simp only [Act.put, List.setIfInBounds_toArray, List.set_cons_zero, List.set_cons_succ]
      refine wpAnyH_take (i := 8) (oi := { dst := some 20, op := Go.Op.binOp Go.BinOp.sub 3 (Go.Operand.tmp 19) (Go.Operand.const (Go.Value.int Go.IntKind.i64 1)) 3, type := 3, pos := "branch.go:101", after := #[{ on := 7, ground := Go.Ground.data }, { on := 4, ground := Go.Ground.guard }], guard := some (4, false) }) (v := undef) rfl (by kernel_rfl) (by kernel_rfl) (by kernel_rfl) (fun _ _ _ h => h) (Or.inr ⟨by rfl, rfl⟩) hHeld ?_
      simp only [Act.put, List.setIfInBounds_toArray, List.set_cons_zero, List.set_cons_succ]
      refine wpAnyH_take (i := 9) (oi := { dst := some 21, op := Go.Op.indexAddr 22 (Go.Operand.tmp 18) (Go.Operand.tmp 20), type := 0, pos := "branch.go:101", after := #[{ on := 6, ground := Go.Ground.data }, { on := 8, ground := Go.Ground.data }, { on := 4, ground := Go.Ground.guard }], guard := some (4, false) }) (v := undef) rfl (by kernel_rfl) (by kernel_rfl) (by kernel_rfl) (fun _ _ _ h => h) (Or.inr ⟨by rfl, rfl⟩) hHeld ?_
      simp only [Act.put, List.setIfInBounds_toArray, List.set_cons_zero, List.set_cons_succ]
      refine wpAnyH_take (i := 10) (oi := { dst := some 22, op := Go.Op.load 39 (Go.Operand.tmp 21), type := 39, pos := "branch.go:101", after := #[{ on := 9, ground := Go.Ground.data }, { on := 4, ground := Go.Ground.guard }], guard := some (4, false) }) (v := undef) rfl (by kernel_rfl) (by kernel_rfl) (by kernel_rfl) (fun _ _ _ h => h) (Or.inr ⟨by rfl, rfl⟩) hHeld ?_
      simp only [Act.put, List.setIfInBounds_toArray, List.set_cons_zero, List.set_cons_succ]
      refine wpAnyH_take (i := 11) (oi := { dst := some 23, op := Go.Op.call { callee := Go.Callee.value (Go.Operand.func 30), args := #[Go.Operand.tmp 17, Go.Operand.tmp 22], argTypes := #[39, 39] }, type := 4, pos := "branch.go:101", after := #[{ on := 5, ground := Go.Ground.data }, { on := 10, ground := Go.Ground.data }, { on := 4, ground := Go.Ground.chain }, { on := 4, ground := Go.Ground.guard }], guard := some (4, false) }) (v := undef) rfl (by kernel_rfl) (by kernel_rfl) (by kernel_rfl) (fun _ _ _ h => h) (Or.inr ⟨by rfl, rfl⟩) hHeld ?_
      simp only [Act.put, List.setIfInBounds_toArray, List.set_cons_zero, List.set_cons_succ]
      refine wpAnyH_take (i := 12) (oi := { dst := some 24, op := Go.Op.unOp Go.UnOp.not 4 (Go.Operand.tmp 23), type := 4, pos := "branch.go:101", after := #[{ on := 11, ground := Go.Ground.data }, { on := 4, ground := Go.Ground.guard }], guard := some (4, false) }) (v := undef) rfl (by kernel_rfl) (by kernel_rfl) (by kernel_rfl) (fun _ _ _ h => h) (Or.inr ⟨by rfl, rfl⟩) hHeld ?_
      simp only [Act.put, List.setIfInBounds_toArray, List.set_cons_zero, List.set_cons_succ]
      refine wpAnyH_take (i := 13) (oi := { dst := some 25, op := Go.Op.pick (Go.Operand.tmp 16) (Go.Operand.const (Go.Value.bool true)) (Go.Operand.tmp 24), type := 4, pos := "branch.go:101", after := #[{ on := 4, ground := Go.Ground.data }, { on := 12, ground := Go.Ground.data }], guard := none }) (v := ?_) rfl (by kernel_rfl) (by kernel_rfl) (by kernel_rfl) (fun _ _ _ h => h) (Or.inl ⟨by rfl, ?_⟩) hHeld ?_
      rotate_left 1
      · (intro w hSw; (try dsimp only at hSw); go_simp <;> with_reducible rfl)
      simp only [Act.put, List.setIfInBounds_toArray, List.set_cons_zero, List.set_cons_succ]
      refine wpAnyH_done (by kernel_rfl) ?_ _
      gi_wp2
      obtain ⟨x1, x2, x3⟩ := HX.out _ (Below.refl _ W).drew
      exact ⟨x1 _, ⟨by rw [List.dropLast_concat]; exact x2, rfl, pre, x, rfl, HU.out, by rw [← HZ.out.1]; first | exact HQ.out | exact fun h1 h2 => HQ.out ⟨h1, h2⟩⟩, x3⟩
  case done =>
    rintro D zs' W hD rfl ⟨⟨hv, hu⟩, hB⟩ hK
    have hc := hv.cell
    rw [lst_range] at hc
    gi_wp2
    refine ⟨by simp, .inl ⟨_, _, rfl, run_takeDeferred hK, ?_⟩⟩
    rw [HZ.out.2.1] at hu
    exact ⟨_, results_tmp rfl _ _ _, ⟨N, rfl, by rw [HZ.out.2.1]; exact isC_all hu⟩, (HB1.out.trans (hB.mono (by omega))).trans (belowK_b (w := w) (Nat.le_refl _) W D _ _ (by simp at hD; omega) hK rfl rfl)⟩
  case stop =>
    rintro D cc pre W hD hpre ⟨⟨hv, rfl, p, x, rfl, hu, hx⟩, hB⟩ hK
    have hc := hv.cell
    rw [HZ.out.2.1] at hpre
    obtain ⟨k, hk, hC⟩ := isC_stop hu hx hpre
    rw [List.dropLast_concat, hk, lst_range] at hc
    gi_wp2
    refine ⟨by simp, .inl ⟨_, _, rfl, run_takeDeferred hK, ?_⟩⟩
    exact ⟨_, results_tmp rfl _ _ _, ⟨k, rfl, hC⟩, (HB1.out.trans (hB.mono (by omega))).trans (belowK_b (w := w) (Nat.le_refl _) W D _ _ (by simp at hD; omega) hK rfl rfl)⟩
end Go.Proofs.Ytacmlholbnddpaa
