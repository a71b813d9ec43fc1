/- The contracts of After and Fork. -/
import Derived.Test.YtdlllehoeodekaaF
namespace Go.Proofs.Ytdlllehoeodekaa
open Go.ChangeAt Go.ChangeShapes Go.Deep Go.RowKit Go.WideShapes Go.Shelf
attribute [local go_sem] Oper.semAt_some
def ze : Ev := ⟨0, 0, 0, 0, ⟨#[]⟩, .mk 0 0 0 ⟨#[]⟩ [], 0, 0, 0⟩
def ex (ys : List Ev) (i : Nat) : Ev := ys.getD i ze
/-- The cells hs are the events ys, of which no list is too long. -/
structure Hh (w : World) (N : Nat) (a : Option Addr) (hs : List Rw) (ys : List Ev) : Prop where
  len : hs.length = ys.length
  row : RowE w a hs
  isE : ∀ i, IsE w N (rx hs i) (ex ys i)
  sml : ∀ i, SmallW (N + 1) (ex ys i).v
theorem Hh.below {w w' : World} {N : Nat} {a : Option Addr} {hs : List Rw} {ys : List Ev} (h : Hh w N a hs ys) (hb : Below w.heap.size w w') : Hh w' N a hs ys := ⟨h.len, h.row.below hb, fun i => (h.isE i).below hb, h.sml⟩
/-- What stands behind a clone. -/
def ColP (Bo N : Nat) (W : World) (v : Value) (ys : List Ev) (e : Ending) (w1 : World) : Prop :=
  ∃ (r' : Rw) (k : Nat) (a' : Option Addr) (c' : Nat) (w2 : World), e = .returned (.agg #[.int .i64 r'.k, .int .i64 r'.t, .int .i64 r'.n, .int .i64 r'.d, .string r'.s, .int .i64 r'.vk, .int .i64 r'.vx, .int .u64 r'.vb, .string r'.vs, .slice r'.la r'.ll r'.lc, .int .i64 r'.f, .int .u64 (r'.c : Int), .int .i64 r'.m]) ∧ w1.cell? ⟨Bo, 0, none⟩ = some v ∧ (∀ ty, (Builtin.append_ #[22, 22] ty #[v, .slice (some ⟨w1.heap.size, 0, none⟩) 1 1]).run Try.prog (w1.alloc (.cells #[.int .i64 r'.k, .int .i64 r'.t, .int .i64 r'.n, .int .i64 r'.d, .string r'.s, .int .i64 r'.vk, .int .i64 r'.vx, .int .u64 r'.vb, .string r'.vs, .slice r'.la r'.ll r'.lc, .int .i64 r'.f, .int .u64 (r'.c : Int), .int .i64 r'.m] 38)) = .ok (.slice a' k c') w2) ∧ w2.cell? ⟨Bo, 0, none⟩ = some v ∧ w2.frozen? ⟨Bo, 0, none⟩ = false ∧ Hid (Bg Bo N W (w2.setCell ⟨Bo, 0, none⟩ (.slice a' k c')) (.slice a' k c') ys)
theorem col_calls (N Bo : Nat) (r : Rw) (y : Ev) (W W0 : World) (v : Value) (ys : List Ev) (hE : IsE W N r y) (hsm : SmallW (N + 1) y.v) (hv : Boxed W Bo 22 v) (hes : Es Bo N W v ys) (hlen : ys.length ≤ 1000) (hW0 : Below W.heap.size W W0) :
    Calls Try.prog 22 #[.agg #[.int .i64 r.k, .int .i64 r.t, .int .i64 r.n, .int .i64 r.d, .string r.s, .int .i64 r.vk, .int .i64 r.vx, .int .u64 r.vb, .string r.vs, .slice r.la r.ll r.lc, .int .i64 r.f, .int .u64 (r.c : Int), .int .i64 r.m]] W0 (ColP Bo N W v (ys ++ [y])) := by
  obtain ⟨tv, rfl, hi⟩ := hE
  refine (evclone_calls N tv r.k r.t r.n r.d r.s r.vk r.vx r.vb r.vs r.la r.ll r.lc r.f r.c r.m W0 (hi.below hW0) hsm).mono ?_
  rintro e w1 ⟨vk2, vx2, vb2, vs2, la2, ll2, lc2, rfl, hiN, hb⟩
  obtain ⟨a', c', w2, h1, h2, h3, h4, h5⟩ := col_app N Bo ⟨r.k, r.t, r.n, r.d, r.s, vk2, vx2, vb2, vs2, la2, ll2, lc2, r.f, r.c, r.m⟩ tv (r.ev tv) W0.heap.size W w1 v ys hv hes hlen hW0.size (bel2 hW0 hb) rfl hiN
  exact ⟨⟨r.k, r.t, r.n, r.d, r.s, vk2, vx2, vb2, vs2, la2, ll2, lc2, r.f, r.c, r.m⟩, _, a', c', w2, rfl, h1, h2, h3, h4, h5⟩
theorem col_own (Bo N : Nat) (f : List Nat → List Ev) : Own (fun (pre : List Nat) W => ∃ v, Boxed W Bo 22 v ∧ Es Bo N W v (f pre)) := fun pre X Y row hs hg hr => by
  obtain ⟨v, hv, he⟩ := hs
  exact ⟨v, boxed_own Bo 22 (fun (_ : Unit) => v) () X Y row hv hg hr, es_own Bo N (fun (_ : Unit) => v) (fun _ => f pre) () X Y row he hg hr⟩
/-- The events of the kind behind id. -/
def aft (ys : List Ev) (id kind : Int) (pre : List Nat) : List Ev := (pre.filter fun (i : Nat) => decide (id < (i : Int) + 1 ∧ (ex ys i).k = kind)).map (ex ys)
theorem aft_hit (ys : List Ev) (id kind : Int) (pre : List Nat) {x : Nat} (h : id < (x : Int) + 1 ∧ (ex ys x).k = kind) : aft ys id kind (pre ++ [x]) = aft ys id kind pre ++ [ex ys x] := by simp [aft, h]
theorem aft_miss (ys : List Ev) (id kind : Int) (pre : List Nat) {x : Nat} (h : ¬ (id < (x : Int) + 1 ∧ (ex ys x).k = kind)) : aft ys id kind (pre ++ [x]) = aft ys id kind pre := by simp only [aft, List.filter_append, List.filter_cons, List.filter_nil, decide_eq_false h]; simp
theorem aft_len (ys : List Ev) (id kind : Int) (pre : List Nat) : (aft ys id kind pre).length ≤ pre.length := by
  unfold aft
  rw [List.length_map]
  exact List.length_filter_le _ _
theorem isE_k {w : World} {N : Nat} {r : Rw} {y : Ev} (h : IsE w N r y) : r.k = y.k := by
  obtain ⟨tv, rfl, _⟩ := h
  rfl
theorem es_put {W : World} {Bo N : Nat} {v : Value} {ys : List Ev} (h : Es Bo N W v ys) {l : Nat} {o : Obj} (o' : Obj) (hl : W.heap[l]? = some o) (ho : o.isCells = false) : Es Bo N (W.putObj l o') v ys :=
  es_own Bo N (fun (_ : Unit) => v) (fun _ => ys) () W (W.putObj l o') (some l) h (grownBy_putObj' W l o') (fun r e => by cases e; exact ⟨o, hl, ho⟩)
theorem fin_after {Bo N B0 : Nat} {w1 W W' : World} {v' : Value} {f : List Nat → List Ev} {pre : List Nat} {x : Nat} {zs : List Ev} (h : Bg Bo N W W' v' zs) (hB : Below w1.heap.size w1 W) (hs : w1.heap.size = Bo) (hf : f (pre ++ [x]) = zs) :
    KeepsFrom B0 W W' ∧ Below w1.heap.size W W' ∧ (∃ v, Boxed W' Bo 22 v ∧ Es Bo N W' v (f (pre ++ [x]))) ∧ Below w1.heap.size w1 W' := by
  have hb : Below w1.heap.size W W' := by rw [hs]; exact h.2.1
  exact ⟨h.1.from _, hb, ⟨v', h.2.2.1, by rw [hf]; exact h.2.2.2⟩, hB.trans hb⟩
set_option maxRecDepth 100000 in
set_option maxHeartbeats 4000000 in
theorem after_in (n : Nat) (hn : 4 ≤ n) (a : Option Addr) (c NN : Nat) (hs : List Rw) (ys : List Ev) (N : Nat) (hN : hs.length = N) (hl : N ≤ 200) (id kind : Int) (w : World) (hH : Hh w NN a hs ys) :
    CallsIn Fence.wide n Try.prog 16 #[.slice a N c, .int .i64 id, .int .i64 kind] w fun e W' => ∃ v, e = .returned v ∧ Es (w.heap.size + 1 + 1) NN W' v (aft ys id kind (List.range N)) ∧ Below w.heap.size w W' := by
  have h1 : 1 ≤ n := by omega
  have hmix : Try.prog.follows .mixedOrders = true := by kernel_rfl
  refine callsIn_of_wp_marks Try.func16 rfl trivial ?_ rfl
  simp only [Try.ntmps16, List.size_toArray, List.length_cons, List.length_nil, Nat.reduceAdd, Nat.reduceSub, Array.replicate_succ, Array.replicate_zero, List.push_toArray, List.append_toArray, List.nil_append, List.cons_append]
  gi_wp2_with (refine ⟨trivial, ?_⟩; gi_at_call 20; refine (numbered_in (n - 1) _ _ _ _).mono ?_; rintro e w' ⟨rfl, rfl⟩)
  obtain ⟨w1, hw1⟩ : ∃ w1, w1 = (w.alloc (.cells #[.int .i64 id] 3)).alloc (.cells #[.int .i64 kind] 3) := ⟨_, rfl⟩
  have hs1 : w1.heap.size = w.heap.size + 1 + 1 := by rw [hw1]; simp
  have hb1 : Below w.heap.size w w1 := by rw [hw1]; exact bel2 (bel1 _ _) (bel1 _ _)
  have bI : w1.cell? ⟨w.heap.size, 0, none⟩ = some (.int .i64 id) := by rw [hw1]; exact ((Boxed.new w 3 (.int .i64 id)).alloc _).cell
  have bK : w1.cell? ⟨w.heap.size + 1, 0, none⟩ = some (.int .i64 kind) := by
    have := (Boxed.new (w.alloc (.cells #[.int .i64 id] 3)) 3 (.int .i64 kind)).cell
    rw [World.size_alloc, ← hw1] at this
    exact this
  rw [← hw1]
  clear hw1
  have bO := Boxed.new w1 22 (.slice none 0 0)
  have bN := Boxed.new (w1.alloc (.cells #[.slice none 0 0] 22)) 22 (.slice a N c)
  rw [World.size_alloc] at bN
  have hB0 : Below w1.heap.size w1 ((w1.alloc (.cells #[.slice none 0 0] 22)).alloc (.cells #[.slice a N c] 22)) := ((Below.refl _ w1).alloc (Nat.le_refl _) _).alloc (by simp) _
  have HH1 : Hid (Hh w1 NN a hs ys) := hH.below hb1
  have HB1 : Hid (Below w.heap.size w w1) := hb1
  rw [hs1] at bO bN
  have HS1 : Hid (w1.heap.size = w.heap.size + 1 + 1) := hs1
  clear hH hb1
  refine wpIn_rangeFunc_ownH rfl h1 (gf := 24) (lb := #[.pointer (some ⟨w.heap.size + 1 + 1 + 1, 0, none⟩)]) rfl trivial (enters_of Try.func24 (by kernel_rfl) rfl)
    (num_stops (n - 1) (by omega) (w.heap.size + 1 + 1 + 1) w1 a c hs N hN hl _ (by simp; omega) hB0 bN.cell HH1.out.row) belowK_t (belowK_b (by simp; omega)) (Below.refl _ _) (fun _ => rfl)
    (fun pre W => (∃ v, Boxed W (w.heap.size + 1 + 1) 22 v ∧ Es (w.heap.size + 1 + 1) NN W v (aft ys id kind pre)) ∧ Below w1.heap.size w1 W)
    (fun _ _ _ => False)
    (OwnFrom.and (Own.from (col_own _ _ _) _) (ownFrom_below (Nat.le_refl _) (by simp; omega)))
    (fun _ _ _ _ _ hs _ _ => hs)
    ⟨⟨_, bO.alloc _, Es.nil _ _ _⟩, hB0⟩
    (fun x a' W => ∃ Bx, w.heap.size + 1 < Bx ∧ Bx13 W Bx (rx hs x) ∧ a' = { tmps := #[.slice a N c, .int .i64 id, .int .i64 kind, undef, .pointer (some ⟨w.heap.size, 0, none⟩), .pointer (some ⟨w.heap.size + 1, 0, none⟩), .slice none 0 0, .pointer (some ⟨w.heap.size + 1 + 1, 0, none⟩), .int .i64 ((x : Int) + 1), .pointer (some ⟨Bx, 0, none⟩), .slice a N c, .func (.func 24) #[] #[.pointer (some ⟨w.heap.size + 1 + 1 + 1, 0, none⟩)], .int .i64 ((x : Int) + 1), .agg #[.int .i64 (rx hs x).k, .int .i64 (rx hs x).t, .int .i64 (rx hs x).n, .int .i64 (rx hs x).d, .string (rx hs x).s, .int .i64 (rx hs x).vk, .int .i64 (rx hs x).vx, .int .u64 (rx hs x).vb, .string (rx hs x).vs, .slice (rx hs x).la (rx hs x).ll (rx hs x).lc, .int .i64 (rx hs x).f, .int .u64 ((rx hs x).c : Int), .int .i64 (rx hs x).m], undef, undef, undef, undef, undef, undef, undef, undef, undef, undef, undef, undef, undef, undef, undef], defers := [] })
    (fun x a' _ X Y row hs hg hr => by obtain ⟨Bx, h1, h2, h3⟩ := hs; exact ⟨Bx, h1, bx13_own Bx _ () X Y row h2 hg (fun r e => (hr r e).2), h3⟩)
    ?assign ?body ?done ?stop
  case assign =>
    rintro l pre x W K ⟨⟨v, hv, hes⟩, hB⟩ hK
    simp only [encE, Rw.val]
    gi_wp2
    exact hK _ _ ((KeepsOthers.alloc _ _).from _) ((Below.refl _ W).alloc hB.size _) ⟨⟨v, hv.alloc _, hes.below (bel1 _ _)⟩, hB.alloc hB.size _⟩ ⟨W.heap.size, by have := hv.lt; omega, Bx13.new W _, rfl⟩
  case body =>
    rintro l pre x a' W _ _ ⟨⟨v, hv, hes⟩, hB⟩ ⟨Bx, hBx, bX, rfl⟩ hlt
    have hc := hv.cell
    have hpl := aft_len ys id kind pre
    have hBW : Below w1.heap.size w1 W := hB
    have hn2 : 1 ≤ n - 1 - 1 := by omega
    have hEx := ((HH1.out.isE x).below hBW)
    have hke := isE_k hEx
    have C0 : Hid (∀ W0, Below W.heap.size W W0 → Calls Try.prog 22 #[.agg #[.int .i64 (rx hs x).k, .int .i64 (rx hs x).t, .int .i64 (rx hs x).n, .int .i64 (rx hs x).d, .string (rx hs x).s, .int .i64 (rx hs x).vk, .int .i64 (rx hs x).vx, .int .u64 (rx hs x).vb, .string (rx hs x).vs, .slice (rx hs x).la (rx hs x).ll (rx hs x).lc, .int .i64 (rx hs x).f, .int .u64 ((rx hs x).c : Int), .int .i64 (rx hs x).m]] W0 (ColP (w.heap.size + 1 + 1) NN W v (aft ys id kind pre ++ [ex ys x]))) := fun W0 hW0 => col_calls NN _ (rx hs x) (ex ys x) W W0 v _ hEx (HH1.out.sml x) hv hes (by omega) hW0
    obtain ⟨x0, x1, x2, x3, x4, x5, x6, x7, x8, x9, x10, x11, x12⟩ := bX.at
    have xI : W.cell? ⟨w.heap.size, 0, none⟩ = some (.int .i64 id) := (hB.cell (p := ⟨w.heap.size, 0, none⟩) (by show w.heap.size < _; omega)).trans bI
    have xK : W.cell? ⟨w.heap.size + 1, 0, none⟩ = some (.int .i64 kind) := (hB.cell (p := ⟨w.heap.size + 1, 0, none⟩) (by show w.heap.size + 1 < _; omega)).trans bK
    have HV : Hid (Boxed W (w.heap.size + 1 + 1) 22 v) := hv
    have HE : Hid (Es (w.heap.size + 1 + 1) NN W v (aft ys id kind pre)) := hes
    have HK : Hid ((rx hs x).k = (ex ys x).k) := hke
    have HB : Hid (Below w1.heap.size w1 W) := hB
    clear hEx hke hv hes hs1 hB hBW
    by_cases hd : id < (x : Int) + 1
    · by_cases hk : (rx hs x).k = kind
      · have hk' : ((rx hs x).k == kind) = true := by simpa using hk
        have HK2 : Hid ((rx hs x).k = kind) := hk
        clear hk
        gi_wp2
        refine wpIn_region_any hmix ?_
        change wpAnyIn _ _ _ _ _ _ _ _ _ (World.drew _)
        refine wpAnyIn_ready (rs := [0, 1]) (by kernel_rfl) (by simp) ?_
        refine AllReadyIn.cons rfl (fun K hK => ?_) ?_
        · go_simp
          refine hK _ _ ?_
          clear hK K
          refine wpAnyIn_ready (rs := [1]) (by kernel_rfl) (by simp) ?_
          refine AllReadyIn.cons rfl (fun K hK => ?_) ?_
          · go_simp
            refine hK _ _ ?_
            clear hK K
            refine wpAnyIn_ready (rs := [2]) (by kernel_rfl) (by simp) ?_
            refine AllReadyIn.cons rfl (fun K hK => ?_) ?_
            · gi_wp2_with (refine ⟨trivial, ?_⟩; gi_at_call 22; refine (CallsIn.inRound l (callsIn_wide.2 (C0.out _ ?_))).mono ?_; (exact (Below.refl _ _).drew); rintro e w2 ⟨r', k', a', c', w3, rfl, hx1, hx2, hx3, hx4, HBG⟩)
              clear C0 hc
              have hxa : ∀ o, (w2.alloc o).cell? ⟨w.heap.size + 1 + 1, 0, none⟩ = some v := fun o => cellB hx1 (bel1 _ _)
              refine wpAnyIn_ready (rs := [3]) (by kernel_rfl) (by simp) ?_
              refine AllReadyIn.cons rfl (fun K hK => ?_) ?_
              · go_simp
                refine hK _ _ ?_
                clear hK K
                refine wpAnyIn_ready (rs := [4]) (by kernel_rfl) (by simp) ?_
                refine AllReadyIn.cons rfl (fun K hK => ?_) ?_
                · refine step_append_runIn rfl (.tmp 23) (.tmp 26) 22 rfl _ _ rfl rfl _ _ hx2 ?_
                  refine hK _ _ ?_
                  clear hK K hx2
                  go_simp
                  refine wpAnyIn_ready (rs := [5]) (by kernel_rfl) (by simp) ?_
                  refine AllReadyIn.cons rfl (fun K hK => ?_) ?_
                  · go_simp
                    refine hK _ _ ?_
                    clear hK K
                    refine wpAnyIn_done (by kernel_rfl) ?_ _
                    go_simp
                    exact fin_after (f := aft ys id kind) HBG.out HB.out HS1.out (aft_hit ys id kind pre ⟨hd, by rw [← HK.out]; exact HK2.out⟩)
                  exact AllReadyIn.nil
                exact AllReadyIn.nil
              exact AllReadyIn.nil
            exact AllReadyIn.nil
          exact AllReadyIn.nil
        refine AllReadyIn.cons rfl (fun K hK => ?_) ?_
        · go_simp
          refine hK _ _ ?_
          clear hK K
          refine wpAnyIn_ready (rs := [0, 2]) (by kernel_rfl) (by simp) ?_
          refine AllReadyIn.cons rfl (fun K hK => ?_) ?_
          · go_simp
            refine hK _ _ ?_
            clear hK K
            refine wpAnyIn_ready (rs := [2]) (by kernel_rfl) (by simp) ?_
            refine AllReadyIn.cons rfl (fun K hK => ?_) ?_
            · gi_wp2_with (refine ⟨trivial, ?_⟩; gi_at_call 22; refine (CallsIn.inRound l (callsIn_wide.2 (C0.out _ ?_))).mono ?_; (exact (Below.refl _ _).drew); rintro e w2 ⟨r', k', a', c', w3, rfl, hx1, hx2, hx3, hx4, HBG⟩)
              clear C0 hc
              have hxa : ∀ o, (w2.alloc o).cell? ⟨w.heap.size + 1 + 1, 0, none⟩ = some v := fun o => cellB hx1 (bel1 _ _)
              refine wpAnyIn_ready (rs := [3]) (by kernel_rfl) (by simp) ?_
              refine AllReadyIn.cons rfl (fun K hK => ?_) ?_
              · go_simp
                refine hK _ _ ?_
                clear hK K
                refine wpAnyIn_ready (rs := [4]) (by kernel_rfl) (by simp) ?_
                refine AllReadyIn.cons rfl (fun K hK => ?_) ?_
                · refine step_append_runIn rfl (.tmp 23) (.tmp 26) 22 rfl _ _ rfl rfl _ _ hx2 ?_
                  refine hK _ _ ?_
                  clear hK K hx2
                  go_simp
                  refine wpAnyIn_ready (rs := [5]) (by kernel_rfl) (by simp) ?_
                  refine AllReadyIn.cons rfl (fun K hK => ?_) ?_
                  · go_simp
                    refine hK _ _ ?_
                    clear hK K
                    refine wpAnyIn_done (by kernel_rfl) ?_ _
                    go_simp
                    exact fin_after (f := aft ys id kind) HBG.out HB.out HS1.out (aft_hit ys id kind pre ⟨hd, by rw [← HK.out]; exact HK2.out⟩)
                  exact AllReadyIn.nil
                exact AllReadyIn.nil
              exact AllReadyIn.nil
            exact AllReadyIn.nil
          refine AllReadyIn.cons rfl (fun K hK => ?_) ?_
          · gi_wp2_with (refine ⟨trivial, ?_⟩; gi_at_call 22; refine (CallsIn.inRound l (callsIn_wide.2 (C0.out _ ?_))).mono ?_; (exact (Below.refl _ _).drew); rintro e w2 ⟨r', k', a', c', w3, rfl, hx1, hx2, hx3, hx4, HBG⟩)
            clear C0 hc
            have hxa : ∀ o, (w2.alloc o).cell? ⟨w.heap.size + 1 + 1, 0, none⟩ = some v := fun o => cellB hx1 (bel1 _ _)
            refine wpAnyIn_ready (rs := [0, 3]) (by kernel_rfl) (by simp) ?_
            refine AllReadyIn.cons rfl (fun K hK => ?_) ?_
            · go_simp
              refine hK _ _ ?_
              clear hK K
              refine wpAnyIn_ready (rs := [3]) (by kernel_rfl) (by simp) ?_
              refine AllReadyIn.cons rfl (fun K hK => ?_) ?_
              · go_simp
                refine hK _ _ ?_
                clear hK K
                refine wpAnyIn_ready (rs := [4]) (by kernel_rfl) (by simp) ?_
                refine AllReadyIn.cons rfl (fun K hK => ?_) ?_
                · refine step_append_runIn rfl (.tmp 23) (.tmp 26) 22 rfl _ _ rfl rfl _ _ hx2 ?_
                  refine hK _ _ ?_
                  clear hK K hx2
                  go_simp
                  refine wpAnyIn_ready (rs := [5]) (by kernel_rfl) (by simp) ?_
                  refine AllReadyIn.cons rfl (fun K hK => ?_) ?_
                  · go_simp
                    refine hK _ _ ?_
                    clear hK K
                    refine wpAnyIn_done (by kernel_rfl) ?_ _
                    go_simp
                    exact fin_after (f := aft ys id kind) HBG.out HB.out HS1.out (aft_hit ys id kind pre ⟨hd, by rw [← HK.out]; exact HK2.out⟩)
                  exact AllReadyIn.nil
                exact AllReadyIn.nil
              exact AllReadyIn.nil
            refine AllReadyIn.cons rfl (fun K hK => ?_) ?_
            · go_simp
              refine hK _ _ ?_
              clear hK K
              refine wpAnyIn_ready (rs := [0]) (by kernel_rfl) (by simp) ?_
              refine AllReadyIn.cons rfl (fun K hK => ?_) ?_
              · go_simp
                refine hK _ _ ?_
                clear hK K
                refine wpAnyIn_ready (rs := [4]) (by kernel_rfl) (by simp) ?_
                refine AllReadyIn.cons rfl (fun K hK => ?_) ?_
                · refine step_append_runIn rfl (.tmp 23) (.tmp 26) 22 rfl _ _ rfl rfl _ _ hx2 ?_
                  refine hK _ _ ?_
                  clear hK K hx2
                  go_simp
                  refine wpAnyIn_ready (rs := [5]) (by kernel_rfl) (by simp) ?_
                  refine AllReadyIn.cons rfl (fun K hK => ?_) ?_
                  · go_simp
                    refine hK _ _ ?_
                    clear hK K
                    refine wpAnyIn_done (by kernel_rfl) ?_ _
                    go_simp
                    exact fin_after (f := aft ys id kind) HBG.out HB.out HS1.out (aft_hit ys id kind pre ⟨hd, by rw [← HK.out]; exact HK2.out⟩)
                  exact AllReadyIn.nil
                exact AllReadyIn.nil
              exact AllReadyIn.nil
            exact AllReadyIn.nil
          exact AllReadyIn.nil
        exact AllReadyIn.nil
      · have hk' : ((rx hs x).k == kind) = false := by simpa using hk
        have HK2 : Hid (¬ (rx hs x).k = kind) := hk
        clear hk
        gi_wp2
        exact ⟨KeepsFrom.refl _ _, Below.refl _ _, ⟨v, HV.out, by rw [aft_miss ys id kind pre (fun h => HK2.out (by rw [HK.out]; exact h.2))]; exact HE.out⟩, HB.out⟩
    · gi_wp2
      exact ⟨KeepsFrom.refl _ _, Below.refl _ _, ⟨v, HV.out, by rw [aft_miss ys id kind pre (fun h => by have := h.1; omega)]; exact HE.out⟩, HB.out⟩
  case done =>
    rintro D ys W hD rfl ⟨⟨v, hv, hes⟩, hB⟩ hK
    have hc := hv.cell
    gi_wp2
    refine ⟨by simp, .inl ⟨_, _, rfl, run_takeDeferred hK, ?_⟩⟩
    exact ⟨_, results_tmp rfl _ _ _, v, rfl, es_put hes _ hK rfl, (HB1.out.trans (hB.mono (by omega))).trans (belowK_b (w := w) (Nat.le_refl _) W D _ _ (by simp at hD; omega) hK rfl rfl)⟩
  case stop =>
    rintro D c pre W _ _ h _
    exact h.elim
end Go.Proofs.Ytdlllehoeodekaa
