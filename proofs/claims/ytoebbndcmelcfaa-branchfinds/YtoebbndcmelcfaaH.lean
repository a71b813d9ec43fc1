/- The contract of Fork. -/
import Derived.Test.YtoebbndcmelcfaaG
namespace Go.Proofs.Ytoebbndcmelcfaa
open Go.ChangeAt Go.ChangeShapes Go.Deep Go.RowKit Go.WideShapes Go.Shelf
attribute [local go_sem] Oper.semAt_some
/-- All these numbers are at most keep. -/
def upto (keep : Int) (pre : List Nat) : Prop := ∀ i ∈ pre, (i : Int) + 1 ≤ keep
theorem fin_fork {Bo N B0 : Nat} {w1 W W' : World} {v' : Value} {ys zs : List Ev} {pre : List Nat} {x : Nat} {keep : Int} (h : Bg Bo N W W' v' zs) (hB : Below w1.heap.size w1 W) (hs : w1.heap.size = Bo) (hx : Hid (upto keep (pre ++ [x]))) (hf : (pre ++ [x]).map (ex ys) = zs) :
    KeepsFrom B0 W W' ∧ Below w1.heap.size W W' ∧ ((∃ v, Boxed W' Bo 22 v ∧ Es Bo N W' v ((pre ++ [x]).map (ex ys))) ∧ upto keep (pre ++ [x])) ∧ Below w1.heap.size w1 W' := by
  have hb : Below w1.heap.size W W' := by rw [hs]; exact h.2.1
  exact ⟨h.1.from _, hb, ⟨⟨v', h.2.2.1, by rw [hf]; exact h.2.2.2⟩, hx.out⟩, hB.trans hb⟩
/-- How many of N events a fork has. -/
def nk (keep : Int) (N : Nat) : Nat := (min (max keep 0) (N : Int)).toNat
theorem upto_all {keep : Int} {N : Nat} (h : upto keep (List.range N)) : nk keep N = N := by
  unfold nk
  cases N with
  | zero => omega
  | succ N =>
    have := h N (by simp)
    omega
theorem upto_stop {keep : Int} {N : Nat} {p : List Nat} {x : Nat} (h : upto keep p) (hx : keep < (x : Int) + 1) (hp : p ++ [x] <+: List.range N) : p = List.range (nk keep N) := by
  have hl : p.length + 1 ≤ N := by have := hp.length_le; simpa using this
  have e := List.prefix_iff_eq_take.1 hp
  rw [List.length_append, List.length_singleton, List.take_range, Nat.min_eq_left hl, List.range_succ] at e
  obtain ⟨e1, e2⟩ := List.append_inj e (by simp)
  have ex : x = p.length := by simpa using e2
  have : nk keep N = p.length := by
    unfold nk
    rw [ex] at hx
    by_cases h0 : p.length = 0
    · omega
    · have hm : p.length - 1 ∈ p := by rw [e1]; simp; omega
      have := h _ hm
      omega
  rw [this]
  exact e1
set_option maxRecDepth 100000 in
set_option maxHeartbeats 4000000 in
theorem fork_in (n : Nat) (hn : 4 ≤ n) (a : Option Addr) (c NN : Nat) (hs : List Rw) (ys : List Ev) (N : Nat) (hN : hs.length = N) (hl : N ≤ 200) (keep : Int) (w : World) (hH : Hh w NN a hs ys) :
    CallsIn Fence.wide n Try.prog 9 #[.slice a N c, .int .i64 keep] w fun e W' => ∃ v, e = .returned v ∧ Es (w.heap.size + 1) NN W' v ((List.range (nk keep N)).map (ex ys)) ∧ Below w.heap.size w W' := by
  have h1 : 1 ≤ n := by omega
  have hmix : Try.prog.follows .mixedOrders = true := by kernel_rfl
  refine callsIn_of_wp_marks Try.func9 rfl trivial ?_ rfl
  simp only [Try.ntmps9, List.size_toArray, List.length_cons, List.length_nil, Nat.reduceAdd, Nat.reduceSub, Array.replicate_succ, Array.replicate_zero, List.push_toArray, List.append_toArray, List.nil_append, List.cons_append]
  gi_wp2_with (refine ⟨trivial, ?_⟩; gi_at_call 21; refine (numbered_in (n - 1) _ _ _ _).mono ?_; rintro e w' ⟨rfl, rfl⟩)
  obtain ⟨w1, hw1⟩ : ∃ w1, w1 = w.alloc (.cells #[.int .i64 keep] 3) := ⟨_, rfl⟩
  have hs1 : w1.heap.size = w.heap.size + 1 := by rw [hw1]; simp
  have hb1 : Below w.heap.size w w1 := by rw [hw1]; exact bel1 _ _
  have bK : w1.cell? ⟨w.heap.size, 0, none⟩ = some (.int .i64 keep) := by rw [hw1]; exact (Boxed.new w 3 (.int .i64 keep)).cell
  rw [← hw1]
  clear hw1
  have bO := Boxed.new w1 22 (.slice none 0 0)
  have bN := Boxed.new (w1.alloc (.cells #[.slice none 0 0] 22)) 22 (.slice a N c)
  rw [World.size_alloc] at bN
  have hB0 : Below w1.heap.size w1 ((w1.alloc (.cells #[.slice none 0 0] 22)).alloc (.cells #[.slice a N c] 22)) := ((Below.refl _ w1).alloc (Nat.le_refl _) _).alloc (by simp) _
  have HH1 : Hid (Hh w1 NN a hs ys) := hH.below hb1
  have HB1 : Hid (Below w.heap.size w w1) := hb1
  rw [hs1] at bO bN
  have HS1 : Hid (w1.heap.size = w.heap.size + 1) := hs1
  clear hH hb1
  refine wpIn_rangeFunc_ownH rfl h1 (gf := 26) (lb := #[.pointer (some ⟨w.heap.size + 1 + 1, 0, none⟩)]) rfl trivial (enters_of Try.func26 (by kernel_rfl) rfl)
    (num_stops (n - 1) (by omega) (w.heap.size + 1 + 1) w1 a c hs N hN hl _ (by simp; omega) hB0 bN.cell HH1.out.row) belowK_t (belowK_b (by simp; omega)) (Below.refl _ _) (fun _ => rfl)
    (fun pre W => ((∃ v, Boxed W (w.heap.size + 1) 22 v ∧ Es (w.heap.size + 1) NN W v (pre.map (ex ys))) ∧ upto keep pre) ∧ Below w1.heap.size w1 W)
    (fun c pre W => ((∃ v, Boxed W (w.heap.size + 1) 22 v ∧ Es (w.heap.size + 1) NN W v (pre.dropLast.map (ex ys))) ∧ (c = .exit 0 ∧ ∃ (p : List Nat) (x : Nat), pre = p ++ [x] ∧ upto keep p ∧ keep < (x : Int) + 1)) ∧ Below w1.heap.size w1 W)
    (OwnFrom.and (OwnFrom.and (Own.from (col_own _ _ _) _) (ownFrom_pure _ _)) (ownFrom_below (Nat.le_refl _) (by simp; omega)))
    (fun c => OwnFrom.and (OwnFrom.and (Own.from (col_own _ _ (fun pre => pre.dropLast.map (ex ys))) _) (ownFrom_pure _ (fun pre => c = .exit 0 ∧ ∃ (p : List Nat) (x : Nat), pre = p ++ [x] ∧ upto keep p ∧ keep < (x : Int) + 1))) (ownFrom_below (Nat.le_refl _) (by simp; omega)))
    ⟨⟨⟨_, bO.alloc _, Es.nil _ _ _⟩, fun i hi => by simp at hi⟩, hB0⟩
    (fun x a' W => ∃ Bx, w.heap.size + 1 < Bx ∧ Bx13 W Bx (rx hs x) ∧ a' = { tmps := #[.slice a N c, .int .i64 keep, undef, .pointer (some ⟨w.heap.size, 0, none⟩), .slice none 0 0, .pointer (some ⟨w.heap.size + 1, 0, none⟩), .int .i64 ((x : Int) + 1), .pointer (some ⟨Bx, 0, none⟩), .slice a N c, .func (.func 26) #[] #[.pointer (some ⟨w.heap.size + 1 + 1, 0, none⟩)], .int .i64 ((x : Int) + 1), .agg #[.int .i64 (rx hs x).k, .int .i64 (rx hs x).t, .int .i64 (rx hs x).n, .int .i64 (rx hs x).d, .string (rx hs x).s, .int .i64 (rx hs x).vk, .int .i64 (rx hs x).vx, .int .u64 (rx hs x).vb, .string (rx hs x).vs, .slice (rx hs x).la (rx hs x).ll (rx hs x).lc, .int .i64 (rx hs x).f, .int .u64 ((rx hs x).c : Int), .int .i64 (rx hs x).m], undef, undef, undef, undef, undef, undef, undef, undef, undef], defers := [] })
    (fun x a' _ X Y row hs hg hr => by obtain ⟨Bx, h1, h2, h3⟩ := hs; exact ⟨Bx, h1, bx13_own Bx _ () X Y row h2 hg (fun r e => (hr r e).2), h3⟩)
    ?assign ?body ?done ?stop
  case assign =>
    rintro l pre x W K ⟨⟨⟨v, hv, hes⟩, hu⟩, hB⟩ hK
    simp only [encE, Rw.val]
    gi_wp2
    exact hK _ _ ((KeepsOthers.alloc _ _).from _) ((Below.refl _ W).alloc hB.size _) ⟨⟨⟨v, hv.alloc _, hes.below (bel1 _ _)⟩, hu⟩, hB.alloc hB.size _⟩ ⟨W.heap.size, hv.lt, Bx13.new W _, rfl⟩
  case body =>
    rintro l pre x a' W _ _ ⟨⟨⟨v, hv, hes⟩, hu⟩, hB⟩ ⟨Bx, hBx, bX, rfl⟩ hlt
    have hc := hv.cell
    have hn2 : 1 ≤ n - 1 - 1 := by omega
    have hEx := ((HH1.out.isE x).below hB)
    have C0 : Hid (∀ W0, Below W.heap.size W W0 → Calls Try.prog 22 #[.agg #[.int .i64 (rx hs x).k, .int .i64 (rx hs x).t, .int .i64 (rx hs x).n, .int .i64 (rx hs x).d, .string (rx hs x).s, .int .i64 (rx hs x).vk, .int .i64 (rx hs x).vx, .int .u64 (rx hs x).vb, .string (rx hs x).vs, .slice (rx hs x).la (rx hs x).ll (rx hs x).lc, .int .i64 (rx hs x).f, .int .u64 ((rx hs x).c : Int), .int .i64 (rx hs x).m]] W0 (ColP (w.heap.size + 1) NN W v (pre.map (ex ys) ++ [ex ys x]))) := fun W0 hW0 => col_calls NN _ (rx hs x) (ex ys x) W W0 v _ hEx (HH1.out.sml x) hv hes (by rw [List.length_map]; omega) hW0
    obtain ⟨x0, x1, x2, x3, x4, x5, x6, x7, x8, x9, x10, x11, x12⟩ := bX.at
    have xK : W.cell? ⟨w.heap.size, 0, none⟩ = some (.int .i64 keep) := (hB.cell (p := ⟨w.heap.size, 0, none⟩) (by show w.heap.size < _; omega)).trans bK
    have HV : Hid (Boxed W (w.heap.size + 1) 22 v) := hv
    have HE : Hid (Es (w.heap.size + 1) NN W v (pre.map (ex ys))) := hes
    have HU : Hid (upto keep pre) := hu
    have HB : Hid (Below w1.heap.size w1 W) := hB
    clear hEx hv hes hs1 hB hu
    by_cases hd : keep < (x : Int) + 1
    · gi_wp2
      refine ⟨KeepsFrom.refl _ _, ⟨⟨v, HV.out, ?_⟩, rfl, pre, x, rfl, HU.out, hd⟩, HB.out⟩
      rw [List.dropLast_concat]
      exact HE.out
    · have hx : Hid (upto keep (pre ++ [x])) := fun i hi => by
        rcases List.mem_append.1 hi with h | h
        · exact HU.out i h
        · obtain rfl := List.mem_singleton.1 h
          omega
      gi_wp2
      refine wpIn_region_any hmix ?_
      change wpAnyIn _ _ _ _ _ _ _ _ _ (World.drew _)
      refine wpAnyIn_ready (rs := [0, 1]) (by kernel_rfl) (by simp) ?_
      refine AllReadyIn.cons rfl (fun K hK => ?_) ?_
      · go_simp
        refine hK _ _ ?_
        clear hK K
        refine wpAnyIn_ready (rs := [1]) (by kernel_rfl) (by simp) ?_
        refine AllReadyIn.cons rfl (fun K hK => ?_) ?_
        · go_simp
          refine hK _ _ ?_
          clear hK K
          refine wpAnyIn_ready (rs := [2]) (by kernel_rfl) (by simp) ?_
          refine AllReadyIn.cons rfl (fun K hK => ?_) ?_
          · gi_wp2_with (refine ⟨trivial, ?_⟩; gi_at_call 22; refine (CallsIn.inRound l (callsIn_wide.2 (C0.out _ ?_))).mono ?_; (exact (Below.refl _ _).drew); rintro e w2 ⟨r', k', a', c', w3, rfl, hx1, hx2, hx3, hx4, HBG⟩)
            clear C0 hc
            have hxa : ∀ o, (w2.alloc o).cell? ⟨w.heap.size + 1, 0, none⟩ = some v := fun o => cellB hx1 (bel1 _ _)
            refine wpAnyIn_ready (rs := [3]) (by kernel_rfl) (by simp) ?_
            refine AllReadyIn.cons rfl (fun K hK => ?_) ?_
            · go_simp
              refine hK _ _ ?_
              clear hK K
              refine wpAnyIn_ready (rs := [4]) (by kernel_rfl) (by simp) ?_
              refine AllReadyIn.cons rfl (fun K hK => ?_) ?_
              · refine step_append_runIn rfl (.tmp 15) (.tmp 18) 22 rfl _ _ rfl rfl _ _ hx2 ?_
                refine hK _ _ ?_
                clear hK K hx2
                go_simp
                refine wpAnyIn_ready (rs := [5]) (by kernel_rfl) (by simp) ?_
                refine AllReadyIn.cons rfl (fun K hK => ?_) ?_
                · go_simp
                  refine hK _ _ ?_
                  clear hK K
                  refine wpAnyIn_done (by kernel_rfl) ?_ _
                  go_simp
                  exact fin_fork HBG.out HB.out HS1.out hx (by rw [List.map_append]; rfl)
                exact AllReadyIn.nil
              exact AllReadyIn.nil
            exact AllReadyIn.nil
          exact AllReadyIn.nil
        exact AllReadyIn.nil
      refine AllReadyIn.cons rfl (fun K hK => ?_) ?_
      · go_simp
        refine hK _ _ ?_
        clear hK K
        refine wpAnyIn_ready (rs := [0, 2]) (by kernel_rfl) (by simp) ?_
        refine AllReadyIn.cons rfl (fun K hK => ?_) ?_
        · go_simp
          refine hK _ _ ?_
          clear hK K
          refine wpAnyIn_ready (rs := [2]) (by kernel_rfl) (by simp) ?_
          refine AllReadyIn.cons rfl (fun K hK => ?_) ?_
          · gi_wp2_with (refine ⟨trivial, ?_⟩; gi_at_call 22; refine (CallsIn.inRound l (callsIn_wide.2 (C0.out _ ?_))).mono ?_; (exact (Below.refl _ _).drew); rintro e w2 ⟨r', k', a', c', w3, rfl, hx1, hx2, hx3, hx4, HBG⟩)
            clear C0 hc
            have hxa : ∀ o, (w2.alloc o).cell? ⟨w.heap.size + 1, 0, none⟩ = some v := fun o => cellB hx1 (bel1 _ _)
            refine wpAnyIn_ready (rs := [3]) (by kernel_rfl) (by simp) ?_
            refine AllReadyIn.cons rfl (fun K hK => ?_) ?_
            · go_simp
              refine hK _ _ ?_
              clear hK K
              refine wpAnyIn_ready (rs := [4]) (by kernel_rfl) (by simp) ?_
              refine AllReadyIn.cons rfl (fun K hK => ?_) ?_
              · refine step_append_runIn rfl (.tmp 15) (.tmp 18) 22 rfl _ _ rfl rfl _ _ hx2 ?_
                refine hK _ _ ?_
                clear hK K hx2
                go_simp
                refine wpAnyIn_ready (rs := [5]) (by kernel_rfl) (by simp) ?_
                refine AllReadyIn.cons rfl (fun K hK => ?_) ?_
                · go_simp
                  refine hK _ _ ?_
                  clear hK K
                  refine wpAnyIn_done (by kernel_rfl) ?_ _
                  go_simp
                  exact fin_fork HBG.out HB.out HS1.out hx (by rw [List.map_append]; rfl)
                exact AllReadyIn.nil
              exact AllReadyIn.nil
            exact AllReadyIn.nil
          exact AllReadyIn.nil
        refine AllReadyIn.cons rfl (fun K hK => ?_) ?_
        · gi_wp2_with (refine ⟨trivial, ?_⟩; gi_at_call 22; refine (CallsIn.inRound l (callsIn_wide.2 (C0.out _ ?_))).mono ?_; (exact (Below.refl _ _).drew); rintro e w2 ⟨r', k', a', c', w3, rfl, hx1, hx2, hx3, hx4, HBG⟩)
          clear C0 hc
          have hxa : ∀ o, (w2.alloc o).cell? ⟨w.heap.size + 1, 0, none⟩ = some v := fun o => cellB hx1 (bel1 _ _)
          refine wpAnyIn_ready (rs := [0, 3]) (by kernel_rfl) (by simp) ?_
          refine AllReadyIn.cons rfl (fun K hK => ?_) ?_
          · go_simp
            refine hK _ _ ?_
            clear hK K
            refine wpAnyIn_ready (rs := [3]) (by kernel_rfl) (by simp) ?_
            refine AllReadyIn.cons rfl (fun K hK => ?_) ?_
            · go_simp
              refine hK _ _ ?_
              clear hK K
              refine wpAnyIn_ready (rs := [4]) (by kernel_rfl) (by simp) ?_
              refine AllReadyIn.cons rfl (fun K hK => ?_) ?_
              · refine step_append_runIn rfl (.tmp 15) (.tmp 18) 22 rfl _ _ rfl rfl _ _ hx2 ?_
                refine hK _ _ ?_
                clear hK K hx2
                go_simp
                refine wpAnyIn_ready (rs := [5]) (by kernel_rfl) (by simp) ?_
                refine AllReadyIn.cons rfl (fun K hK => ?_) ?_
                · go_simp
                  refine hK _ _ ?_
                  clear hK K
                  refine wpAnyIn_done (by kernel_rfl) ?_ _
                  go_simp
                  exact fin_fork HBG.out HB.out HS1.out hx (by rw [List.map_append]; rfl)
                exact AllReadyIn.nil
              exact AllReadyIn.nil
            exact AllReadyIn.nil
          refine AllReadyIn.cons rfl (fun K hK => ?_) ?_
          · go_simp
            refine hK _ _ ?_
            clear hK K
            refine wpAnyIn_ready (rs := [0]) (by kernel_rfl) (by simp) ?_
            refine AllReadyIn.cons rfl (fun K hK => ?_) ?_
            · go_simp
              refine hK _ _ ?_
              clear hK K
              refine wpAnyIn_ready (rs := [4]) (by kernel_rfl) (by simp) ?_
              refine AllReadyIn.cons rfl (fun K hK => ?_) ?_
              · refine step_append_runIn rfl (.tmp 15) (.tmp 18) 22 rfl _ _ rfl rfl _ _ hx2 ?_
                refine hK _ _ ?_
                clear hK K hx2
                go_simp
                refine wpAnyIn_ready (rs := [5]) (by kernel_rfl) (by simp) ?_
                refine AllReadyIn.cons rfl (fun K hK => ?_) ?_
                · go_simp
                  refine hK _ _ ?_
                  clear hK K
                  refine wpAnyIn_done (by kernel_rfl) ?_ _
                  go_simp
                  exact fin_fork HBG.out HB.out HS1.out hx (by rw [List.map_append]; rfl)
                exact AllReadyIn.nil
              exact AllReadyIn.nil
            exact AllReadyIn.nil
          exact AllReadyIn.nil
        exact AllReadyIn.nil
      exact AllReadyIn.nil
  case done =>
    rintro D zs W hD rfl ⟨⟨⟨v, hv, hes⟩, hu⟩, hB⟩ hK
    have hc := hv.cell
    gi_wp2
    refine ⟨by simp, .inl ⟨_, _, rfl, run_takeDeferred hK, ?_⟩⟩
    exact ⟨_, results_tmp rfl _ _ _, v, rfl, by rw [upto_all hu]; exact es_put hes _ hK rfl, (HB1.out.trans (hB.mono (by omega))).trans (belowK_b (w := w) (Nat.le_refl _) W D _ _ (by simp at hD; omega) hK rfl rfl)⟩
  case stop =>
    rintro D cc pre W hD hpre ⟨⟨⟨v, hv, hes⟩, rfl, p, x, rfl, hu, hx⟩, hB⟩ hK
    have hc := hv.cell
    rw [List.dropLast_concat, upto_stop hu hx hpre] at hes
    gi_wp2
    refine ⟨by simp, .inl ⟨_, _, rfl, run_takeDeferred hK, ?_⟩⟩
    exact ⟨_, results_tmp rfl _ _ _, v, rfl, es_put hes _ hK rfl, (HB1.out.trans (hB.mono (by omega))).trans (belowK_b (w := w) (Nat.le_refl _) W D _ _ (by simp at hD; omega) hK rfl rfl)⟩
end Go.Proofs.Ytoebbndcmelcfaa
