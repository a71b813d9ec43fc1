/- The walk of TableStays. -/
import Derived.Test.YtlcgjehepalmcaaTL
namespace Go.Proofs.Ytlcgjehepalmcaa
open Go.ChangeShapes Go.WideShapes Go.ChangeAt Go.RowKit
theorem wpList_load_rowG {P : Program} {ops : Array Oper} {rest : List Oper} {o : Oper} {a : Act} {w : World} {Q : Exit → Act → World → Prop} (hw : Region.wanted o (yielded ops a.tmps) = true) (ty : TypeId) (x : Operand) (ho : o.op = .load ty x)
    (g : Nat) (hx : a.eval x = .pointer (some ⟨g, 0, none⟩)) (t : TypeId) (cs : Array Value) (fr : Nat × Nat) (d : TypeDesc) (hg : w.heap[g]? = some (.cells cs t fr))
    (hu : P.underlying ty = some d) (hd : (match d with | .struct _ | .array _ _ => true | _ => false) = true) (hi : (P.info? ty).map (·.size) = some cs.size)
    (h : wpList P ops Q rest (a.put o.dst (.agg cs)) w) : wpList P ops Q (o :: rest) a w :=
  wpList_step fun _ hK => by rw [if_pos hw]; exact wp_load_row ty x ho g hx t cs fr d hg hu hd hi (hK _ _ h)
/-- What is found behind an Add, and whether the table can be. -/
theorem stays_some {ds : List Dn} {r : Rq} {run : Int} {d : Dn} (hc : canB ds = true) (hf : fnd (addR ds r run).1 r.req = some d) : canB (addR ds r run).1 = ((addR ds r run).2 != 0 || canB [d]) := by
  rcases add_cases ds r run with ⟨h1, h2⟩ | ⟨h1, h2⟩
  · rw [h1, hc]
    have : ((addR ds r run).2 != 0) = true := by simpa using h2
    rw [this, Bool.true_or]
  · have hl : ds.length < 30 := by
      have h3 := h2
      unfold addR at h3
      rw [h1] at h3
      dsimp only at h3
      by_cases h30 : 30 ≤ ds.length
      · rw [if_pos h30] at h3
        injection h3 with _ h4
        cases h4
      · omega
    rw [h2] at hf ⊢
    dsimp only at hf ⊢
    rw [fnd_ins h1 (eqS_refl _)] at hf
    injection hf with hf
    rw [← hf]
    have := can_ins (d := ⟨r.req, r.kind, keyB r, run⟩) hc hl h1
    rw [this]
    rfl
theorem stays_none {ds : List Dn} {r : Rq} {run : Int} (hc : canB ds = true) (hf : fnd (addR ds r run).1 r.req = none) : canB (addR ds r run).1 = true ∧ ((addR ds r run).2 != 0) = true := by
  rcases add_cases ds r run with ⟨h1, h2⟩ | ⟨h1, h2⟩
  · exact ⟨by rw [h1]; exact hc, by simpa using h2⟩
  · rw [h2] at hf
    dsimp only at hf
    rw [fnd_ins h1 (eqS_refl _)] at hf
    cases hf
theorem add_len (ds : List Dn) (r : Rq) (run : Int) : (addR ds r run).1.length ≤ ds.length + 1 := by
  rcases add_cases ds r run with ⟨h1, _⟩ | ⟨_, h2⟩
  · rw [h1]; omega
  · rw [h2, insD_len (plc_le _ _)]; omega
theorem add_y {ds : List Dn} {r : Rq} {run : Int} (hy : ∀ x ∈ ds, x.y.length ≤ 140737488355328) (hk : (keyB r).length ≤ 140737488355328) : ∀ x ∈ (addR ds r run).1, x.y.length ≤ 140737488355328 := by
  rcases add_cases ds r run with ⟨h1, _⟩ | ⟨_, h2⟩
  · rw [h1]; exact hy
  · rw [h2]; exact insD_y hy hk
theorem tb_one {w : World} {g : Nat} {d : Dn} {p : Option Addr} {c : Nat} (h : w.heap[g]? = some (.cells #[.string d.s, .int .i64 d.k, .slice p d.y.length c, .int .i64 d.r] 37 (0, 0))) (hh : Lib.HoldsBytes w (.slice p d.y.length c) d.y) : Tb w (some ⟨g, 0, none⟩) [d] := by
  intro i x hx
  match i, hx with
  | 0, hx =>
    cases hx
    exact ⟨g, 0, p, c, rfl, ⟨row_cell h rfl, row_cell h rfl, row_cell h rfl, row_cell h rfl⟩, hh⟩
  | i + 1, hx => simp at hx
set_option maxHeartbeats 8000000 in
set_option maxRecDepth 100000 in
theorem stays_walk (ds : List Dn) (a : Option Addr) (n c : Nat) (hn : ds.length = n) (hy : ∀ d ∈ ds, d.y.length ≤ 140737488355328) (N : Nat) (cs : Array Value) (r : Rq) (run : Int) (w : World) (h : Tb w a ds) (hr : IsR w N cs r) :
    Calls Try.prog 6 #[.slice a n c, .agg cs, .int .i64 run] w fun e w' => e = .returned (.bool true) ∧ Below w.heap.size w w' := by
  have KF : Hid (∀ W, Calls Try.prog 7 #[.slice a n c] W fun e w' => e = .returned (.bool (decide (n ≤ 60))) ∧ w' = W) := fun W => few_calls a n c W
  have KW : Hid (∀ W, Calls Try.prog 8 #[] W fun e w' => e = .returned (.bool true) ∧ Below W.heap.size W w') := awake_calls
  have KC : Hid (∀ W, Below w.heap.size w W → Calls Try.prog 14 #[.slice a n c] W fun e w' => e = .returned (.bool (canB ds)) ∧ Below W.heap.size W w') := fun W hB => can_calls ds a n c hn W (h.below hB)
  have hi1 := info32s cs hr.size
  have b0 : Hid (Below w.heap.size w (w.alloc (.cells cs 32))) := bel1 _ _
  have r0 : (w.alloc (.cells cs 32)).heap[w.heap.size]? = some (.cells cs 32 (0, 0)) := heap_alloc_last w _
  by_cases h60 : n ≤ 60
  · have d60 : decide (n ≤ 60) = true := decide_eq_true h60
    cases hcan : canB ds with
    | false =>
      rw [hcan] at KC
      clear h60 h hr hy hn hcan
      go_enter Try.func6, Try.ntmps6
      go_upto_region 1 with fail
      change Code.wp _ _ _ _ (w.alloc (.cells cs 32))
      generalize w.alloc (.cells cs 32) = W0 at b0 r0 ⊢
      go_wp2_with fail
      refine (KF.out W0).mono ?_
      rintro e w1 ⟨rfl, hw⟩
      have hw' := hw.symm
      subst hw'
      clear hw KF
      go_wp2_with fail
      refine (KC.out _ b0.out).mono ?_
      rintro e w2 ⟨rfl, hb⟩
      have HB2 : Hid (Below w.heap.size w w2) := bel2 b0.out hb
      clear hb KC r0
      go_wp2_with fail
      refine (KW.out _).mono ?_
      rintro e wz ⟨rfl, hb⟩
      have HBz : Hid (Below w.heap.size w wz) := bel2 HB2.out hb
      clear hb
      go_wp2_with fail
      go_ret
      exact ⟨rfl, HBz.out⟩
    | true =>
      rw [hcan] at KC
      have hkl := keyB_len hr
      have KA : Hid (∀ W, Below w.heap.size w W → Calls Try.prog 16 #[.slice a n c, .agg cs, .int .i64 run] W (AdP W (addR ds r run))) := fun W hB => add_calls ds a n c hn (by omega) hy N cs r run W (h.below hB) (hr.below hB)
      have hxl := add_len ds r run
      have hxy := add_y (r := r) (run := run) hy (by omega)
      have hst := fun d => stays_some (r := r) (run := run) (d := d) hcan
      have hsn := stays_none (r := r) (run := run) hcan
      have c2 := hr.c2
      generalize addR ds r run = X at KA hxl hxy hst hsn
      obtain ⟨xs, ec⟩ := X
      dsimp only at hxl hxy hst hsn
      obtain ⟨m, hm⟩ : ∃ m, xs.length = m := ⟨_, rfl⟩
      have KD : Hid (∀ W b d, Tb W b xs → Calls Try.prog 9 #[.slice b m d, .string r.req] W (FdP W (fnd xs r.req))) := fun W b d hb => find_calls r.req xs b m d hm (by omega) hxy W hb
      have KX : Hid (∀ W b d, Tb W b xs → Calls Try.prog 14 #[.slice b m d] W fun e w' => e = .returned (.bool (canB xs)) ∧ Below W.heap.size W w') := fun W b d hb => can_calls xs b m d hm W hb
      have HM : Hid (xs.length = m) := hm
      clear h60 h hr hy hn hkl hxl hxy hcan hm
      obtain ⟨o, ho⟩ : ∃ o, o = fnd xs r.req := ⟨_, rfl⟩
      rw [← ho] at KD hsn hst
      clear ho
      generalize canB xs = cx at KX hst hsn
      go_enter Try.func6, Try.ntmps6
      go_upto_region 1 with fail
      change Code.wp _ _ _ _ (w.alloc (.cells cs 32))
      generalize w.alloc (.cells cs 32) = W0 at b0 r0 ⊢
      go_wp2_with fail
      refine (KF.out W0).mono ?_
      rintro e w1 ⟨rfl, hw⟩
      have hw' := hw.symm
      subst hw'
      clear hw KF
      go_wp2_with fail
      refine (KC.out _ b0.out).mono ?_
      rintro e w2 ⟨rfl, hb⟩
      have HB2 : Hid (Below w.heap.size w w2) := bel2 b0.out hb
      have r2 := row_below hb r0
      clear hb KC r0 b0
      go_wp2_with (refine wpList_load_row rfl 32 _ rfl w.heap.size rfl 32 cs (0, 0) _ r2 Try.underlying32 rfl hi1 ?_)
      refine (KA.out _ HB2.out).mono ?_
      rintro e w3 ⟨v3, rfl, hg, hb⟩
      obtain ⟨ua, uc, e1⟩ := hg.shape
      dsimp only at hg e1
      rw [HM.out] at e1
      subst e1
      have HB3 : Hid (Below w.heap.size w w3) := bel2 HB2.out hb
      have HU3 : Hid (Tb w3 ua xs) := hg.tb
      have r3 := row_below hb r2
      have x3 : w3.cell? ⟨w.heap.size, 2, none⟩ = some (.string r.req) := row_cell r3 c2
      clear hg hb KA r2 HB2 c2
      go_wp2_with fail
      refine (KD.out _ _ _ HU3.out).mono ?_
      rintro e w4 ⟨hf1, hf2, hb⟩
      have HB4 : Hid (Below w.heap.size w w4) := bel2 HB3.out hb
      have HU4 : Hid (Tb w4 ua xs) := HU3.out.below hb
      have n4 : (w4.alloc (.cells #[.string ⟨#[]⟩, .int .i64 0, .slice none 0 0, .int .i64 0] 37)).heap[w4.heap.size]? = some (.cells #[.string ⟨#[]⟩, .int .i64 0, .slice none 0 0, .int .i64 0] 37 (0, 0)) := heap_alloc_last w4 _
      clear hb KD x3 r3 HB3 HU3
      cases o with
      | none =>
        obtain rfl := hf2 rfl
        obtain ⟨hcx, hec⟩ := hsn rfl
        subst hcx
        have HB5 : Hid (Below w.heap.size w (w4.alloc (.cells #[.string ⟨#[]⟩, .int .i64 0, .slice none 0 0, .int .i64 0] 37))) := bel2 HB4.out (bel1 w4 _)
        have HU5 : Hid (Tb (w4.alloc (.cells #[.string ⟨#[]⟩, .int .i64 0, .slice none 0 0, .int .i64 0] 37)) ua xs) := HU4.out.below (bel1 w4 _)
        clear hf1 hf2 hst hsn
        go_upto_region 5 with (refine wpList_store_row rfl 37 _ _ rfl w4.heap.size _ rfl rfl 37 _ n4 info37s rfl (one4 _ _ _ _ _ _) ?_)
        rw [World.setRow_alloc_new]
        generalize w4.alloc (.cells #[.string ⟨#[]⟩, .int .i64 0, .slice none 0 0, .int .i64 0] 37) = W5 at HB5 HU5 ⊢
        clear n4 HB4 HU4
        go_wp2_with fail
        refine (KX.out _ _ _ HU5.out).mono ?_
        rintro e w6 ⟨rfl, hb⟩
        have HB6 : Hid (Below w.heap.size w w6) := bel2 HB5.out hb
        clear hb KX
        go_wp2_with fail
        refine (KW.out _).mono ?_
        rintro e wz ⟨rfl, hb⟩
        have HBz : Hid (Below w.heap.size w wz) := bel2 HB6.out hb
        clear hb
        go_wp2_with fail
        go_ret
        exact ⟨rfl, HBz.out⟩
      | some d =>
        obtain ⟨p, c', rfl, hown⟩ := hf1 d rfl
        have hcx := hst d rfl
        have b5 := bel1 w4 (.cells #[.string d.s, .int .i64 d.k, .slice p d.y.length c', .int .i64 d.r] 37)
        have HB5 : Hid (Below w.heap.size w (w4.alloc (.cells #[.string d.s, .int .i64 d.k, .slice p d.y.length c', .int .i64 d.r] 37))) := bel2 HB4.out b5
        have HU5 : Hid (Tb (w4.alloc (.cells #[.string d.s, .int .i64 d.k, .slice p d.y.length c', .int .i64 d.r] 37)) ua xs) := HU4.out.below b5
        have HY5 : Hid (Lib.HoldsBytes (w4.alloc (.cells #[.string d.s, .int .i64 d.k, .slice p d.y.length c', .int .i64 d.r] 37)) (.slice p d.y.length c') d.y) := holds_below hown.holds b5
        have m5 : (w4.alloc (.cells #[.string d.s, .int .i64 d.k, .slice p d.y.length c', .int .i64 d.r] 37)).heap[w4.heap.size]? = some (.cells #[.string d.s, .int .i64 d.k, .slice p d.y.length c', .int .i64 d.r] 37 (0, 0)) := heap_alloc_last w4 _
        have KY : Hid (∀ W b d', Tb W b [d] → Calls Try.prog 14 #[.slice b 1 d'] W fun e w' => e = .returned (.bool (canB [d])) ∧ Below W.heap.size W w') := fun W b d' hb => can_calls [d] b 1 d' rfl W hb
        clear hf1 hf2 hst hsn hown b5
        generalize canB [d] = cd at KY hcx
        go_upto_region 5 with (refine wpList_store_row rfl 37 _ _ rfl w4.heap.size _ rfl rfl 37 _ n4 info37s rfl (one4 _ _ _ _ _ _) ?_)
        rw [World.setRow_alloc_new]
        generalize w4.alloc (.cells #[.string d.s, .int .i64 d.k, .slice p d.y.length c', .int .i64 d.r] 37) = W5 at HB5 HU5 HY5 m5 ⊢
        have HT6 : Hid (Tb (W5.alloc (.cells #[.string d.s, .int .i64 d.k, .slice p d.y.length c', .int .i64 d.r] 37)) (some ⟨W5.heap.size, 0, none⟩) [d]) := tb_one (heap_alloc_last W5 _) (holds_below HY5.out (bel1 W5 _))
        have HB6 : Hid (Below w.heap.size w (W5.alloc (.cells #[.string d.s, .int .i64 d.k, .slice p d.y.length c', .int .i64 d.r] 37))) := bel2 HB5.out (bel1 W5 _)
        have HU6 : Hid (Tb (W5.alloc (.cells #[.string d.s, .int .i64 d.k, .slice p d.y.length c', .int .i64 d.r] 37)) ua xs) := HU5.out.below (bel1 W5 _)
        clear n4 HB4 HU4
        go_wp2_with (refine wpList_load_rowG rfl 37 _ rfl w4.heap.size rfl 37 _ (0, 0) _ m5 Try.underlying37 rfl info37s ?_)
        refine (KY.out _ _ _ HT6.out).mono ?_
        rintro e w7 ⟨rfl, hb⟩
        have HB7 : Hid (Below w.heap.size w w7) := bel2 HB6.out hb
        have HU7 : Hid (Tb w7 ua xs) := HU6.out.below hb
        clear hb KY m5 HT6 HB6 HU6 HB5 HU5 HY5
        go_wp2_with fail
        refine (KX.out _ _ _ HU7.out).mono ?_
        rintro e w8 ⟨rfl, hb⟩
        have HB8 : Hid (Below w.heap.size w w8) := bel2 HB7.out hb
        clear hb KX
        cases hec : (ec != 0) with
        | true =>
          rw [hec, Bool.true_or] at hcx
          subst hcx
          go_wp2_with fail
          refine (KW.out _).mono ?_
          rintro e wz ⟨rfl, hb⟩
          have HBz : Hid (Below w.heap.size w wz) := bel2 HB8.out hb
          clear hb
          go_wp2_with fail
          go_ret
          exact ⟨rfl, HBz.out⟩
        | false =>
          rw [hec, Bool.false_or] at hcx
          subst hcx
          have hcc : (cx == cx) = true := by simp
          go_wp2_with fail
          refine (KW.out _).mono ?_
          rintro e wz ⟨rfl, hb⟩
          have HBz : Hid (Below w.heap.size w wz) := bel2 HB8.out hb
          clear hb
          go_wp2_with fail
          go_ret
          exact ⟨rfl, HBz.out⟩
  · have d60 : decide (n ≤ 60) = false := decide_eq_false h60
    clear h60 h hr hy hn KC
    go_enter Try.func6, Try.ntmps6
    go_upto_region 1 with fail
    change Code.wp _ _ _ _ (w.alloc (.cells cs 32))
    generalize w.alloc (.cells cs 32) = W0 at b0 r0 ⊢
    go_wp2_with fail
    refine (KF.out W0).mono ?_
    rintro e w1 ⟨rfl, hw⟩
    have hw' := hw.symm
    subst hw'
    clear hw KF
    go_wp2_with fail
    refine (KW.out _).mono ?_
    rintro e wz ⟨rfl, hb⟩
    have HBz : Hid (Below w.heap.size w wz) := bel2 b0.out hb
    clear hb
    go_wp2_with fail
    go_ret
    exact ⟨rfl, HBz.out⟩
end Go.Proofs.Ytlcgjehepalmcaa
