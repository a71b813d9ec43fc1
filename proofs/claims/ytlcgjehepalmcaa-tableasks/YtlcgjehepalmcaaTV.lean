/- The walk of TableAsks. -/
import Derived.Test.YtlcgjehepalmcaaTW
import Derived.Test.YtlcgjehepalmcaaTR
import Derived.Test.YtlcgjehepalmcaaTM
namespace Go.Proofs.Ytlcgjehepalmcaa
open Go.ChangeShapes Go.WideShapes Go.ChangeAt Go.RowKit
def zD : Dn := ⟨⟨#[]⟩, 0, [], 0⟩
/-- What either Find answers. -/
def UfP (W : World) (d : Dn) (b : Bool) (e : Ending) (w' : World) : Prop :=
  ∃ p c, e = .returned (.tuple #[.agg #[.string d.s, .int .i64 d.k, .slice p d.y.length c, .int .i64 d.r], .bool b]) ∧ Lib.HoldsBytes w' (.slice p d.y.length c) d.y ∧ Below W.heap.size W w'
theorem fd_uf {w w' : World} {o : Option Dn} {e : Ending} (h : FdP w o e w') : UfP w (o.getD zD) o.isSome e w' := by
  obtain ⟨h1, h2, h3⟩ := h
  cases o with
  | some d => obtain ⟨p, c, e, ho⟩ := h1 d rfl; exact ⟨p, c, e, ho.holds, h3⟩
  | none => exact ⟨none, 0, h2 rfl, holds_nil w', h3⟩
theorem rf_uf {w w' : World} {o : Option Dn} {e : Ending} (h : RfP w o e w') : UfP w (o.getD zD) o.isSome e w' := by
  obtain ⟨h1, h2, h3⟩ := h
  cases o with
  | some d => obtain ⟨p, c, e, ho⟩ := h1 d rfl; exact ⟨p, c, e, ho, h3⟩
  | none => exact ⟨none, 0, h2 rfl, holds_nil w', h3⟩
set_option maxHeartbeats 8000000 in
set_option maxRecDepth 100000 in
theorem asks_walk (ds : List Dn) (a : Option Addr) (n c : Nat) (hn : ds.length = n) (hy : ∀ d ∈ ds, d.y.length ≤ 140737488355328) (N : Nat) (cs : Array Value) (r : Rq) (run : Int) (w : World) (h : Tb w a ds) (hr : IsR w N cs r) :
    Calls Try.prog 3 #[.slice a n c, .agg cs, .int .i64 run] w fun e w' => e = .returned (.bool true) ∧ Below w.heap.size w w' := by
  have KF : Hid (∀ W, Calls Try.prog 7 #[.slice a n c] W fun e w' => e = .returned (.bool (decide (n ≤ 60))) ∧ w' = W) := fun W => few_calls a n c W
  have KW : Hid (∀ W, Calls Try.prog 8 #[] W fun e w' => e = .returned (.bool true) ∧ Below W.heap.size W w') := awake_calls
  have hi1 := info32s cs hr.size
  have b0 : Hid (Below w.heap.size w (w.alloc (.cells cs 32))) := bel1 _ _
  have r0 : (w.alloc (.cells cs 32)).heap[w.heap.size]? = some (.cells cs 32 (0, 0)) := heap_alloc_last w _
  by_cases h60 : n ≤ 60
  · have d60 : decide (n ≤ 60) = true := decide_eq_true h60
    obtain ⟨d, hd⟩ : ∃ d, d = (fnd ds r.req).getD zD := ⟨_, rfl⟩
    obtain ⟨b, hb⟩ : ∃ b, b = (fnd ds r.req).isSome := ⟨_, rfl⟩
    obtain ⟨qa, hqa⟩ : ∃ qa, qa = askR ds r := ⟨_, rfl⟩
    obtain ⟨ad, had⟩ : ∃ ad, ad = addR ds r run := ⟨_, rfl⟩
    obtain ⟨cb, hcb⟩ : ∃ cb, cb = canB ds := ⟨_, rfl⟩
    have K1 : Hid (∀ W, Below w.heap.size w W → Calls Try.prog 9 #[.slice a n c, .string r.req] W (UfP W d b)) := fun W hB => by rw [hd, hb]; exact (find_calls r.req ds a n c hn (by omega) hy W (h.below hB)).mono fun _ _ h => fd_uf h
    have K2 : Hid (∀ W, Below w.heap.size w W → Calls Try.prog 10 #[.slice a n c, .string r.req] W (UfP W d b)) := fun W hB => by rw [hd, hb]; exact (rfind_calls r.req ds a n c hn (by omega) hy W (h.below hB)).mono fun _ _ h => rf_uf h
    have K3 : Hid (∀ W, Below w.heap.size w W → Calls Try.prog 11 #[.slice a n c, .agg cs] W (AkP W qa)) := fun W hB => by rw [hqa]; exact ask_calls ds a n c hn (by omega) hy N cs r W (h.below hB) (hr.below hB)
    have K4 : Hid (∀ W, Below w.heap.size w W → Calls Try.prog 12 #[.slice a n c, .agg cs] W (AkP W qa)) := fun W hB => by rw [hqa]; exact rask_calls ds a n c hn (by omega) hy N cs r W (h.below hB) (hr.below hB)
    have K5 : Hid (∀ W, Below w.heap.size w W → Calls Try.prog 14 #[.slice a n c] W fun e w' => e = .returned (.bool cb) ∧ Below W.heap.size W w') := fun W hB => by rw [hcb]; exact can_calls ds a n c hn W (h.below hB)
    have K6 : Hid (∀ W, Below w.heap.size w W → Calls Try.prog 15 #[.slice a n c] W fun e w' => e = .returned (.bool cb) ∧ Below W.heap.size W w') := fun W hB => by rw [hcb]; exact rcan_calls ds a n c hn hy W (h.below hB)
    have K7 : Hid (∀ W, Below w.heap.size w W → Calls Try.prog 16 #[.slice a n c, .agg cs, .int .i64 run] W (AdP W ad)) := fun W hB => by rw [had]; exact add_calls ds a n c hn (by omega) hy N cs r run W (h.below hB) (hr.below hB)
    have K8 : Hid (∀ W, Below w.heap.size w W → Calls Try.prog 17 #[.slice a n c, .agg cs, .int .i64 run] W (RaP W ad)) := fun W hB => by rw [had]; exact radd_calls ds a n c hn (by omega) hy N cs r run W (h.below hB) (hr.below hB)
    have hal : ad.1.length ≤ 1000 := by rw [had]; have := add_len ds r run; omega
    have c2 := hr.c2
    obtain ⟨xs, ec⟩ := ad
    obtain ⟨qn, qe⟩ := qa
    dsimp only at hal
    obtain ⟨m, hm⟩ : ∃ m, xs.length = m := ⟨_, rfl⟩
    have K9 : Hid (∀ W a1 c1 a2 c2, Tb W a1 xs → Tb W a2 xs → Calls Try.prog 13 #[.slice a1 m c1, .slice a2 m c2] W fun e w' => e = .returned (.bool true) ∧ Below W.heap.size W w') := fun W a1 c1 a2 c2 h1 h2 => rsame_calls xs a1 a2 m c1 c2 hm (by omega) W h1 h2
    have K0 : Hid (∀ W a1 c1 a2 c2, Tb W a1 [d] → Tb W a2 [d] → Calls Try.prog 13 #[.slice a1 1 c1, .slice a2 1 c2] W fun e w' => e = .returned (.bool true) ∧ Below W.heap.size W w') := fun W a1 c1 a2 c2 h1 h2 => rsame_calls [d] a1 a2 1 c1 c2 rfl (by omega) W h1 h2
    have HM : Hid (xs.length = m) := hm
    have hbb : (b != b) = false := by simp
    have hcc : (cb != cb) = false := by simp
    have hnn : (qn != qn) = false := by simp
    have hee : (qe != qe) = false := by simp
    have hxx : (ec == ec) = true := by simp
    clear h60 h hr hy hn hd hb hqa had hcb hal hm
    go_enter Try.func3, Try.ntmps3
    go_upto_region 1 with fail
    change Code.wp _ _ _ _ (w.alloc (.cells cs 32))
    generalize w.alloc (.cells cs 32) = W0 at b0 r0 ⊢
    have x0 : W0.cell? ⟨w.heap.size, 2, none⟩ = some (.string r.req) := row_cell r0 c2
    go_wp2_with fail
    refine (KF.out W0).mono ?_
    rintro e w1 ⟨rfl, hw⟩
    have hw' := hw.symm
    subst hw'
    clear hw KF
    go_wp2_with fail
    refine (K1.out _ b0.out).mono ?_
    rintro e w1 ⟨p, pc, rfl, hh, hb⟩
    have b1 := bel1 w1 (.cells #[.string d.s, .int .i64 d.k, .slice p d.y.length pc, .int .i64 d.r] 37)
    have n1 : (w1.alloc (.cells #[.string ⟨#[]⟩, .int .i64 0, .slice none 0 0, .int .i64 0] 37)).heap[w1.heap.size]? = some (.cells #[.string ⟨#[]⟩, .int .i64 0, .slice none 0 0, .int .i64 0] 37 (0, 0)) := heap_alloc_last w1 _
    have m1 : (w1.alloc (.cells #[.string d.s, .int .i64 d.k, .slice p d.y.length pc, .int .i64 d.r] 37)).heap[w1.heap.size]? = some (.cells #[.string d.s, .int .i64 d.k, .slice p d.y.length pc, .int .i64 d.r] 37 (0, 0)) := heap_alloc_last w1 _
    have HY1 : Hid (Lib.HoldsBytes (w1.alloc (.cells #[.string d.s, .int .i64 d.k, .slice p d.y.length pc, .int .i64 d.r] 37)) (.slice p d.y.length pc) d.y) := holds_below hh b1
    have HB1 : Hid (Below w.heap.size w (w1.alloc (.cells #[.string d.s, .int .i64 d.k, .slice p d.y.length pc, .int .i64 d.r] 37))) := bel2 b0.out (bel2 hb b1)
    have r1 := row_below (bel2 hb b1) r0
    clear hh hb b1 K1 x0 r0 b0
    go_upto_region 4 with (refine wpList_store_row rfl 37 _ _ rfl w1.heap.size _ rfl rfl 37 _ n1 info37s rfl (one4 _ _ _ _ _ _) ?_)
    rw [World.setRow_alloc_new]
    generalize w1.alloc (.cells #[.string d.s, .int .i64 d.k, .slice p d.y.length pc, .int .i64 d.r] 37) = W1 at m1 HY1 HB1 r1 ⊢
    generalize w1.heap.size = g1 at m1 ⊢
    clear n1
    have x1 : W1.cell? ⟨w.heap.size, 2, none⟩ = some (.string r.req) := row_cell r1 c2
    go_wp2_with fail
    refine (K2.out _ HB1.out).mono ?_
    rintro e w2 ⟨q, qc, rfl, hh, hb⟩
    have b2 := bel1 w2 (.cells #[.string d.s, .int .i64 d.k, .slice q d.y.length qc, .int .i64 d.r] 37)
    have n2 : (w2.alloc (.cells #[.string ⟨#[]⟩, .int .i64 0, .slice none 0 0, .int .i64 0] 37)).heap[w2.heap.size]? = some (.cells #[.string ⟨#[]⟩, .int .i64 0, .slice none 0 0, .int .i64 0] 37 (0, 0)) := heap_alloc_last w2 _
    have s2 : (w2.alloc (.cells #[.string d.s, .int .i64 d.k, .slice q d.y.length qc, .int .i64 d.r] 37)).heap[w2.heap.size]? = some (.cells #[.string d.s, .int .i64 d.k, .slice q d.y.length qc, .int .i64 d.r] 37 (0, 0)) := heap_alloc_last w2 _
    have HZ2 : Hid (Lib.HoldsBytes (w2.alloc (.cells #[.string d.s, .int .i64 d.k, .slice q d.y.length qc, .int .i64 d.r] 37)) (.slice q d.y.length qc) d.y) := holds_below hh b2
    have HY2 : Hid (Lib.HoldsBytes (w2.alloc (.cells #[.string d.s, .int .i64 d.k, .slice q d.y.length qc, .int .i64 d.r] 37)) (.slice p d.y.length pc) d.y) := holds_below HY1.out (bel2 hb b2)
    have HB2 : Hid (Below w.heap.size w (w2.alloc (.cells #[.string d.s, .int .i64 d.k, .slice q d.y.length qc, .int .i64 d.r] 37))) := bel2 HB1.out (bel2 hb b2)
    have r2 := row_below (bel2 hb b2) r1
    have m2 := row_below (bel2 hb b2) m1
    clear hh hb b2 K2 x1 r1 m1 HY1 HB1
    go_upto_region 5 with (refine wpList_store_row rfl 37 _ _ rfl w2.heap.size _ rfl rfl 37 _ n2 info37s rfl (one4 _ _ _ _ _ _) ?_)
    rw [World.setRow_alloc_new]
    generalize w2.alloc (.cells #[.string d.s, .int .i64 d.k, .slice q d.y.length qc, .int .i64 d.r] 37) = W2 at m2 s2 HY2 HZ2 HB2 r2 ⊢
    generalize w2.heap.size = g2 at s2 ⊢
    clear n2
    go_wp2_with (refine wpList_load_row rfl 32 _ rfl w.heap.size rfl 32 cs (0, 0) _ r2 Try.underlying32 rfl hi1 ?_)
    refine (K3.out _ HB2.out).mono ?_
    rintro e w3 ⟨rfl, hb⟩
    have HB3 : Hid (Below w.heap.size w w3) := bel2 HB2.out hb
    have r3 := row_below hb r2
    have m3 := row_below hb m2
    have s3 := row_below hb s2
    have HY3 : Hid (Lib.HoldsBytes w3 (.slice p d.y.length pc) d.y) := holds_below HY2.out hb
    have HZ3 : Hid (Lib.HoldsBytes w3 (.slice q d.y.length qc) d.y) := holds_below HZ2.out hb
    clear hb K3 r2 m2 s2 HY2 HZ2 HB2
    go_wp2_with (refine wpList_load_row rfl 32 _ rfl w.heap.size rfl 32 cs (0, 0) _ r3 Try.underlying32 rfl hi1 ?_)
    refine (K4.out _ HB3.out).mono ?_
    rintro e w4 ⟨rfl, hb⟩
    have HB4 : Hid (Below w.heap.size w w4) := bel2 HB3.out hb
    have r4 := row_below hb r3
    have m4 := row_below hb m3
    have s4 := row_below hb s3
    have HY4 : Hid (Lib.HoldsBytes w4 (.slice p d.y.length pc) d.y) := holds_below HY3.out hb
    have HZ4 : Hid (Lib.HoldsBytes w4 (.slice q d.y.length qc) d.y) := holds_below HZ3.out hb
    clear hb K4 r3 m3 s3 HY3 HZ3 HB3
    have b5 := bel2 (bel1 w4 (.cells #[.string d.s, .int .i64 d.k, .slice p d.y.length pc, .int .i64 d.r] 37)) (bel1 _ (.cells #[.string d.s, .int .i64 d.k, .slice q d.y.length qc, .int .i64 d.r] 37))
    have s5 := row_below (bel1 w4 (.cells #[.string d.s, .int .i64 d.k, .slice p d.y.length pc, .int .i64 d.r] 37)) s4
    have HT5 : Hid (Tb ((w4.alloc (.cells #[.string d.s, .int .i64 d.k, .slice p d.y.length pc, .int .i64 d.r] 37)).alloc (.cells #[.string d.s, .int .i64 d.k, .slice q d.y.length qc, .int .i64 d.r] 37)) (some ⟨w4.heap.size, 0, none⟩) [d]) := tb_one (old2 _ _ _) (holds_below HY4.out b5)
    have HT6 : Hid (Tb ((w4.alloc (.cells #[.string d.s, .int .i64 d.k, .slice p d.y.length pc, .int .i64 d.r] 37)).alloc (.cells #[.string d.s, .int .i64 d.k, .slice q d.y.length qc, .int .i64 d.r] 37)) (some ⟨w4.heap.size + 1, 0, none⟩) [d]) := tb_one (new2 _ _ _) (holds_below HZ4.out b5)
    have HB5 : Hid (Below w.heap.size w ((w4.alloc (.cells #[.string d.s, .int .i64 d.k, .slice p d.y.length pc, .int .i64 d.r] 37)).alloc (.cells #[.string d.s, .int .i64 d.k, .slice q d.y.length qc, .int .i64 d.r] 37))) := bel2 HB4.out b5
    have r5 := row_below b5 r4
    clear b5
    go_wp2_with (first | refine wpList_load_row rfl 37 _ rfl g1 rfl 37 _ (0, 0) _ m4 Try.underlying37 rfl info37s ?_ | refine wpList_load_row rfl 37 _ rfl g2 rfl 37 _ (0, 0) _ s5 Try.underlying37 rfl info37s ?_)
    refine (K0.out _ _ _ _ _ HT5.out HT6.out).mono ?_
    rintro e w6 ⟨rfl, hb⟩
    have HB6 : Hid (Below w.heap.size w w6) := bel2 HB5.out hb
    have r6 := row_below hb r5
    clear hb K0 HT5 HT6 HB5 r5 s5 m4 s4 HY4 HZ4 HB4 r4
    go_wp2_with fail
    refine (K5.out _ HB6.out).mono ?_
    rintro e w7 ⟨rfl, hb⟩
    have HB7 : Hid (Below w.heap.size w w7) := bel2 HB6.out hb
    have r7 := row_below hb r6
    clear hb K5 r6 HB6
    go_wp2_with fail
    refine (K6.out _ HB7.out).mono ?_
    rintro e w8 ⟨rfl, hb⟩
    have HB8 : Hid (Below w.heap.size w w8) := bel2 HB7.out hb
    have r8 := row_below hb r7
    clear hb K6 r7 HB7
    go_wp2_with (refine wpList_load_row rfl 32 _ rfl w.heap.size rfl 32 cs (0, 0) _ r8 Try.underlying32 rfl hi1 ?_)
    refine (K7.out _ HB8.out).mono ?_
    rintro e w9 ⟨v9, rfl, hg, hb⟩
    obtain ⟨ua, uc, e9⟩ := hg.shape
    dsimp only at hg e9
    rw [HM.out] at e9
    subst e9
    have HB9 : Hid (Below w.heap.size w w9) := bel2 HB8.out hb
    have r9 := row_below hb r8
    have HU9 : Hid (Tb w9 ua xs) := hg.tb
    clear hb hg K7 r8 HB8
    go_wp2_with (refine wpList_load_row rfl 32 _ rfl w.heap.size rfl 32 cs (0, 0) _ r9 Try.underlying32 rfl hi1 ?_)
    refine (K8.out _ HB9.out).mono ?_
    rintro e wa ⟨ya, yc, rfl, hty, hb⟩
    dsimp only at hty ⊢
    rw [HM.out]
    have HBa : Hid (Below w.heap.size w wa) := bel2 HB9.out hb
    have KS : Hid (Calls Try.prog 13 #[.slice ua m uc, .slice ya m yc] wa fun e w' => e = .returned (.bool true) ∧ Below wa.heap.size wa w') := K9.out wa ua uc ya yc (HU9.out.below hb) hty
    clear hb hty K8 r9 HB9 HU9 K9
    go_wp2_with fail
    refine KS.out.mono ?_
    rintro e wb ⟨rfl, hb⟩
    have HBb : Hid (Below w.heap.size w wb) := bel2 HBa.out hb
    clear hb KS
    go_wp2_with fail
    refine (KW.out _).mono ?_
    rintro e wc ⟨rfl, hb⟩
    have HBc : Hid (Below w.heap.size w wc) := bel2 HBb.out hb
    clear hb
    go_wp2_with fail
    go_ret
    exact ⟨rfl, HBc.out⟩
  · have d60 : decide (n ≤ 60) = false := decide_eq_false h60
    clear h60 h hr hy hn
    go_enter Try.func3, Try.ntmps3
    go_upto_region 1 with fail
    change Code.wp _ _ _ _ (w.alloc (.cells cs 32))
    generalize w.alloc (.cells cs 32) = W0 at b0 r0 ⊢
    go_wp2_with fail
    refine (KF.out W0).mono ?_
    rintro e w1 ⟨rfl, hw⟩
    have hw' := hw.symm
    subst hw'
    clear hw KF
    go_wp2_with fail
    refine (KW.out _).mono ?_
    rintro e wz ⟨rfl, hb⟩
    have HBz : Hid (Below w.heap.size w wz) := bel2 b0.out hb
    clear hb
    go_wp2_with fail
    go_ret
    exact ⟨rfl, HBz.out⟩
end Go.Proofs.Ytlcgjehepalmcaa
