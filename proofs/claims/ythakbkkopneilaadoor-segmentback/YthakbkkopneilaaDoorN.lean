/- The contract of the reference's Next. -/
import Derived.Test.YthakbkkopneilaaDoorL
namespace Go.Proofs.YthakbkkopneilaaDoor
open Go.ChangeShapes Go.WideShapes Go.ChangeAt Go.RowKit
theorem ne_cast (x y : Nat) : ((x : Int) != (y : Int)) = !decide (y = x) := by
  by_cases h : y = x
  · subst h; simp
  · have h2 : ¬ (x : Int) = (y : Int) := fun e => h (by omega)
    simp only [bne, h, decide_false, Bool.not_false]
    simp only [beq_eq_false_iff_ne.mpr h2, Bool.not_false]
theorem wrap_small (y : Nat) (h : y < 4294967296) : IntKind.i64.wrap (y : Int) = (y : Int) := by
  rw [IntKind.wrap_i64]
  omega
set_option maxHeartbeats 4000000 in
set_option maxRecDepth 100000 in
theorem rnext_calls (v : Value) (l : List UInt8) (w : World) (hv : Hb w v l) (hl : l.length ≤ 140737488355328) : Calls Tryd.prog 34 #[v] w (NX w (nextL l)) := by
  by_cases h9 : l.length < 9
  · have HR : Hid (nextL l = .bad 4) := by show _ = _; unfold nextL; rw [if_pos h9]
    have hd : decide ((l.length : Int) < 9) = true := decide_eq_true (by omega)
    obtain ⟨p, c, rfl, hc, hv'⟩ := hv
    clear hv'
    go_enter Tryd.func34, Tryd.ntmps34
    go_wp2
    refine bodyPost_ret (ret29 Tryd.results34 _ (g := w.heap.size) rfl rfl rfl (box20 w _ _) (box21 w _ _)) rfl ?_
    exact bad_nx HR.out rfl (below_alloc w _)
  · have hd : decide ((l.length : Int) < 9) = false := decide_eq_false (by omega)
    obtain ⟨n, hn⟩ : ∃ n, n = num4 l := ⟨_, rfl⟩
    have hnl := num4_lt l
    rw [← hn] at hnl
    have WC : Hid (∀ W, Below w.heap.size w W → Calls Tryd.prog 58 #[v] W fun e w' => e = .returned (.int .i64 (n : Int)) ∧ ∃ m, w' = W.drewN m) := fun W hW => by rw [hn]; exact number_calls v l W (hv.below hW) (by omega)
    have hnb : (n : Int) < 4294967296 := by omega
    by_cases h5 : 1048576 < n
    · have HR : Hid (nextL l = .bad 5) := by show _ = _; unfold nextL; rw [if_neg h9, ← hn, if_pos h5]
      have hd5 : decide (1048576 < (n : Int)) = true := decide_eq_true (by omega)
      obtain ⟨p, c, rfl, hc, hv'⟩ := hv
      clear hv' hn
      go_enter Tryd.func34, Tryd.ntmps34
      go_wp2_with fail
      refine (WC.out _ (below_alloc w _)).mono ?_
      rintro e w1 ⟨rfl, k1, hw1⟩
      have R1 : Rv w w1 := by rw [hw1]; exact (Rv.start w).step (belN _ _)
      clear hw1
      have HR1 : Hid (Rv w w1) := R1
      obtain ⟨_, _, r0, r1, r2, r3⟩ := R1
      go_wp2_with fail
      refine bodyPost_ret (ret29 Tryd.results34 _ (g := w.heap.size) rfl rfl rfl (set20 _ _ r0) (set21 _ _ r1)) rfl ?_
      exact bad_nx HR.out rfl (below_set2 HR1.out.below (Nat.le_refl _) _ _)
    · have hd5 : decide (1048576 < (n : Int)) = false := decide_eq_false (by omega)
      obtain ⟨N, hN⟩ : ∃ N, N = 9 + n := ⟨_, rfl⟩
      have hl9 : wrap64 ((l.length : Int) - 9) = (l.length : Int) - 9 := by unfold wrap64; omega
      by_cases hS : l.length < N
      · have HR : Hid (nextL l = .bad 4) := by show _ = _; unfold nextL; rw [if_neg h9, ← hn, if_neg h5, if_pos (by omega)]
        have hds : decide ((l.length : Int) - 9 < (n : Int)) = true := decide_eq_true (by omega)
        obtain ⟨p, c, rfl, hc, hv'⟩ := hv
        clear hv' hn hN
        go_enter Tryd.func34, Tryd.ntmps34
        go_wp2_with fail
        refine (WC.out _ (below_alloc w _)).mono ?_
        rintro e w1 ⟨rfl, k1, hw1⟩
        have R1 : Rv w w1 := by rw [hw1]; exact (Rv.start w).step (belN _ _)
        clear hw1
        have HR1 : Hid (Rv w w1) := R1
        obtain ⟨_, _, r0, r1, r2, r3⟩ := R1
        go_wp2_with fail
        refine bodyPost_ret (ret29 Tryd.results34 _ (g := w.heap.size) rfl rfl rfl (set20 _ _ r0) (set21 _ _ r1)) rfl ?_
        exact bad_nx HR.out rfl (below_set2 HR1.out.below (Nat.le_refl _) _ _)
      · have hds : decide ((l.length : Int) - 9 < (n : Int)) = false := decide_eq_false (by omega)
        have hge9 : ¬ l.length < 9 + n := by omega
        obtain ⟨v4, e4, q4⟩ := cut_l 4 hv (by omega)
        obtain ⟨v9, e9, q9⟩ := cut_lh 9 N hv (by omega) (by omega)
        obtain ⟨k8, hk8⟩ : ∃ k8, l[8]? = some k8 := ⟨_, List.getElem?_eq_getElem (by omega)⟩
        obtain ⟨pl, hpl⟩ : ∃ pl, pl = (l.drop 9).take n := ⟨_, rfl⟩
        have hpl2 : (l.take N).drop 9 = pl := by rw [hpl, hN, Nat.add_comm, List.drop_take, Nat.add_sub_cancel]
        have hpl8 : (l.take N).drop 8 = k8 :: pl := by
          have h8 : 8 < (l.take N).length := by simp; omega
          rw [List.drop_eq_getElem_cons h8, hpl2]
          congr 1
          rw [List.getElem_take]
          exact (List.getElem?_eq_some_iff.1 hk8).2
        have hplen : pl.length = n := by rw [hpl]; simp; omega
        rw [hpl2] at q9
        obtain ⟨sm, hsm⟩ : ∃ sm, sm = more 0 (k8 :: pl) := ⟨_, rfl⟩
        have hsmlt : sm < 4294967296 := by rw [hsm]; exact more_lt 0 _ (by omega)
        obtain ⟨x, hx⟩ : ∃ x, x = num4 (l.drop 4) := ⟨_, rfl⟩
        have hxlt : x < 4294967296 := by rw [hx]; exact num4_lt _
        have SC : Hid (∀ W u, Lib.HoldsBytes W u pl → Calls Tryd.prog 50 #[.int .u8 (k8.toNat : Int), u] W fun e w' => e = .returned (.int .u32 (sm : Int)) ∧ Below W.heap.size W w') := fun W u hu => by
          rw [hsm]; exact rsum2_calls k8 u pl W hu (by omega)
        have W4 : Hid (∀ W, Below w.heap.size w W → Calls Tryd.prog 58 #[v4] W fun e w' => e = .returned (.int .i64 (x : Int)) ∧ ∃ m, w' = W.drewN m) := fun W hW => by
          rw [hx]; exact number_calls v4 _ W (q4 W (hv.below hW)) (by simp; omega)
        have s4 : ∀ W, (Instr.slice 22 v (some (.int .i64 4)) none none).run Tryd.prog W = .ok v4 W := e4
        have s9 : ∀ W, (Instr.slice 22 v (some (.int .i64 9)) (some (.int .i64 (9 + (n : Int)))) none).run Tryd.prog W = .ok v9 W := fun W => by
          have := e9 W
          rwa [show (N : Int) = 9 + (n : Int) by omega] at this
        have H9 : Hid (∀ W, Below w.heap.size w W → Lib.HoldsBytes W v9 pl) := fun W hW => (q9 W (hv.below hW)).holds
        have hw9 : wrap64 (9 + (n : Int)) = 9 + (n : Int) := by unfold wrap64; omega
        obtain ⟨B8, o8, c8, hvv, hc8, hcell⟩ := hv.place (by omega)
        have H8 : Hid (∀ W, Below w.heap.size w W → W.cell? ⟨B8, o8 + 8, none⟩ = some (.int .u8 (k8.toNat : Int))) := fun W hW => Lib.Below.cellOf hW (hcell 8 k8 hk8) (Nat.le_refl _)
        have HPL : Hid (pl.length = n) := hplen
        have hsb : (sm : Int) < 4294967296 := by omega
        have hk8b : wrap64 (k8.toNat : Int) = (k8.toNat : Int) := by have := k8.toNat_lt; unfold wrap64; omega
        clear e4 e9 q4 q9 hcell hv hpl2
        subst hvv
        have h8l : (8 : Int) < (l.length : Int) := by omega
        have HQ : Hid (nextL l = if sm = x then .ok k8 pl else .bad 9) := by
          show _ = _
          unfold nextL
          rw [if_neg h9, ← hn, if_neg h5, if_neg hge9, ← hN, hpl8, ← hsm, ← hx, ← hpl]
          by_cases h : sm = x
          · rw [if_neg (by simpa using h), if_pos h]; simp [hk8]
          · rw [if_pos h, if_neg h]
        have hdq := ne_cast x sm
        have hwr : IntKind.i64.wrap (sm : Int) = (sm : Int) := wrap_small sm hsmlt
        clear hn hN hsm hx hpl hpl8 hplen hsmlt hxlt hge9
        go_enter Tryd.func34, Tryd.ntmps34
        go_wp2_with fail
        refine (WC.out _ (below_alloc w _)).mono ?_
        rintro e w1 ⟨rfl, k1, hw1⟩
        have HR1 : Hid (Rv w w1) := by show Rv w w1; rw [hw1]; exact (Rv.start w).step (belN _ _)
        clear hw1
        obtain ⟨u2, w2, hr2, ho2, hb2⟩ := app_run (Own.nil w1.heap.size w1) (H9.out w1 HR1.out.below) (Nat.le_refl _) (by have := HPL.out; simp; omega)
        rw [List.nil_append] at ho2
        have O2 : Hid (Own w1.heap.size w2 u2 pl) := ho2
        have R2 : Hid (Rv w w2) := HR1.out.step hb2
        clear ho2 hb2
        go_wp2_with (at_builtin; refine Lib.wpList_append_run _ rfl _ _ 22 22 rfl _ _ rfl rfl _ _ (hr2 _) ?_)
        have t8 := H8.out w2 R2.out.below
        go_region_held3 (fun w' => w'.cell? ⟨B8, o8 + 8, none⟩ = some (.int .u8 (k8.toNat : Int))) (go_keep) (first | (go_at_call 58; refine (W4.out w2.drew R2.out.below.drew).mono ?_; rintro e w3 ⟨rfl, k3, hw3⟩; have R3 : Hid (Rv w w3) := (by rw [hw3]; exact (R2.out.step ((Below.refl _ _).drew)).step (belN _ _)); have O3 : Hid (Own w1.heap.size w3 u2 pl) := (by rw [hw3]; exact O2.out); have t3 := H8.out w3 R3.out.below; clear hw3) | (go_at_call 50; refine (SC.out _ _ O3.out.holds).mono ?_; rintro e w4 ⟨rfl, hb4⟩; have R4 : Hid (Rv w w4) := R3.out.step hb4; have O4 : Hid (Own w1.heap.size w4 u2 pl) := O3.out.below hb4; have t4 := H8.out w4 R4.out.below; clear hb4))
        have hn20 : (n : Int) ≤ 1048576 := by omega
        clear t8 hl9 hwr hw9 hl hnb hd hd5 hds s4 s9 hr2 h9 h5 hS hsb hnl
        have t0 := R4.out.c0
        have t1 := R4.out.c1
        have t2 := R4.out.f0
        have t3 := R4.out.f1
        have t8 := H8.out w4 R4.out.below
        by_cases hq : sm = x
        · have HR : Hid (nextL l = .ok k8 pl) := by show _ = _; rw [HQ.out, if_pos hq]
          rw [decide_eq_true hq, Bool.not_true]
          clear hq HQ hdq
          obtain ⟨pu, cu, rfl, _, _⟩ := O4.out.hb
          go_wp2_with fail
          refine bodyPost_ret (ret29 Tryd.results34 _ (g := w.heap.size) rfl rfl rfl (set20 _ _ t0) (set21 _ _ t1)) rfl ?_
          rw [HR.out]
          refine ⟨.slice pu pl.length cu, ?_, ?_, below_set2 R4.out.below (Nat.le_refl _) _ _⟩
          · rw [HPL.out]
            first | rfl | (rw [hk8b]; rfl)
          · have hge : w.heap.size + 1 ≤ w1.heap.size := HR1.out.more
            refine O4.out.other (fun k hk => ?_) (by omega)
            rw [Below.heap_setCell _ _ _ _ (show k ≠ w.heap.size by omega), Below.heap_setCell _ _ _ _ (show k ≠ w.heap.size by omega)]
        · have HR : Hid (nextL l = .bad 9) := by show _ = _; rw [HQ.out, if_neg hq]
          rw [decide_eq_false hq, Bool.not_false]
          clear hq HQ hdq
          go_wp2_with fail
          refine bodyPost_ret (ret29 Tryd.results34 _ (g := w.heap.size) rfl rfl rfl (set20 _ _ t0) (set21 _ _ t1)) rfl ?_
          exact bad_nx HR.out rfl (below_set2 R4.out.below (Nat.le_refl _) _ _)
end Go.Proofs.YthakbkkopneilaaDoor
