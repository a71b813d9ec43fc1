/- The contract of the program's Next. -/
import Derived.Test.YthakbkkopneilaaDoorI
namespace Go.Proofs.YthakbkkopneilaaDoor
open Go.ChangeShapes Go.WideShapes Go.ChangeAt Go.RowKit
/-- copy(b, x) into bytes of the call's own that x fills, whatever more x has. -/
theorem own_copy2 {B : Nat} {w0 w : World} {g N : Nat} {l m : List UInt8} {x : Value} (ho : Own B w (.slice (some ⟨g, 0, none⟩) N N) l) (hN : N = l.length) (hx : Lib.HoldsBytes w x m) (hB : w0.heap.size ≤ g) (hb : Below w0.heap.size w0 w) (hom : N ≤ m.length) :
    ∃ w', (∀ ty, (Builtin.copy_ #[22, 22] ty #[.slice (some ⟨g, 0, none⟩) N N, x]).run Tryd.prog w = .ok (.int .i64 (N : Int)) w') ∧ Own B w' (.slice (some ⟨g, 0, none⟩) N N) (m.take N) ∧ Below w0.heap.size w0 w' := by
  subst hN
  obtain ⟨p, cap, rfl, h1, h2⟩ := hx
  by_cases hm : l = []
  · subst hm
    refine ⟨w, fun ty => ?_, ?_, hb⟩
    · exact run_copy_none (P := Tryd.prog) w 22 22 ty 5 _ p _ _ m.length cap Tryd.underlying22 size5 (by simp)
    · rw [List.length_nil, List.take_zero]
      exact ho
  · have hpos : 0 < l.length := List.length_pos_iff.2 hm
    obtain ⟨a, rfl⟩ : ∃ a, p = some a := by
      cases p with
      | none => have := h1 rfl; subst this; exact absurd (by simpa using hom) hm
      | some a => exact ⟨a, rfl⟩
    obtain ⟨q1, ⟨h', _⟩ | ⟨g', cap', cur, h', hBg, hg, hnc, hcm, hcs, ht⟩⟩ := ho
    · simp at h'
    · simp only [Value.slice.injEq, Option.some.injEq, Addr.mk.injEq, and_true, true_and] at h'
      obtain ⟨rfl, rfl⟩ := h'
      rw [Nat.mul_one] at ht hcs
      have hlen : (m.take l.length).length = l.length := by simp; omega
      have hr := fun ty => run_copy_row (P := Tryd.prog) w 22 22 ty 5 g 0 l.length l.length a m.length cap cur 5 (bval (m.take l.length)) Tryd.underlying22 size5 hg (by rw [bval_length, hlen]; exact (Nat.min_eq_right hom).symm)
        (fun j u hj => by
          obtain ⟨y, hy, rfl⟩ := bval_at hj
          have hj2 : j < l.length := by have := (List.getElem?_eq_some_iff.1 hy).1; omega
          rw [List.getElem?_take_of_lt hj2] at hy
          exact h2 a rfl j y hy) (by rw [bval_length, hcs, hlen]; omega) (bval_one _)
      have e : (cur.toList.take 0 ++ bval (m.take l.length) ++ cur.toList.drop (0 + (bval (m.take l.length)).length)) = bval (m.take l.length) := by
        rw [List.take_zero, List.nil_append, List.drop_of_length_le (by rw [bval_length, hlen, Array.length_toList, hcs]; omega), List.append_nil]
      refine ⟨w.setRow g (bval (m.take l.length)).toArray, fun ty => ?_, ?_, below_setRow hb hB _⟩
      · rw [hr ty, e, bval_length, hlen]
        rfl
      · unfold Own
        rw [hlen]
        refine ⟨by rw [bval_length, hlen, Nat.mul_one], .inr ⟨g, l.length, _, rfl, hBg, setRow_heap w g cur _ 5 _ hg, Nat.le_refl _, hcm, by simp [bval_length, hlen], ?_⟩⟩
        exact List.take_of_length_le (by simp [bval_length, hlen])
theorem box20 (w : World) (c0 c1 : Value) : (w.alloc (.cells #[c0, c1] 57)).cell? ⟨w.heap.size, 0, none⟩ = some c0 := by simp
theorem box21 (w : World) (c0 c1 : Value) : (w.alloc (.cells #[c0, c1] 57)).cell? ⟨w.heap.size, 1, none⟩ = some c1 := by simp
theorem set20 {w : World} {g : Nat} {z0 : Value} (c0 c1 : Value) (h0 : w.cell? ⟨g, 0, none⟩ = some z0) : ((w.setCell ⟨g, 0, none⟩ c0).setCell ⟨g, 1, none⟩ c1).cell? ⟨g, 0, none⟩ = some c0 := by
  rw [World.cell?_setCell_other _ _ _ _ (fun e => by injection e with _ e; cases e)]
  exact World.cell?_setCell_same _ _ _ h0
theorem set21 {w : World} {g : Nat} {z1 : Value} (c0 c1 : Value) (h1 : w.cell? ⟨g, 1, none⟩ = some z1) : ((w.setCell ⟨g, 0, none⟩ c0).setCell ⟨g, 1, none⟩ c1).cell? ⟨g, 1, none⟩ = some c1 :=
  World.cell?_setCell_same _ _ _ ((World.cell?_setCell_other _ _ _ _ (fun e => by injection e with _ e; cases e)).trans h1)
theorem below_set2 {w W : World} {g : Nat} (hb : Below w.heap.size w W) (hg : w.heap.size ≤ g) (c0 c1 : Value) : Below w.heap.size w ((W.setCell ⟨g, 0, none⟩ c0).setCell ⟨g, 1, none⟩ c1) :=
  (hb.setCell (p := ⟨g, _, none⟩) hg _).setCell (p := ⟨g, _, none⟩) hg _
/-- The result's own variable, as it was made. -/
structure Rv (w W : World) : Prop where
  below : Below w.heap.size w W
  more : w.heap.size + 1 ≤ W.heap.size
  c0 : W.cell? ⟨w.heap.size, 0, none⟩ = some (.int .i64 0)
  c1 : W.cell? ⟨w.heap.size, 1, none⟩ = some (.slice none 0 0)
  f0 : W.frozen? ⟨w.heap.size, 0, none⟩ = false
  f1 : W.frozen? ⟨w.heap.size, 1, none⟩ = false
theorem Rv.start (w : World) : Rv w (w.alloc (.cells #[.int .i64 0, .slice none 0 0] 57)) := by
  refine ⟨below_alloc w _, by simp, by simp, by simp, ?_, ?_⟩
  · exact World.frozen?_alloc_mark w _ 57 0 0 0 |>.trans (by simp)
  · exact World.frozen?_alloc_mark w _ 57 0 0 1 |>.trans (by simp)
theorem Rv.step {w W W' : World} (h : Rv w W) (hb : Below W.heap.size W W') : Rv w W' := by
  have hlt : w.heap.size < W.heap.size := h.more
  exact ⟨h.below.trans (hb.mono h.below.size), Nat.le_trans h.more hb.size, (hb.cell hlt).trans h.c0, (hb.cell hlt).trans h.c1, (hb.frozen hlt).trans h.f0, (hb.frozen hlt).trans h.f1⟩
theorem Own.other {B B' : Nat} {w w' : World} {v : Value} {l : List UInt8} (h : Own B w v l) (hk : ∀ k, B ≤ k → w'.heap[k]? = w.heap[k]?) (hB : B' ≤ B) : Own B' w' v l := by
  obtain ⟨a1, a2 | ⟨g, cap, cur, hv, hg0, hg, r⟩⟩ := h
  · exact ⟨a1, .inl a2⟩
  · exact ⟨a1, .inr ⟨g, cap, cur, hv, Nat.le_trans hB hg0, (hk g hg0).trans hg, r⟩⟩
theorem bad_nx {w w' : World} {r : Nx} {c : Int} {e : Ending} (hr : r = .bad c) (he : e = .returned (.tuple #[.agg #[.int .i64 0, .slice none 0 0], .int .i64 0, .int .i64 c])) (hb : Below w.heap.size w w') : NX w r e w' := by
  subst hr; exact ⟨he, hb⟩
set_option maxHeartbeats 4000000 in
set_option maxRecDepth 100000 in
theorem next_calls (v : Value) (l : List UInt8) (w : World) (hv : Hb w v l) (ht : Tb w) (hl : l.length ≤ 140737488355328) : Calls Tryd.prog 57 #[v] w (NX w (nextL l)) := by
  by_cases h9 : l.length < 9
  · have HR : Hid (nextL l = .bad 4) := by show _ = _; unfold nextL; rw [if_pos h9]
    have hd : decide ((l.length : Int) < 9) = true := decide_eq_true (by omega)
    obtain ⟨p, c, rfl, hc, hv'⟩ := hv
    clear hv' ht
    go_enter Tryd.func57, Tryd.ntmps57
    go_wp2
    refine bodyPost_ret (ret29 Tryd.results57 _ (g := w.heap.size) rfl rfl rfl (box20 w _ _) (box21 w _ _)) rfl ?_
    exact bad_nx HR.out rfl (below_alloc w _)
  · have hd : decide ((l.length : Int) < 9) = false := decide_eq_false (by omega)
    obtain ⟨n, hn⟩ : ∃ n, n = num4 l := ⟨_, rfl⟩
    have hnl := num4_lt l
    rw [← hn] at hnl
    have WC : Hid (∀ W, Below w.heap.size w W → Calls Tryd.prog 69 #[v] W fun e w' => e = .returned (.int .u32 (n : Int)) ∧ ∃ m, w' = W.drewN m) := fun W hW => by rw [hn]; exact word_calls v l W (hv.below hW) (by omega)
    by_cases h5 : 1048576 < n
    · have HR : Hid (nextL l = .bad 5) := by show _ = _; unfold nextL; rw [if_neg h9, ← hn, if_pos h5]
      have SZ : Hid (∀ W, Calls Tryd.prog 44 #[.int .i64 (n : Int)] W fun e w' => e = .returned (.int .i64 0) ∧ w' = W) := fun W => by
        have := size_calls (n : Int) W
        rwa [if_pos (by omega)] at this
      have hnb : (n : Int) < 4294967296 := by omega
      obtain ⟨p, c, rfl, hc, hv'⟩ := hv
      clear hv' ht hn
      go_enter Tryd.func57, Tryd.ntmps57
      go_wp2_with fail
      refine (WC.out _ (below_alloc w _)).mono ?_
      rintro e w1 ⟨rfl, k1, hw1⟩
      have R1 : Rv w w1 := by rw [hw1]; exact (Rv.start w).step (belN _ _)
      clear hw1
      have HR1 : Hid (Rv w w1) := R1
      obtain ⟨_, _, r0, r1, r2, r3⟩ := R1
      go_wp2_with fail
      refine (SZ.out _).mono ?_
      rintro e w2 ⟨rfl, hw2⟩
      have hw3 := hw2.symm
      subst hw3
      clear hw2
      go_wp2_with fail
      refine bodyPost_ret (ret29 Tryd.results57 _ (g := w.heap.size) rfl rfl rfl (set20 _ _ r0) (set21 _ _ r1)) rfl ?_
      exact bad_nx HR.out rfl (below_set2 HR1.out.below (Nat.le_refl _) _ _)
    · have HN : Hid (n = num4 l) := hn
      obtain ⟨N, hN⟩ : ∃ N, N = 9 + n := ⟨_, rfl⟩
      have SZ : Hid (∀ W, Calls Tryd.prog 44 #[.int .i64 (n : Int)] W fun e w' => e = .returned (.int .i64 (N : Int)) ∧ w' = W) := fun W => by
        have := size_calls (n : Int) W
        rwa [if_neg (by omega), show (9 + (n : Int)) = (N : Int) by omega] at this
      have hN0 : ((N : Int) == 0) = false := by simp; omega
      have hnb : (n : Int) < 4294967296 := by omega
      by_cases hS : l.length < N
      · have HR : Hid (nextL l = .bad 4) := by show _ = _; unfold nextL; rw [if_neg h9, ← hn, if_neg h5, if_pos (by omega)]
        have hds : decide ((l.length : Int) < (N : Int)) = true := decide_eq_true (by omega)
        obtain ⟨p, c, rfl, hc, hv'⟩ := hv
        clear hv' ht hn hN
        go_enter Tryd.func57, Tryd.ntmps57
        go_wp2_with fail
        refine (WC.out _ (below_alloc w _)).mono ?_
        rintro e w1 ⟨rfl, k1, hw1⟩
        have R1 : Rv w w1 := by rw [hw1]; exact (Rv.start w).step (belN _ _)
        clear hw1
        have HR1 : Hid (Rv w w1) := R1
        obtain ⟨_, _, r0, r1, r2, r3⟩ := R1
        go_wp2_with fail
        refine (SZ.out _).mono ?_
        rintro e w2 ⟨rfl, hw2⟩
        have hw3 := hw2.symm
        subst hw3
        clear hw2
        go_wp2_with fail
        refine bodyPost_ret (ret29 Tryd.results57 _ (g := w.heap.size) rfl rfl rfl (set20 _ _ r0) (set21 _ _ r1)) rfl ?_
        exact bad_nx HR.out rfl (below_set2 HR1.out.below (Nat.le_refl _) _ _)
      · have hds : decide ((l.length : Int) < (N : Int)) = false := decide_eq_false (by omega)
        obtain ⟨v8, e8, q8⟩ := cut_lh 8 N hv (by omega) (by omega)
        obtain ⟨v4, e4, q4⟩ := cut_l 4 hv (by omega)
        obtain ⟨v9, e9, q9⟩ := cut_l 9 hv (by omega)
        obtain ⟨sm, hsm⟩ : ∃ sm, sm = more 0 ((l.take N).drop 8) := ⟨_, rfl⟩
        obtain ⟨x, hx⟩ : ∃ x, x = num4 (l.drop 4) := ⟨_, rfl⟩
        have SC : Hid (∀ W, Below w.heap.size w W → Calls Tryd.prog 46 #[v8] W fun e w' => e = .returned (.int .u32 (sm : Int)) ∧ w' = W) := fun W hW => by
          rw [hsm]; exact sum_calls v8 _ W (q8 W (hv.below hW)).holds (ht.below hW) (by simp; omega)
        have W4 : Hid (∀ W, Below w.heap.size w W → Calls Tryd.prog 69 #[v4] W fun e w' => e = .returned (.int .u32 (x : Int)) ∧ ∃ m, w' = W.drewN m) := fun W hW => by
          rw [hx]; exact word_calls v4 _ W (q4 W (hv.below hW)) (by simp; omega)
        have s8 : ∀ W, (Instr.slice 22 v (some (.int .i64 8)) (some (.int .i64 (N : Int))) none).run Tryd.prog W = .ok v8 W := e8
        have s4 : ∀ W, (Instr.slice 22 v (some (.int .i64 4)) none none).run Tryd.prog W = .ok v4 W := e4
        have s9 : ∀ W, (Instr.slice 22 v (some (.int .i64 9)) none none).run Tryd.prog W = .ok v9 W := e9
        have H9 : Hid (∀ W, Below w.heap.size w W → Lib.HoldsBytes W v9 (l.drop 9)) := fun W hW => (q9 W (hv.below hW)).holds
        obtain ⟨k8, hk8⟩ : ∃ k8, l[8]? = some k8 := ⟨_, List.getElem?_eq_getElem (by omega)⟩
        obtain ⟨B8, o8, c8, hvv, hc8, hcell⟩ := hv.place (by omega)
        have H8 : Hid (∀ W, Below w.heap.size w W → W.cell? ⟨B8, o8 + 8, none⟩ = some (.int .u8 (k8.toNat : Int))) := fun W hW => Lib.Below.cellOf hW (hcell 8 k8 hk8) (Nat.le_refl _)
        clear e8 e4 e9 q8 q4 q9 hcell hv ht
        subst hvv
        have h8l : (8 : Int) < (l.length : Int) := by omega
        by_cases hq : sm = x
        · have HR : Hid (nextL l = .ok k8 ((l.drop 9).take n)) := by
            show _ = _
            unfold nextL
            rw [if_neg h9, ← hn, if_neg h5, if_neg (by omega), ← hN, ← hsm, ← hx, if_neg (by simpa using hq)]
            simp [hk8]
          have HLen : Hid (((l.drop 9).take n).length = n) := by show _ = _; simp; omega
          have hdq : ((sm : Int) != (x : Int)) = false := by simp; omega
          have hsub : wrap64 ((N : Int) - 9) = (n : Int) := by unfold wrap64; omega
          have hsub2 : (N : Int) - 9 = (n : Int) := by omega
          have hmk : ∀ W, (Instr.makeSlice 22 (.int .i64 ((N : Int) - 9)) (.int .i64 ((N : Int) - 9))).run Tryd.prog W = .ok (.slice (some ⟨W.heap.size, 0, none⟩) n n) (W.alloc (.cells (zeros n).toArray 5)) := fun W => by rw [hsub2]; exact make_bytes n (by omega) W
          clear hsub2
          have HLN : Hid (n ≤ (l.drop 9).length ∧ N = 9 + n) := by refine ⟨?_, hN⟩; simp; omega
          clear hn hN hsm hx hq
          go_enter Tryd.func57, Tryd.ntmps57
          go_wp2_with fail
          refine (WC.out _ (below_alloc w _)).mono ?_
          rintro e w1 ⟨rfl, k1, hw1⟩
          have R1 : Rv w w1 := by rw [hw1]; exact (Rv.start w).step (belN _ _)
          clear hw1
          have HR1 : Hid (Rv w w1) := R1
          obtain ⟨_, _, r0, r1, r2, r3⟩ := R1
          go_wp2_with fail
          refine (SZ.out _).mono ?_
          rintro e w2 ⟨rfl, hw2⟩
          have hw3 := hw2.symm
          subst hw3
          clear hw2
          go_wp2_with fail
          go_region_held3 (fun _ => True) (go_keep) (first | (go_at_call 46; refine (SC.out w1.drew HR1.out.below.drew).mono ?_; rintro e w3 ⟨rfl, hw3⟩; have hx3 := hw3.symm; subst hx3; clear hw3) | (go_at_call 69; refine (W4.out w1.drew HR1.out.below.drew).mono ?_; rintro e w4 ⟨rfl, k4, hw4⟩; have R4 : Hid (Rv w w4) := (by rw [hw4]; exact (HR1.out.step ((Below.refl _ _).drew)).step (belN _ _)); clear hw4))
          clear r0 r1 r2 r3
          have R5 : Hid (Rv w (w4.alloc (.cells (zeros n).toArray 5))) := R4.out.step (below_alloc w4 _)
          obtain ⟨w6, hcp, ho6, hb6⟩ := own_copy2 (own_made w4 n (by omega)) (by simp) (H9.out _ R5.out.below) (Nat.le_refl _) (below_alloc w4 _) HLN.out.1
          have O6 : Hid (Own w4.heap.size w6 (.slice (some ⟨w4.heap.size, 0, none⟩) n n) ((l.drop 9).take n)) := ho6
          have R6 : Hid (Rv w w6) := R4.out.step hb6
          clear ho6 hb6
          have t0 := R6.out.c0
          have t1 := R6.out.c1
          have t2 := R6.out.f0
          have t3 := R6.out.f1
          have t8 := H8.out w6 R6.out.below
          have hk8b : wrap64 (k8.toNat : Int) = (k8.toNat : Int) := by have := k8.toNat_lt; unfold wrap64; omega
          go_wp2_with (at_builtin; refine Lib.wpList_copy_run _ rfl _ _ 22 22 rfl _ _ rfl rfl (hcp _) ?_)
          refine bodyPost_ret (ret29 Tryd.results57 _ (g := w.heap.size) rfl rfl rfl (set20 _ _ t0) (set21 _ _ t1)) rfl ?_
          rw [HR.out]
          refine ⟨.slice (some ⟨w4.heap.size, 0, none⟩) n n, ?_, ?_, below_set2 R6.out.below (Nat.le_refl _) _ _⟩
          · rw [HLen.out, ← HLN.out.2]
            first | rfl | rw [hk8b]
          · have hge : w.heap.size + 1 ≤ w4.heap.size := R4.out.more
            refine O6.out.other (fun k hk => ?_) (by omega)
            rw [Below.heap_setCell _ _ _ _ (show k ≠ w.heap.size by omega), Below.heap_setCell _ _ _ _ (show k ≠ w.heap.size by omega)]
        · have HR : Hid (nextL l = .bad 9) := by show _ = _; unfold nextL; rw [if_neg h9, ← hn, if_neg h5, if_neg (by omega), ← hN, ← hsm, ← hx, if_pos hq]
          have hdq : ((sm : Int) != (x : Int)) = true := by simp; omega
          clear hn hN hsm hx hq
          go_enter Tryd.func57, Tryd.ntmps57
          go_wp2_with fail
          refine (WC.out _ (below_alloc w _)).mono ?_
          rintro e w1 ⟨rfl, k1, hw1⟩
          have R1 : Rv w w1 := by rw [hw1]; exact (Rv.start w).step (belN _ _)
          clear hw1
          have HR1 : Hid (Rv w w1) := R1
          obtain ⟨_, _, r0, r1, r2, r3⟩ := R1
          go_wp2_with fail
          refine (SZ.out _).mono ?_
          rintro e w2 ⟨rfl, hw2⟩
          have hw3 := hw2.symm
          subst hw3
          clear hw2
          go_wp2_with fail
          go_region_held3 (fun _ => True) (go_keep) (first | (go_at_call 46; refine (SC.out w1.drew HR1.out.below.drew).mono ?_; rintro e w3 ⟨rfl, hw3⟩; have hx3 := hw3.symm; subst hx3; clear hw3) | (go_at_call 69; refine (W4.out w1.drew HR1.out.below.drew).mono ?_; rintro e w4 ⟨rfl, k4, hw4⟩; have R4 : Hid (Rv w w4) := (by rw [hw4]; exact (HR1.out.step ((Below.refl _ _).drew)).step (belN _ _)); clear hw4))
          clear r0 r1 r2 r3
          have t0 := R4.out.c0
          have t1 := R4.out.c1
          have t2 := R4.out.f0
          have t3 := R4.out.f1
          go_wp2_with fail
          refine bodyPost_ret (ret29 Tryd.results57 _ (g := w.heap.size) rfl rfl rfl (set20 _ _ t0) (set21 _ _ t1)) rfl ?_
          exact bad_nx HR.out rfl (below_set2 R4.out.below (Nat.le_refl _) _ _)
end Go.Proofs.YthakbkkopneilaaDoor
