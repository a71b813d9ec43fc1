/- The contract of the reference's shape. -/
import Derived.Test.YtlcgjehepalmcaaYA
import Derived.Test.YtlcgjehepalmcaaYB
namespace Go.Proofs.Ytlcgjehepalmcaa
open Go.ChangeShapes Go.WideShapes Go.ChangeAt Go.RowKit Go.BigFrame
def ShapeAt (n : Nat) : Prop := ∀ (v : Value) (t : Tv) (d : Int) (w : World), 0 ≤ d → d ≤ 4 → Is w n v t → Calls Try.prog 63 #[v, .int .i64 d] w (FP (ShapeT n d t) w)
set_option maxHeartbeats 2000000 in
set_option maxRecDepth 100000 in
theorem shape_y4 (n : Nat) (ih : ShapeAt n) (a : Option Addr) (c : Nat) (l : List Tv) (d : Int) (w : World) (hl : l.length ≤ 12) (d0 : 0 ≤ d) (d4 : d ≤ 4) (hd : d ≠ 0) (hr : Row (Is w n) w a l) (p : Prop) (hp : p ↔ ∀ (i : Nat) t, l[i]? = some t → ShapeT n (d - 1) t) :
    Calls Try.prog 63 #[.agg #[.int .i64 4, .int .i64 0, .int .u64 0, .string ⟨#[]⟩, .slice a l.length c], .int .i64 d] w (FP p w) := by
  obtain ⟨N, hN⟩ : ∃ N, N = l.length := ⟨_, rfl⟩
  obtain ⟨e, he⟩ : ∃ e : Int, e = d - 1 := ⟨_, rfl⟩
  have hw1 : wrap64 (d - 1) = e := by rw [he]; unfold wrap64; omega
  have hw2 : IntKind.i64.wrap (d - 1) = e := by rw [he, IntKind.wrap_i64]; omega
  rw [← hN]
  rw [← he] at hp
  have HP : Hid (p ↔ ∀ (i : Nat) t, l[i]? = some t → ShapeT n e t) := hp
  have HR : Hid (Row (Is w n) w a l) := hr
  have HN : Hid (N = l.length ∧ N ≤ 12) := ⟨hN, by omega⟩
  have HI : Hid (∀ (v : Value) (t : Tv) (w : World), Is w n v t → Calls Try.prog 63 #[v, .int .i64 e] w (FP (ShapeT n e t) w)) := fun v t w h => ih v t e w (by omega) (by omega) h
  have HC : Hid (∀ w, Calls Try.prog 68 #[.int .u64 0] w fun e w' => e = .returned (.int .u64 0) ∧ w' = w) := fun w => refCanon_calls 0 w
  have f1 : decide (12 < (N : Int)) = false := decide_eq_false (by omega)
  have f2 : decide (12 < N) = false := decide_eq_false (by omega)
  have f3 : (d == 0) = false := by simpa using hd
  clear hp hr hN hl d0 d4 hd he ih
  go_enter Try.func63, Try.ntmps63
  go_wp2_with fail
  refine wp_region_quiet_lit (by kernel_rfl) (by kernel_rfl) ?_
  repeat (go_big_quiet_step (first | (go_at_call 68; exact Calls.quiet_of_same (HC.out _))))
  refine wpQuiet_nil ?_
  intro _ hw'
  obtain ⟨nq, hw''⟩ := hw'
  subst hw''
  generalize hW0 : w.alloc (Obj.cells #[.int .i64 4, .int .i64 0, .int .u64 0, .string ⟨#[]⟩, .slice a N c] 26) = W0
  have hg : (W0.drewN nq).cell? ⟨w.heap.size, 4, none⟩ = some (.slice a N c) := by subst hW0; rw [World.cell?_drewN]; go_simp
  have HB : Hid (Below w.heap.size w (W0.drewN nq)) := by subst hW0; exact bel2 (bel1 _ _) (belN _ _)
  have HS : Hid (w.heap.size < (W0.drewN nq).heap.size) := by subst hW0; show _ < _; simp [World.drewN]
  generalize W0.drewN nq = W1 at hg HB HS ⊢
  clear hW0 f1 f2 f3
  have HG : Hid (W1.cell? ⟨w.heap.size, 4, none⟩ = some (.slice a N c)) := hg
  clear hg
  go_wp2_with fail
  go_loopw [5] (fun i wr => ∃ j : Nat, j ≤ N ∧ i = .int .i64 j ∧ Hid (∀ (i : Nat) t, i < j → l[i]? = some t → ShapeT n e t) ∧ Hid (Below W1.heap.size W1 wr)) (fun i _ => N - (intOf i).toNat)
  case atStart => exact ⟨0, Nat.zero_le _, rfl, fun i t hi => absurd hi (Nat.not_lt_zero i), Below.refl _ _⟩
  case round =>
    obtain ⟨j, hj, rfl, HE, HBr⟩ := hrel
    have g0 : wr.cell? ⟨w.heap.size, 4, none⟩ = some (.slice a N c) := (HBr.out.cell HS.out).trans HG.out
    by_cases hlt : j < N
    · have HT : Hid (j < l.length) := by have := HN.out.1; show _ < _; omega
      obtain ⟨B, o, c0, c1, c2, c3, c4, rfl, h5, hi⟩ := HR.out j _ (List.getElem?_eq_getElem HT.out)
      obtain ⟨k', x', b', s', a', m', c', rfl, rfl, rfl, rfl, rfl⟩ := hi.shape
      have HBw := bel2 HB.out HBr.out
      obtain ⟨e0, e1, e2, e3, e4⟩ := h5.below HBw
      have C0 : Hid (Calls Try.prog 63 #[_, .int .i64 e] wr _) := HI.out _ _ wr (hi.below HBw)
      have HW : Hid (wrap64 ((j : Int) + 1) = ((j + 1 : Nat) : Int)) := wr1 hlt (by have := HN.out.2; omega)
      have hjl : (j : Int) < (N : Int) := by omega
      clear hi h5 HBw
      go_wp2_with fail
      refine C0.out.mono ?_
      rintro x w1 ⟨⟨r1, rfl, hr1⟩, hb1⟩
      have HB1 : Hid (Below W1.heap.size W1 w1) := bel2 HBr.out hb1
      have HR1 : Hid (r1 = true ↔ ShapeT n e (l[j]'HT.out)) := hr1
      clear hb1 hr1
      cases r1
      · go_wp2_with fail
        go_ret
        exact FP.no (fun q => by cases HR1.out.2 (HP.out.1 q j _ (List.getElem?_eq_getElem HT.out))) (bel2 HB.out HB1.out)
      · go_wp2_with fail
        refine ⟨⟨j + 1, hlt, by rw [HW.out], fun i t hi ht => ?_, HB1⟩, meas hlt HW.out⟩
        by_cases hij : i = j
        · subst hij
          rw [List.getElem?_eq_getElem HT.out] at ht
          cases ht
          simpa using HR1.out
        · exact HE.out i t (by omega) ht
    · obtain rfl : j = N := by omega
      go_wp2_with fail
      go_ret
      exact FP.yes (HP.out.2 fun i t ht => HE.out i t (by have := (List.getElem?_eq_some_iff.1 ht).1; have := HN.out.1; omega) ht) (bel2 HB.out HBr.out)
theorem shape_calls : ∀ n, ShapeAt n := by
  intro n
  induction n with
  | zero => intro v t d w _ _ h; exact h.elim
  | succ n ih =>
    rintro v ⟨k, x, b, s, l⟩ d w d0 d4 ⟨a, c, rfl, hf, hr⟩
    obtain ⟨b, rfl⟩ : ∃ m : Nat, b = m := ⟨b.toNat, by have := hf.b0; omega⟩
    by_cases hP : Pre1 k x b s l.length
    · obtain ⟨k0, k4, hx, hb, hs, hn⟩ := hP
      have hcn0 : cn 0 = 0 := by decide
      have hz0 : (⟨#[]⟩ : ByteArray).toList = [] := by rw [Lib.toList_data]
      have hsz : ∀ s : ByteArray, s.toList = [] → s = ⟨#[]⟩ := fun s h => tl_inj (h.trans hz0.symm)
      rcases (by omega : k = 0 ∨ k = 1 ∨ k = 2 ∨ k = 3 ∨ k = 4) with rfl | rfl | rfl | rfl | rfl
      · obtain rfl : x = 0 := by omega
        obtain rfl : b = 0 := by omega
        obtain rfl := hsz s (hs.resolve_left (by decide))
        obtain rfl : l = [] := List.eq_nil_of_length_eq_zero (hn.resolve_left (by decide))
        exact shape_y0 a c d w _ ⟨⟨by decide, by decide, .inr rfl, .inr rfl, hcn0, .inr hz0, by decide, .inr rfl, by decide⟩, (fun h => by cases h), (fun i t h => by simp at h)⟩
      · obtain rfl : b = 0 := by omega
        obtain rfl := hsz s (hs.resolve_left (by decide))
        obtain rfl : l = [] := List.eq_nil_of_length_eq_zero (hn.resolve_left (by decide))
        exact shape_y1 x a c d w _ ⟨⟨by decide, by decide, .inl rfl, .inr rfl, hcn0, .inr hz0, by decide, .inr rfl, by decide⟩, (fun h => by cases h), (fun i t h => by simp at h)⟩
      · obtain rfl : x = 0 := by omega
        obtain rfl := hsz s (hs.resolve_left (by decide))
        obtain rfl : l = [] := List.eq_nil_of_length_eq_zero (hn.resolve_left (by decide))
        by_cases hc : cn b = b
        · exact shape_y2 b (cn b) (refCanon_calls b) hc a c d w _ ⟨⟨by decide, by decide, .inr rfl, .inl rfl, hc, .inr hz0, by decide, .inr rfl, by decide⟩, (fun h => by cases h), (fun i t h => by simp at h)⟩
        · exact shape_n2 b (cn b) (refCanon_calls b) hc a c d w _ (fun q => hc q.1.2.2.2.2.1)
      · obtain rfl : x = 0 := by omega
        obtain rfl : b = 0 := by omega
        obtain rfl : l = [] := List.eq_nil_of_length_eq_zero (hn.resolve_left (by decide))
        by_cases hc : s.size ≤ 200
        · exact shape_y3 s hc a c d w _ ⟨⟨by decide, by decide, .inr rfl, .inr rfl, hcn0, .inl rfl, hc, .inr rfl, by decide⟩, (fun h => by cases h), (fun i t h => by simp at h)⟩
        · exact shape_n3 s hc a c d w _ (fun q => hc q.1.2.2.2.2.2.2.1)
      · obtain rfl : x = 0 := by omega
        obtain rfl : b = 0 := by omega
        obtain rfl := hsz s (hs.resolve_left (by decide))
        by_cases hc : l.length ≤ 12
        · by_cases hd : d = 0
          · subst hd
            exact shape_d4 l.length hc a c w _ (fun q => q.2.1 rfl rfl)
          · exact shape_y4 n ih a c l d w hc d0 d4 hd hr _ ⟨fun q => q.2.2, fun q => ⟨⟨by decide, by decide, .inr rfl, .inr rfl, hcn0, .inr hz0, by decide, .inl rfl, hc⟩, (fun _ => hd), q⟩⟩
        · exact shape_n4 l.length hc a c d w _ (fun q => hc q.1.2.2.2.2.2.2.2.2)
    · refine shape_no1 k x b s a l.length c d w _ (fun q => hP ?_) hP
      obtain ⟨q1, q2, q3, q4, _, q6, _, q8, _⟩ := q.1
      exact ⟨q1, q2, q3, by simpa using q4, q6, q8⟩
end Go.Proofs.Ytlcgjehepalmcaa
