/- limits: lists of commands and of answers; commandsFit, answersFit. -/
import Derived.Test.YtddigndamimmpaaDoorLC
import Derived.Test.YtddigndamimmpaaDoorCA
namespace Go.Proofs.YtddigndamimmpaaDoor
open Go.ChangeShapes Go.WideShapes Go.ChangeAt Go.RowKit
/-- Commands that lie in a row, from a on. -/
def Cms (w : World) (n : Nat) (a : Option Addr) (l : List Cm) : Prop := ∀ (i : Nat) (c : Cm), l[i]? = some c → ∃ (B o : Nat) (vk vx vb : Int) (vs : ByteArray) (la : Option Addr) (ll lc : Nat), a = some ⟨B, o, none⟩ ∧ w.cell? ⟨B, o + i * 8, none⟩ = some (.int .i64 c.k) ∧ w.cell? ⟨B, o + i * 8 + 1, none⟩ = some (.string c.s) ∧ w.cell? ⟨B, o + i * 8 + 2, none⟩ = some (.int .i64 vk) ∧ w.cell? ⟨B, o + i * 8 + 3, none⟩ = some (.int .i64 vx) ∧ w.cell? ⟨B, o + i * 8 + 4, none⟩ = some (.int .u64 vb) ∧ w.cell? ⟨B, o + i * 8 + 5, none⟩ = some (.string vs) ∧ w.cell? ⟨B, o + i * 8 + 6, none⟩ = some (.slice la ll lc) ∧ w.cell? ⟨B, o + i * 8 + 7, none⟩ = some (.int .i64 c.d) ∧ Is w (n + 1) (.agg #[.int .i64 vk, .int .i64 vx, .int .u64 vb, .string vs, .slice la ll lc]) c.v
theorem Cms.below {w w' : World} {n : Nat} {a : Option Addr} {l : List Cm} (h : Cms w n a l) (hb : Below w.heap.size w w') : Cms w' n a l := fun i c hc => by
  obtain ⟨B, o, vk, vx, vb, vs, la, ll, lc, e, x0, x1, x2, x3, x4, x5, x6, x7, hv⟩ := h i c hc
  exact ⟨B, o, vk, vx, vb, vs, la, ll, lc, e, cellB x0 hb, cellB x1 hb, cellB x2 hb, cellB x3 hb, cellB x4 hb, cellB x5 hb, cellB x6 hb, cellB x7 hb, hv.below hb⟩
structure An where
  o : Int
  v : Tv
/-- Answers that lie in a row, from a on. -/
def Ans (w : World) (n : Nat) (a : Option Addr) (l : List An) : Prop := ∀ (i : Nat) (c : An), l[i]? = some c → ∃ (B o : Nat) (vk vx vb : Int) (vs : ByteArray) (la : Option Addr) (ll lc : Nat), a = some ⟨B, o, none⟩ ∧ w.cell? ⟨B, o + i * 6, none⟩ = some (.int .i64 c.o) ∧ w.cell? ⟨B, o + i * 6 + 1, none⟩ = some (.int .i64 vk) ∧ w.cell? ⟨B, o + i * 6 + 2, none⟩ = some (.int .i64 vx) ∧ w.cell? ⟨B, o + i * 6 + 3, none⟩ = some (.int .u64 vb) ∧ w.cell? ⟨B, o + i * 6 + 4, none⟩ = some (.string vs) ∧ w.cell? ⟨B, o + i * 6 + 5, none⟩ = some (.slice la ll lc) ∧ Is w n (.agg #[.int .i64 vk, .int .i64 vx, .int .u64 vb, .string vs, .slice la ll lc]) c.v
theorem Ans.below {w w' : World} {n : Nat} {a : Option Addr} {l : List An} (h : Ans w n a l) (hb : Below w.heap.size w w') : Ans w' n a l := fun i c hc => by
  obtain ⟨B, o, vk, vx, vb, vs, la, ll, lc, e, x0, x1, x2, x3, x4, x5, hv⟩ := h i c hc
  exact ⟨B, o, vk, vx, vb, vs, la, ll, lc, e, cellB x0 hb, cellB x1 hb, cellB x2 hb, cellB x3 hb, cellB x4 hb, cellB x5 hb, hv.below hb⟩
def Cmay (n : Nat) (l : List Cm) : Prop := ∀ (i : Nat) (c : Cm), l[i]? = some c → MayC (n + 1) c
def Amay (n : Nat) (l : List An) : Prop := ∀ (i : Nat) (c : An), l[i]? = some c → 1 ≤ c.o ∧ May n c.v
set_option maxHeartbeats 2000000 in
theorem commandsFit_calls (n : Nat) (l : List Cm) (k : Int) (f q m : ByteArray) (vk vx vb : Int) (vs : ByteArray) (la : Option Addr) (ll lc : Nat) (ru nu wa pf : Int) (pc : Nat) (pm : Int) (ca : Option Addr) (cn cc : Nat) (aa : Option Addr) (an ac : Nat) (hx : Int) (hn : cn = l.length) (hl : cn ≤ 1000) (w : World) (h : Cms w n ca l) : Calls Tryd.prog 18 #[.agg #[.int .i64 k, .string f, .string q, .string m, .int .i64 vk, .int .i64 vx, .int .u64 vb, .string vs, .slice la ll lc, .int .i64 ru, .int .i64 nu, .int .i64 wa, .int .i64 pf, .int .u64 (pc : Int), .int .i64 pm, .slice ca cn cc, .slice aa an ac, .int .i64 hx]] w (FitP (Cmay n l ∧ (cn = 0 ∨ nu ≠ 0)) w) := by
  have HP : Hid (Cmay n l ↔ ∀ (i : Nat) (c : Cm), l[i]? = some c → MayC (n + 1) c) := Iff.rfl
  generalize Cmay n l = CM at HP ⊢
  have HR : Hid (Cms w n ca l) := h
  have HN : Hid (cn = l.length ∧ cn ≤ 1000) := ⟨hn, hl⟩
  clear h hn hl
  have HB : Hid (Below w.heap.size w (w.alloc (.cells #[.int .i64 k, .string f, .string q, .string m, .int .i64 vk, .int .i64 vx, .int .u64 vb, .string vs, .slice la ll lc, .int .i64 ru, .int .i64 nu, .int .i64 wa, .int .i64 pf, .int .u64 (pc : Int), .int .i64 pm, .slice ca cn cc, .slice aa an ac, .int .i64 hx] 42))) := bel1 _ _
  have HX : Hid (AtQ (w.alloc (.cells #[.int .i64 k, .string f, .string q, .string m, .int .i64 vk, .int .i64 vx, .int .u64 vb, .string vs, .slice la ll lc, .int .i64 ru, .int .i64 nu, .int .i64 wa, .int .i64 pf, .int .u64 (pc : Int), .int .i64 pm, .slice ca cn cc, .slice aa an ac, .int .i64 hx] 42)) w.heap.size k f q m vk vx vb vs la ll lc ru nu wa pf pc pm ca cn cc aa an ac hx) := AtQ.box w k f q m vk vx vb vs la ll lc ru nu wa pf pc pm ca cn cc aa an ac hx
  have HS : Hid (w.heap.size < (w.alloc (.cells #[.int .i64 k, .string f, .string q, .string m, .int .i64 vk, .int .i64 vx, .int .u64 vb, .string vs, .slice la ll lc, .int .i64 ru, .int .i64 nu, .int .i64 wa, .int .i64 pf, .int .u64 (pc : Int), .int .i64 pm, .slice ca cn cc, .slice aa an ac, .int .i64 hx] 42)).heap.size) := by show _ < _; simp
  generalize hW0 : w.alloc (.cells #[.int .i64 k, .string f, .string q, .string m, .int .i64 vk, .int .i64 vx, .int .u64 vb, .string vs, .slice la ll lc, .int .i64 ru, .int .i64 nu, .int .i64 wa, .int .i64 pf, .int .u64 (pc : Int), .int .i64 pm, .slice ca cn cc, .slice aa an ac, .int .i64 hx] 42) = W1 at HB HX HS
  have H0 : Hid (w.alloc (.cells #[.int .i64 k, .string f, .string q, .string m, .int .i64 vk, .int .i64 vx, .int .u64 vb, .string vs, .slice la ll lc, .int .i64 ru, .int .i64 nu, .int .i64 wa, .int .i64 pf, .int .u64 (pc : Int), .int .i64 pm, .slice ca cn cc, .slice aa an ac, .int .i64 hx] 42) = W1) := hW0
  clear hW0
  go_enter Tryd.func18, Tryd.ntmps18
  go_upto_region 1 with fail
  rw [H0.out]
  clear H0
  obtain ⟨x0, x1, x2, x3, x4, x5, x6, x7, x8, x9, x10, x11, x12, x13, x14, x15, x16, x17⟩ := HX.out
  clear x0 x1 x2 x3 x4 x5 x6 x7 x8 x9 x10 x11 x12 x13 x14 x16 x17
  go_wp2_with fail
  clear x15
  go_loopw [4, 9] (fun _ i wr => ∃ j : Nat, j ≤ cn ∧ i = .int .i64 (j : Int) ∧ Hid (∀ (i : Nat) (c : Cm), i < j → l[i]? = some c → MayC (n + 1) c) ∧ Hid (Below W1.heap.size W1 wr)) (fun _ i _ => cn - (intOf i).toNat)
  case atStart => exact ⟨0, Nat.zero_le _, rfl, fun i t hi => absurd hi (Nat.not_lt_zero i), Below.refl _ _⟩
  case round =>
    obtain ⟨j, hj, rfl, HE, HBr⟩ := hrel
    by_cases hlt : j < cn
    · have HT : Hid (j < l.length) := by have := HN.out.1; show _ < _; omega
      have HBw : Hid (Below w.heap.size w wr) := bel2 HB.out HBr.out
      obtain ⟨B, o, vk', vx', vb', vs', la', ll', lc', rfl, y0, y1, y2, y3, y4, y5, y6, y7, hv⟩ := HR.out.below HBw.out j _ (List.getElem?_eq_getElem HT.out)
      have HC : Hid (∀ W, Below wr.heap.size wr W → _) := fun W hB => ccheck_calls n (l[j]'HT.out).v (l[j]'HT.out).k (l[j]'HT.out).s vk' vx' vb' vs' la' ll' lc' (l[j]'HT.out).d W (hv.below hB)
      have HG : Hid (l[j]? = some (l[j]'HT.out)) := List.getElem?_eq_getElem HT.out
      generalize hMJ : MayC (n + 1) ⟨(l[j]'HT.out).k, (l[j]'HT.out).s, (l[j]'HT.out).v, (l[j]'HT.out).d⟩ = MJ at HC
      have HMJ : Hid (MayC (n + 1) (l[j]'HT.out) = MJ) := hMJ
      clear hMJ
      generalize (l[j]'HT.out) = cj at HC HG HMJ y0 y1 y7
      have HW : Hid (wrap64 ((j : Int) + 1) = ((j + 1 : Nat) : Int)) := wr1 hlt (by have := HN.out.2; omega)
      have hjl : (j : Int) < (cn : Int) := by omega
      clear hv
      go_wp2_with fail
      refine Calls.mono (HC.out _ (bel1 _ _)) ?_
      rintro e w1 ⟨r, rfl, r1, r2, hb1⟩
      have HB1 : Hid (Below W1.heap.size W1 w1) := bel2 (belA HBr.out _) hb1
      clear hb1 y0 y1 y2 y3 y4 y5 y6 y7
      by_cases hm : MJ
      · obtain rfl := r1 hm
        clear r2 r1
        go_wp2_with fail
        refine ⟨⟨j + 1, hlt, by first | rfl | rw [HW.out], fun i t hi ht => ?_, HB1⟩, by first | exact meas hlt rfl | exact meas hlt HW.out⟩
        by_cases hij : i = j
        · subst hij
          rw [HG.out] at ht
          cases ht
          rw [HMJ.out]
          exact hm
        · exact HE.out i t (by omega) ht
      · obtain rfl := r2 hm
        clear r2 r1
        go_wp2_with fail
        go_ret
        exact ⟨⟨false, rfl, nofun, fun q => absurd (HMJ.out ▸ (HP.out.1 q.1 j _ HG.out)) hm⟩, bel2 HB.out HB1.out⟩
    · obtain rfl : j = cn := by omega
      have HQ : Hid CM := HP.out.2 fun i t ht => HE.out i t (by have := (List.getElem?_eq_some_iff.1 ht).1; have := HN.out.1; omega) ht
      obtain ⟨x0, x1, x2, x3, x4, x5, x6, x7, x8, x9, x10, x11, x12, x13, x14, x15, x16, x17⟩ := HX.out.below HBr.out
      clear x0 x1 x2 x3 x4 x5 x6 x7 x8 x9 x11 x12 x13 x14 x16 x17
      by_cases z : j = 0
      · subst z
        go_wp2_with fail
        go_ret
        exact ⟨⟨true, rfl, by simp [HQ.out]⟩, bel2 HB.out HBr.out⟩
      · have z1 : ((j : Int) == 0) = false := by simp; omega
        go_wp2_with fail
        go_ret
        refine ⟨⟨nu != 0, rfl, ?_⟩, bel2 HB.out HBr.out⟩
        simp [HQ.out, z]
set_option maxHeartbeats 2000000 in
theorem answersFit_calls (n : Nat) (l : List An) (k : Int) (f q m : ByteArray) (vk vx vb : Int) (vs : ByteArray) (la : Option Addr) (ll lc : Nat) (ru nu wa pf : Int) (pc : Nat) (pm : Int) (ca : Option Addr) (cn cc : Nat) (aa : Option Addr) (an ac : Nat) (hx : Int) (hn : an = l.length) (hl : an ≤ 1000) (w : World) (h : Ans w n aa l) : Calls Tryd.prog 19 #[.agg #[.int .i64 k, .string f, .string q, .string m, .int .i64 vk, .int .i64 vx, .int .u64 vb, .string vs, .slice la ll lc, .int .i64 ru, .int .i64 nu, .int .i64 wa, .int .i64 pf, .int .u64 (pc : Int), .int .i64 pm, .slice ca cn cc, .slice aa an ac, .int .i64 hx]] w (FitP (Amay n l) w) := by
  have HP : Hid (Amay n l ↔ ∀ (i : Nat) (c : An), l[i]? = some c → 1 ≤ c.o ∧ May n c.v) := Iff.rfl
  generalize Amay n l = CM at HP ⊢
  have HR : Hid (Ans w n aa l) := h
  have HN : Hid (an = l.length ∧ an ≤ 1000) := ⟨hn, hl⟩
  clear h hn hl
  have HB : Hid (Below w.heap.size w (w.alloc (.cells #[.int .i64 k, .string f, .string q, .string m, .int .i64 vk, .int .i64 vx, .int .u64 vb, .string vs, .slice la ll lc, .int .i64 ru, .int .i64 nu, .int .i64 wa, .int .i64 pf, .int .u64 (pc : Int), .int .i64 pm, .slice ca cn cc, .slice aa an ac, .int .i64 hx] 42))) := bel1 _ _
  have HX : Hid (AtQ (w.alloc (.cells #[.int .i64 k, .string f, .string q, .string m, .int .i64 vk, .int .i64 vx, .int .u64 vb, .string vs, .slice la ll lc, .int .i64 ru, .int .i64 nu, .int .i64 wa, .int .i64 pf, .int .u64 (pc : Int), .int .i64 pm, .slice ca cn cc, .slice aa an ac, .int .i64 hx] 42)) w.heap.size k f q m vk vx vb vs la ll lc ru nu wa pf pc pm ca cn cc aa an ac hx) := AtQ.box w k f q m vk vx vb vs la ll lc ru nu wa pf pc pm ca cn cc aa an ac hx
  generalize hW0 : w.alloc (.cells #[.int .i64 k, .string f, .string q, .string m, .int .i64 vk, .int .i64 vx, .int .u64 vb, .string vs, .slice la ll lc, .int .i64 ru, .int .i64 nu, .int .i64 wa, .int .i64 pf, .int .u64 (pc : Int), .int .i64 pm, .slice ca cn cc, .slice aa an ac, .int .i64 hx] 42) = W1 at HB HX
  have H0 : Hid (w.alloc (.cells #[.int .i64 k, .string f, .string q, .string m, .int .i64 vk, .int .i64 vx, .int .u64 vb, .string vs, .slice la ll lc, .int .i64 ru, .int .i64 nu, .int .i64 wa, .int .i64 pf, .int .u64 (pc : Int), .int .i64 pm, .slice ca cn cc, .slice aa an ac, .int .i64 hx] 42) = W1) := hW0
  clear hW0
  go_enter Tryd.func19, Tryd.ntmps19
  go_upto_region 1 with fail
  rw [H0.out]
  clear H0
  obtain ⟨x0, x1, x2, x3, x4, x5, x6, x7, x8, x9, x10, x11, x12, x13, x14, x15, x16, x17⟩ := HX.out
  clear x0 x1 x2 x3 x4 x5 x6 x7 x8 x9 x10 x11 x12 x13 x14 x15 x17
  go_wp2_with fail
  clear x16
  go_loopw [4, 9] (fun _ i wr => ∃ j : Nat, j ≤ an ∧ i = .int .i64 (j : Int) ∧ Hid (∀ (i : Nat) (c : An), i < j → l[i]? = some c → 1 ≤ c.o ∧ May n c.v) ∧ Hid (Below W1.heap.size W1 wr)) (fun _ i _ => an - (intOf i).toNat)
  case atStart => exact ⟨0, Nat.zero_le _, rfl, fun i t hi => absurd hi (Nat.not_lt_zero i), Below.refl _ _⟩
  case round =>
    obtain ⟨j, hj, rfl, HE, HBr⟩ := hrel
    by_cases hlt : j < an
    · have HT : Hid (j < l.length) := by have := HN.out.1; show _ < _; omega
      have HBw : Hid (Below w.heap.size w wr) := bel2 HB.out HBr.out
      obtain ⟨B, o, vk', vx', vb', vs', la', ll', lc', rfl, y0, y1, y2, y3, y4, y5, hv⟩ := HR.out.below HBw.out j _ (List.getElem?_eq_getElem HT.out)
      have HC : Hid (∀ W, Below wr.heap.size wr W → _) := fun W hB => check_calls n (.agg #[.int .i64 vk', .int .i64 vx', .int .u64 vb', .string vs', .slice la' ll' lc']) (l[j]'HT.out).v W (hv.below hB)
      have HG : Hid (l[j]? = some (l[j]'HT.out)) := List.getElem?_eq_getElem HT.out
      have HM : Hid (May n (l[j]'HT.out).v ↔ May n (l[j]'HT.out).v) := Iff.rfl
      generalize hMJ : May n (l[j]'HT.out).v = MJ at HC
      rw [hMJ] at HM
      have HMJ : Hid (May n (l[j]'HT.out).v = MJ) := hMJ
      clear hMJ HM
      generalize (l[j]'HT.out) = cj at HC HG HMJ y0
      have HW : Hid (wrap64 ((j : Int) + 1) = ((j + 1 : Nat) : Int)) := wr1 hlt (by have := HN.out.2; omega)
      have hjl : (j : Int) < (an : Int) := by omega
      clear hv
      by_cases h1 : 1 ≤ cj.o
      rotate_left
      · have d1 : decide (cj.o < 1) = true := decide_eq_true (by omega)
        have HQ : Hid (¬ CM) := fun q => h1 (HP.out.1 q j _ HG.out).1
        generalize cj.o = oj at y0 d1
        clear h1
        go_wp2_with fail
        go_ret
        exact ⟨⟨false, rfl, nofun, fun q => absurd q HQ.out⟩, bel2 HB.out (belA HBr.out _)⟩
      have d1 : decide (cj.o < 1) = false := decide_eq_false (by omega)
      have H1 : Hid (1 ≤ cj.o) := h1
      clear h1
      generalize hoj : cj.o = oj at y0 d1
      clear hoj
      go_wp2_with fail
      refine Calls.mono (HC.out _ (bel1 _ _)) ?_
      rintro e w1 ⟨⟨r, rfl, r1, r2⟩, hb1⟩
      have HB1 : Hid (Below W1.heap.size W1 w1) := bel2 (belA HBr.out _) hb1
      clear hb1 y0 y1 y2 y3 y4 y5 d1
      by_cases hm : MJ
      · obtain rfl := r1 hm
        clear r2 r1
        go_wp2_with fail
        refine ⟨⟨j + 1, hlt, by first | rfl | rw [HW.out], fun i t hi ht => ?_, HB1⟩, by first | exact meas hlt rfl | exact meas hlt HW.out⟩
        by_cases hij : i = j
        · subst hij
          rw [HG.out] at ht
          cases ht
          exact ⟨H1.out, by rw [HMJ.out]; exact hm⟩
        · exact HE.out i t (by omega) ht
      · obtain rfl := r2 hm
        clear r2 r1
        go_wp2_with fail
        go_ret
        exact ⟨⟨false, rfl, nofun, fun q => absurd (HMJ.out ▸ (HP.out.1 q j _ HG.out).2) hm⟩, bel2 HB.out HB1.out⟩
    · obtain rfl : j = an := by omega
      have HQ : Hid CM := HP.out.2 fun i t ht => HE.out i t (by have := (List.getElem?_eq_some_iff.1 ht).1; have := HN.out.1; omega) ht
      go_wp2_with fail
      go_ret
      exact ⟨⟨true, rfl, fun _ => HQ.out, fun _ => rfl⟩, bel2 HB.out HBr.out⟩
end Go.Proofs.YtddigndamimmpaaDoor
