/- The contracts of the reference's Check, and of both Closes. -/
import Derived.Test.YtddigndamimmpaaDoorCA
import Derived.Test.YtddigndamimmpaaDoorRX
namespace Go.Proofs.YtddigndamimmpaaDoor
open Go.ChangeShapes Go.WideShapes Go.ChangeAt Go.RowKit
theorem zE_mayN (n : Nat) : May (n + 1) zE := by
  refine ⟨?_, by simp [bytesT, zE]; decide +kernel⟩
  refine ⟨?_, by decide, fun i t h => by simp at h⟩
  unfold Fits FitsB
  exact ⟨by decide, by decide, .inr rfl, .inr rfl, by decide +kernel, .inr (by decide +kernel), by decide, .inr rfl, by decide⟩
/-- Between two of Check's statements: what was found, and where the command lies. -/
def Jn (P : Prop) (w : World) (c0 c1 c2 c3 c4 c5 c6 c7 : Value) (x : Value) (wx : World) : Prop := (∃ b : Bool, x = .bool b ∧ (b = true ↔ P)) ∧ Below w.heap.size w wx ∧ At8 wx w.heap.size c0 c1 c2 c3 c4 c5 c6 c7
def Jc (P : Prop) (w : World) (c0 c1 c2 c3 c4 c5 c6 c7 : Value) (x : Value) (wx : World) : Prop := (∃ b : Bool, x = .bool b ∧ (b = false ↔ P)) ∧ Below w.heap.size w wx ∧ At8 wx w.heap.size c0 c1 c2 c3 c4 c5 c6 c7
theorem mayC_iff (n : Nat) (k : Int) (s : ByteArray) (tv : Tv) (d : Int) : MayC (n + 1) ⟨k, s, tv, d⟩ ↔ ((((1 ≤ k ∧ k ≤ 9) ∧ (0 ≤ d ∧ d ≤ 1073741824) ∧ May (n + 1) tv) ∧ (k = 1 ∨ d = 0)) ∧ (cVl k = true ∨ tv = zE)) ∧ (if k = 3 ∨ k = 7 ∨ k = 9 then s.toList.isEmpty = true else if k = 8 then decide (s.size ≤ 200) = true else nmB s = true) := by
  have hz := zE_mayN n
  unfold MayC
  constructor
  · rintro ⟨h1, h2, h3, h4⟩
    simp only [wi, Bool.and_eq_true, decide_eq_true_eq] at h1
    have hd : (0 ≤ d ∧ d ≤ 1073741824) ∧ (k = 1 ∨ d = 0) := by
      by_cases e : k = 1
      · subst e; simp [cdf, wi] at h4; exact ⟨h4, .inl rfl⟩
      · simp [cdf, e] at h4; subst h4; exact ⟨⟨by decide, by decide⟩, .inr rfl⟩
    have hv : May (n + 1) tv ∧ (cVl k = true ∨ tv = zE) := by
      rcases h3 with ⟨a, b⟩ | ⟨_, b⟩
      · exact ⟨b, .inl a⟩
      · subst b; exact ⟨hz, .inr rfl⟩
    refine ⟨⟨⟨⟨h1, hd.1, hv.1⟩, hd.2⟩, hv.2⟩, ?_⟩
    obtain ⟨a, b⟩ := h1
    have : k = 1 ∨ k = 2 ∨ k = 3 ∨ k = 4 ∨ k = 5 ∨ k = 6 ∨ k = 7 ∨ k = 8 ∨ k = 9 := by have a2 : 1 ≤ k := a; have b2 : k ≤ 9 := b; omega
    rcases this with rfl | rfl | rfl | rfl | rfl | rfl | rfl | rfl | rfl <;> simpa [cnf, cNm] using h2
  · rintro ⟨⟨⟨⟨h1, hd, hv⟩, hd2⟩, hv2⟩, h2⟩
    obtain ⟨a, b⟩ := h1
    refine ⟨by simp [wi, a, b], ?_, ?_, ?_⟩
    · have : k = 1 ∨ k = 2 ∨ k = 3 ∨ k = 4 ∨ k = 5 ∨ k = 6 ∨ k = 7 ∨ k = 8 ∨ k = 9 := by omega
      rcases this with rfl | rfl | rfl | rfl | rfl | rfl | rfl | rfl | rfl <;> simpa [cnf, cNm] using h2
    · unfold cvf
      cases hc : cVl k
      · refine .inr ⟨rfl, ?_⟩
        rcases hv2 with e | e
        · rw [hc] at e; cases e
        · exact e
      · exact .inl ⟨rfl, hv⟩
    · rcases hd2 with rfl | rfl
      · simp [cdf, wi, hd.1, hd.2]
      · by_cases e : k = 1 <;> simp [cdf, wi, e]
set_option maxHeartbeats 4000000 in
set_option maxRecDepth 100000 in
theorem rccheck_calls (n : Nat) (tv : Tv) (k : Int) (s : ByteArray) (vk vx vb : Int) (vs : ByteArray) (la : Option Addr) (ll lc : Nat) (d : Int) (w : World) (h : Is w (n + 1) (.agg #[.int .i64 vk, .int .i64 vx, .int .u64 vb, .string vs, .slice la ll lc]) tv) : Calls Tryd.prog 25 #[.agg #[.int .i64 k, .string s, .int .i64 vk, .int .i64 vx, .int .u64 vb, .string vs, .slice la ll lc, .int .i64 d]] w (CkP (MayC (n + 1) ⟨k, s, tv, d⟩) w) := by
  have HX0 : Hid (At8 (w.alloc (.cells #[.int .i64 k, .string s, .int .i64 vk, .int .i64 vx, .int .u64 vb, .string vs, .slice la ll lc, .int .i64 d] 49)) w.heap.size (.int .i64 k) (.string s) (.int .i64 vk) (.int .i64 vx) (.int .u64 vb) (.string vs) (.slice la ll lc) (.int .i64 d)) := At8.box w (.int .i64 k) (.string s) (.int .i64 vk) (.int .i64 vx) (.int .u64 vb) (.string vs) (.slice la ll lc) (.int .i64 d)
  have RC : Hid (∀ W, Below w.heap.size w W → _) := fun W hB => rcheck_calls (n + 1) (.agg #[.int .i64 vk, .int .i64 vx, .int .u64 vb, .string vs, .slice la ll lc]) tv W (h.below hB)
  have SC : Hid (∀ W, Below w.heap.size w W → _) := fun W hB => rsame_calls (n + 1) (.agg #[.int .i64 vk, .int .i64 vx, .int .u64 vb, .string vs, .slice la ll lc]) tv (.agg #[.int .i64 0, .int .i64 0, .int .u64 0, .string ⟨#[]⟩, .slice none 0 0]) zE W (h.below hB) (zE_is W n)
  have TC : Hid (∀ W, _) := fun W => rtext_calls s W
  have NC : Hid (∀ W, _) := fun W => rname_calls s W
  have HM : Hid _ := mayC_iff n k s tv d
  have HV : Hid (cVl k = (k == 3 || k == 5 || k == 6 || k == 7)) := rfl
  have HF : Hid (∀ r w', (MayC (n + 1) ⟨k, s, tv, d⟩ → r = 0) → (¬ MayC (n + 1) ⟨k, s, tv, d⟩ → r = 1) → Below w.heap.size w w' → CkP (MayC (n + 1) ⟨k, s, tv, d⟩) w (.returned (.int .i64 r)) w') := fun r w' h1 h2 h3 => ⟨r, rfl, h1, h2, h3⟩
  generalize CkP (MayC (n + 1) ⟨k, s, tv, d⟩) w = Q at HF ⊢
  generalize MayC (n + 1) ⟨k, s, tv, d⟩ = ME at HF HM
  generalize May (n + 1) tv = MY at HM RC
  generalize cVl k = qV at HM HV
  generalize nmB s = bn at HM NC
  generalize decide (s.size ≤ 200) = bt at HM TC
  clear h
  go_enter Tryd.func25, Tryd.ntmps25
  go_upto_region 2 with fail
  go_cut [4] (fun x wx => Jn ((1 ≤ k ∧ k ≤ 9) ∧ (0 ≤ d ∧ d ≤ 1073741824) ∧ MY) w (.int .i64 k) (.string s) (.int .i64 vk) (.int .i64 vx) (.int .u64 vb) (.string vs) (.slice la ll lc) (.int .i64 d) x wx)
  case first =>
    have HB : Hid (Below w.heap.size w (w.alloc (.cells #[.int .i64 k, .string s, .int .i64 vk, .int .i64 vx, .int .u64 vb, .string vs, .slice la ll lc, .int .i64 d] 49))) := bel1 _ _
    have HX := HX0
    obtain ⟨x0, x1, x2, x3, x4, x5, x6, x7⟩ := HX.out
    by_cases k1 : 1 ≤ k
    rotate_left
    · go_wp2_with fail
      go_meet
      exact ⟨⟨false, rfl, ⟨nofun, fun h => by have := h.1.1; omega⟩⟩, HB.out, HX.out⟩
    by_cases k2 : k ≤ 9
    rotate_left
    · go_wp2_with fail
      go_meet
      exact ⟨⟨false, rfl, ⟨nofun, fun h => by have := h.1.2; omega⟩⟩, HB.out, HX.out⟩
    by_cases t1 : 0 ≤ d
    rotate_left
    · go_wp2_with fail
      go_meet
      exact ⟨⟨false, rfl, ⟨nofun, fun h => by have := h.2.1.1; omega⟩⟩, HB.out, HX.out⟩
    by_cases t2 : d ≤ 1073741824
    rotate_left
    · go_wp2_with fail
      go_meet
      exact ⟨⟨false, rfl, ⟨nofun, fun h => by have := h.2.1.2; omega⟩⟩, HB.out, HX.out⟩
    go_wp2_with fail
    refine Calls.mono (RC.out _ ?_) ?_
    · exact HB.out
    rintro e w1 ⟨⟨r, rfl, r1, r2⟩, hb⟩
    clear x0 x1 x2 x3 x4 x5 x6 x7
    replace HB : Hid (Below w.heap.size w w1) := bel2 HB.out hb
    replace HX : Hid (At8 w1 w.heap.size (.int .i64 k) (.string s) (.int .i64 vk) (.int .i64 vx) (.int .u64 vb) (.string vs) (.slice la ll lc) (.int .i64 d)) := HX.out.below hb
    clear hb
    have HR : Hid ((MY → r = 0) ∧ (¬ MY → r = 1)) := ⟨r1, r2⟩
    clear r1 r2
    go_wp2_with fail
    go_meet
    refine ⟨⟨_, rfl, ?_⟩, HB.out, HX.out⟩
    by_cases hm : MY
    · have := HR.out.1 hm; simp [hm, this, k1, k2, t1, t2]
    · have := HR.out.2 hm; simp [hm, this]
  case rest =>
  obtain ⟨⟨b, rfl, hbP⟩, HB, HX⟩ := hcut
  replace HB : Hid (Below w.heap.size w wc) := HB
  replace HX : Hid (At8 wc w.heap.size (.int .i64 k) (.string s) (.int .i64 vk) (.int .i64 vx) (.int .u64 vb) (.string vs) (.slice la ll lc) (.int .i64 d)) := HX
  generalize hP1 : ((1 ≤ k ∧ k ≤ 9) ∧ (0 ≤ d ∧ d ≤ 1073741824) ∧ MY) = P1 at hbP HM
  have HP : Hid (b = true ↔ P1) := hbP
  clear hbP hP1
  go_upto_region 3 with fail
  go_cut [35] (fun x wx => Jc (k = 1 ∨ d = 0) w (.int .i64 k) (.string s) (.int .i64 vk) (.int .i64 vx) (.int .u64 vb) (.string vs) (.slice la ll lc) (.int .i64 d) x wx)
  case first =>
    by_cases e1 : k = 1
    · subst e1
      obtain ⟨x0, x1, x2, x3, x4, x5, x6, x7⟩ := HX.out
      go_wp2_with fail
      go_meet
      exact ⟨⟨false, rfl, by simp⟩, HB.out, HX.out⟩
    have d1 : (k == 1) = false := by simpa using e1
    have n1 : (k != 1) = true := by simpa using e1
    by_cases z : d = 0
    · subst z
      obtain ⟨x0, x1, x2, x3, x4, x5, x6, x7⟩ := HX.out
      clear e1
      go_wp2_with fail
      go_meet
      exact ⟨⟨false, rfl, by simp⟩, HB.out, HX.out⟩
    have HE : Hid (¬ (k = 1 ∨ d = 0)) := fun h => h.elim e1 z
    have dz : (d == 0) = false := by simpa using z
    have nz : (d != 0) = true := by simpa using z
    clear e1 z
    obtain ⟨x0, x1, x2, x3, x4, x5, x6, x7⟩ := HX.out
    go_wp2_with fail
    go_meet
    exact ⟨⟨true, rfl, ⟨nofun, fun h => absurd h HE.out⟩⟩, HB.out, HX.out⟩
  case rest =>
  obtain ⟨⟨q, rfl, hbP⟩, HB, HX⟩ := hcut
  replace HB : Hid (Below w.heap.size w wc) := HB
  replace HX : Hid (At8 wc w.heap.size (.int .i64 k) (.string s) (.int .i64 vk) (.int .i64 vx) (.int .u64 vb) (.string vs) (.slice la ll lc) (.int .i64 d)) := HX
  have HC : Hid (q = false ↔ k = 1 ∨ d = 0) := hbP
  clear hbP
  go_upto_if 35 with fail
  go_cut [4] (fun x wx => Jn (P1 ∧ (k = 1 ∨ d = 0)) w (.int .i64 k) (.string s) (.int .i64 vk) (.int .i64 vx) (.int .u64 vb) (.string vs) (.slice la ll lc) (.int .i64 d) x wx)
  case first =>
    cases q with
    | false =>
      have HT := HC.out.1 rfl
      have HT2 : Hid _ := HT
      clear HT
      go_wp2_with fail
      go_meet
      exact ⟨⟨b, rfl, by rw [HP.out]; exact ⟨fun h => ⟨h, HT2.out⟩, fun h => h.1⟩⟩, HB.out, HX.out⟩
    | true =>
      go_wp2_with fail
      go_meet
      exact ⟨⟨false, rfl, nofun, fun h => by have := HC.out.2 h.2; cases this⟩, HB.out, HX.out⟩
  case rest =>
  obtain ⟨⟨b, rfl, hbP⟩, HB, HX⟩ := hcut
  replace HB : Hid (Below w.heap.size w wc) := HB
  replace HX : Hid (At8 wc w.heap.size (.int .i64 k) (.string s) (.int .i64 vk) (.int .i64 vx) (.int .u64 vb) (.string vs) (.slice la ll lc) (.int .i64 d)) := HX
  generalize hP1 : (P1 ∧ (k = 1 ∨ d = 0)) = P2 at hbP HM
  have HP : Hid (b = true ↔ P2) := hbP
  clear hbP hP1
  clear HC
  go_upto_region 5 with fail
  go_cut [56] (fun x wx => Jc (qV = true ∨ tv = zE) w (.int .i64 k) (.string s) (.int .i64 vk) (.int .i64 vx) (.int .u64 vb) (.string vs) (.slice la ll lc) (.int .i64 d) x wx)
  case first =>
    by_cases e3 : k = 3
    · subst e3
      obtain ⟨x0, x1, x2, x3, x4, x5, x6, x7⟩ := HX.out
      have HQ : Hid (qV = true) := HV.out
      clear HV
      go_wp2_with fail
      go_meet
      exact ⟨⟨false, rfl, by simp [HQ.out]⟩, HB.out, HX.out⟩
    by_cases e5 : k = 5
    · subst e5
      obtain ⟨x0, x1, x2, x3, x4, x5, x6, x7⟩ := HX.out
      have HQ : Hid (qV = true) := HV.out
      clear HV
      go_wp2_with fail
      go_meet
      exact ⟨⟨false, rfl, by simp [HQ.out]⟩, HB.out, HX.out⟩
    by_cases e6 : k = 6
    · subst e6
      obtain ⟨x0, x1, x2, x3, x4, x5, x6, x7⟩ := HX.out
      have HQ : Hid (qV = true) := HV.out
      clear HV
      go_wp2_with fail
      go_meet
      exact ⟨⟨false, rfl, by simp [HQ.out]⟩, HB.out, HX.out⟩
    by_cases e7 : k = 7
    · subst e7
      obtain ⟨x0, x1, x2, x3, x4, x5, x6, x7⟩ := HX.out
      have HQ : Hid (qV = true) := HV.out
      clear HV
      go_wp2_with fail
      go_meet
      exact ⟨⟨false, rfl, by simp [HQ.out]⟩, HB.out, HX.out⟩
    have d3 : (k == 3) = false := by simpa using e3
    have n3 : (k != 3) = true := by simpa using e3
    have d5 : (k == 5) = false := by simpa using e5
    have n5 : (k != 5) = true := by simpa using e5
    have d6 : (k == 6) = false := by simpa using e6
    have n6 : (k != 6) = true := by simpa using e6
    have d7 : (k == 7) = false := by simpa using e7
    have n7 : (k != 7) = true := by simpa using e7
    have HQ : Hid (qV = false) := by show qV = false; rw [HV.out, d3, d5, d6, d7]; rfl
    clear HV e3 e5 e6 e7
    obtain ⟨x0, x1, x2, x3, x4, x5, x6, x7⟩ := HX.out
    go_wp2_with fail
    refine Calls.mono (SC.out _ ?_) ?_
    · exact HB.out
    rintro e w1 ⟨⟨r, rfl, r1⟩, hb⟩
    clear x0 x1 x2 x3 x4 x5 x6 x7
    replace HB : Hid (Below w.heap.size w w1) := bel2 HB.out hb
    replace HX : Hid (At8 w1 w.heap.size (.int .i64 k) (.string s) (.int .i64 vk) (.int .i64 vx) (.int .u64 vb) (.string vs) (.slice la ll lc) (.int .i64 d)) := HX.out.below hb
    clear hb
    have HR : Hid (r = true ↔ tv = zE) := r1
    clear r1
    cases r with
    | true =>
      have HT : Hid (tv = zE) := HR.out.1 rfl
      go_wp2_with fail
      go_meet
      exact ⟨⟨false, rfl, by simp [HT.out]⟩, HB.out, HX.out⟩
    | false =>
      have HT : Hid (¬ tv = zE) := fun h => by have := HR.out.2 h; cases this
      go_wp2_with fail
      go_meet
      exact ⟨⟨true, rfl, by simp [HT.out, HQ.out]⟩, HB.out, HX.out⟩
  case rest =>
  obtain ⟨⟨q, rfl, hbP⟩, HB, HX⟩ := hcut
  replace HB : Hid (Below w.heap.size w wc) := HB
  replace HX : Hid (At8 wc w.heap.size (.int .i64 k) (.string s) (.int .i64 vk) (.int .i64 vx) (.int .u64 vb) (.string vs) (.slice la ll lc) (.int .i64 d)) := HX
  have HC : Hid (q = false ↔ qV = true ∨ tv = zE) := hbP
  clear hbP
  go_upto_if 56 with fail
  go_cut [4] (fun x wx => Jn (P2 ∧ (qV = true ∨ tv = zE)) w (.int .i64 k) (.string s) (.int .i64 vk) (.int .i64 vx) (.int .u64 vb) (.string vs) (.slice la ll lc) (.int .i64 d) x wx)
  case first =>
    cases q with
    | false =>
      have HT := HC.out.1 rfl
      have HT2 : Hid _ := HT
      clear HT
      go_wp2_with fail
      go_meet
      exact ⟨⟨b, rfl, by rw [HP.out]; exact ⟨fun h => ⟨h, HT2.out⟩, fun h => h.1⟩⟩, HB.out, HX.out⟩
    | true =>
      go_wp2_with fail
      go_meet
      exact ⟨⟨false, rfl, nofun, fun h => by have := HC.out.2 h.2; cases this⟩, HB.out, HX.out⟩
  case rest =>
  obtain ⟨⟨b, rfl, hbP⟩, HB, HX⟩ := hcut
  replace HB : Hid (Below w.heap.size w wc) := HB
  replace HX : Hid (At8 wc w.heap.size (.int .i64 k) (.string s) (.int .i64 vk) (.int .i64 vx) (.int .u64 vb) (.string vs) (.slice la ll lc) (.int .i64 d)) := HX
  generalize hP1 : (P2 ∧ (qV = true ∨ tv = zE)) = P3 at hbP HM
  have HP : Hid (b = true ↔ P3) := hbP
  clear hbP hP1
  clear HC
  by_cases e3 : k = 3
  · subst e3
    obtain ⟨x0, x1, x2, x3, x4, x5, x6, x7⟩ := HX.out
    cases b with
    | false =>
      have hP1 : ¬ P3 := fun h => by have := HP.out.2 h; cases this
      clear HP
      go_wp2_with fail
      exact HF.out 1 _ (fun hm => absurd (HM.out.1 hm).1 hP1) (fun _ => rfl) HB.out
    | true =>
      have hP1 : Hid P3 := HP.out.1 rfl
      clear HP
      by_cases es : s.toList = []
      · have HE : Hid (s.toList = []) := es
        have q1 : s = ⟨#[]⟩ := tl_inj (es.trans (by decide +kernel))
        subst q1
        go_wp2_with fail
        exact HF.out 0 _ (fun _ => rfl) (fun h => absurd (HM.out.2 ⟨hP1.out, by first | (simp; done) | (simp; exact HE.out)⟩) h) HB.out
      · have HE : Hid (¬ s.toList = []) := es
        have q1 : (s.toList == []) = false := by simpa using es
        have q2 : (s.toList == ByteArray.toList ⟨#[]⟩) = false := by rw [show ByteArray.toList ⟨#[]⟩ = [] from by decide +kernel]; exact q1
        clear es
        go_wp2_with fail
        exact HF.out 1 _ (fun hm => absurd (HM.out.1 hm).2 (by simp; exact HE.out)) (fun _ => rfl) HB.out
  by_cases e7 : k = 7
  · subst e7
    obtain ⟨x0, x1, x2, x3, x4, x5, x6, x7⟩ := HX.out
    cases b with
    | false =>
      have hP1 : ¬ P3 := fun h => by have := HP.out.2 h; cases this
      clear HP
      go_wp2_with fail
      exact HF.out 1 _ (fun hm => absurd (HM.out.1 hm).1 hP1) (fun _ => rfl) HB.out
    | true =>
      have hP1 : Hid P3 := HP.out.1 rfl
      clear HP
      by_cases es : s.toList = []
      · have HE : Hid (s.toList = []) := es
        have q1 : s = ⟨#[]⟩ := tl_inj (es.trans (by decide +kernel))
        subst q1
        go_wp2_with fail
        exact HF.out 0 _ (fun _ => rfl) (fun h => absurd (HM.out.2 ⟨hP1.out, by first | (simp; done) | (simp; exact HE.out)⟩) h) HB.out
      · have HE : Hid (¬ s.toList = []) := es
        have q1 : (s.toList == []) = false := by simpa using es
        have q2 : (s.toList == ByteArray.toList ⟨#[]⟩) = false := by rw [show ByteArray.toList ⟨#[]⟩ = [] from by decide +kernel]; exact q1
        clear es
        go_wp2_with fail
        exact HF.out 1 _ (fun hm => absurd (HM.out.1 hm).2 (by simp; exact HE.out)) (fun _ => rfl) HB.out
  by_cases e9 : k = 9
  · subst e9
    obtain ⟨x0, x1, x2, x3, x4, x5, x6, x7⟩ := HX.out
    cases b with
    | false =>
      have hP1 : ¬ P3 := fun h => by have := HP.out.2 h; cases this
      clear HP
      go_wp2_with fail
      exact HF.out 1 _ (fun hm => absurd (HM.out.1 hm).1 hP1) (fun _ => rfl) HB.out
    | true =>
      have hP1 : Hid P3 := HP.out.1 rfl
      clear HP
      by_cases es : s.toList = []
      · have HE : Hid (s.toList = []) := es
        have q1 : s = ⟨#[]⟩ := tl_inj (es.trans (by decide +kernel))
        subst q1
        go_wp2_with fail
        exact HF.out 0 _ (fun _ => rfl) (fun h => absurd (HM.out.2 ⟨hP1.out, by first | (simp; done) | (simp; exact HE.out)⟩) h) HB.out
      · have HE : Hid (¬ s.toList = []) := es
        have q1 : (s.toList == []) = false := by simpa using es
        have q2 : (s.toList == ByteArray.toList ⟨#[]⟩) = false := by rw [show ByteArray.toList ⟨#[]⟩ = [] from by decide +kernel]; exact q1
        clear es
        go_wp2_with fail
        exact HF.out 1 _ (fun hm => absurd (HM.out.1 hm).2 (by simp; exact HE.out)) (fun _ => rfl) HB.out
  by_cases e8 : k = 8
  · subst e8
    obtain ⟨x0, x1, x2, x3, x4, x5, x6, x7⟩ := HX.out
    cases b with
    | false =>
      have hP1 : ¬ P3 := fun h => by have := HP.out.2 h; cases this
      clear HP
      go_wp2_with fail
      exact HF.out 1 _ (fun hm => absurd (HM.out.1 hm).1 hP1) (fun _ => rfl) HB.out
    | true =>
      have hP1 : Hid P3 := HP.out.1 rfl
      clear HP
      go_wp2_with fail
      refine (TC.out _).mono ?_
      rintro e w1 ⟨rfl, e9⟩
      obtain rfl := e9.symm
      clear e9
      cases bt with
      | true =>
        go_wp2_with fail
        exact HF.out 0 _ (fun _ => rfl) (fun h => absurd (HM.out.2 ⟨hP1.out, by simp⟩) h) HB.out
      | false =>
        go_wp2_with fail
        exact HF.out 1 _ (fun hm => absurd (HM.out.1 hm).2 (by simp)) (fun _ => rfl) HB.out
  have d3 : (k == 3) = false := by simpa using e3
  have n3 : (k != 3) = true := by simpa using e3
  have d7 : (k == 7) = false := by simpa using e7
  have n7 : (k != 7) = true := by simpa using e7
  have d9 : (k == 9) = false := by simpa using e9
  have n9 : (k != 9) = true := by simpa using e9
  have d8 : (k == 8) = false := by simpa using e8
  have n8 : (k != 8) = true := by simpa using e8
  have HE : Hid (¬ (k = 3 ∨ k = 7 ∨ k = 9) ∧ ¬ k = 8) := ⟨by simp [e3, e7, e9], e8⟩
  clear e3 e7 e9 e8
  obtain ⟨x0, x1, x2, x3, x4, x5, x6, x7⟩ := HX.out
  cases b with
  | false =>
    have hP1 : ¬ P3 := fun h => by have := HP.out.2 h; cases this
    clear HP
    go_wp2_with fail
    exact HF.out 1 _ (fun hm => absurd (HM.out.1 hm).1 hP1) (fun _ => rfl) HB.out
  | true =>
    have hP1 : Hid P3 := HP.out.1 rfl
    clear HP
    go_wp2_with fail
    refine (NC.out _).mono ?_
    rintro e w1 ⟨rfl, e9⟩
    obtain rfl := e9.symm
    clear e9
    cases bn with
    | true =>
      go_wp2_with fail
      exact HF.out 0 _ (fun _ => rfl) (fun h => absurd (HM.out.2 ⟨hP1.out, by simp [HE.out.1, HE.out.2]⟩) h) HB.out
    | false =>
      go_wp2_with fail
      exact HF.out 1 _ (fun hm => absurd (HM.out.1 hm).2 (by simp [HE.out.1, HE.out.2])) (fun _ => rfl) HB.out
end Go.Proofs.YtddigndamimmpaaDoor
