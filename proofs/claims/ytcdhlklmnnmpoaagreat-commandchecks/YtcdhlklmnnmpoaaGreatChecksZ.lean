/- The Go function CommandChecks returns true for every input, and its arguments read afterwards as they did before. -/
import Derived.Test.YtcdhlklmnnmpoaaGreatCX
import Derived.Test.YtcdhlklmnnmpoaaGreatRX
import Derived.Test.YtcdhlklmnnmpoaaGreatCY
import Derived.Test.YtcdhlklmnnmpoaaGreatSQ
import Derived.Test.YtcdhlklmnnmpoaaGreatRows
import Derived.WalkKit
import Derived.ProofKit
import Derived.OpenShut
import Derived.ChangeOld
import Derived.Below
import Derived.SizedLaws
namespace Go.Proofs.YtcdhlklmnnmpoaaGreat
open Go.ChangeShapes Go.WideShapes Go.ChangeAt Go.RowKit
theorem zE_mayN (n : Nat) : May (n + 1) zE := by
  refine ⟨?_, by simp [bytesT, zE]; decide +kernel⟩
  refine ⟨?_, by decide, fun i t h => by simp at h⟩
  unfold Fits FitsB
  exact ⟨by decide, by decide, .inr rfl, .inr rfl, by decide +kernel, .inr (by decide +kernel), by decide, .inr rfl, by decide⟩
/-- Between two of Check's statements: what was found, and where the command lies. -/
def Jn (P : Prop) (w : World) (c0 c1 c2 c3 c4 c5 c6 c7 : Value) (x : Value) (wx : World) : Prop := (∃ b : Bool, x = .bool b ∧ (b = true ↔ P)) ∧ Below w.heap.size w wx ∧ At8 wx w.heap.size c0 c1 c2 c3 c4 c5 c6 c7
def Jc (P : Prop) (w : World) (c0 c1 c2 c3 c4 c5 c6 c7 : Value) (x : Value) (wx : World) : Prop := (∃ b : Bool, x = .bool b ∧ (b = false ↔ P)) ∧ Below w.heap.size w wx ∧ At8 wx w.heap.size c0 c1 c2 c3 c4 c5 c6 c7
theorem mayC_iff (n : Nat) (k : Int) (s : ByteArray) (tv : Tv) (d : Int) : MayC (n + 1) ⟨k, s, tv, d⟩ ↔ ((((1 ≤ k ∧ k ≤ 9) ∧ (0 ≤ d ∧ d ≤ 1073741824) ∧ May (n + 1) tv) ∧ (k = 1 ∨ d = 0)) ∧ (cVl k = true ∨ tv = zE)) ∧ (if k = 3 ∨ k = 7 ∨ k = 9 then s.toList.isEmpty = true else if k = 8 then decide (s.size ≤ 200) = true else nmB s = true) := by
  have hz := zE_mayN n
  unfold MayC
  constructor
  · rintro ⟨h1, h2, h3, h4⟩
    simp only [wi, Bool.and_eq_true, decide_eq_true_eq] at h1
    have hd : (0 ≤ d ∧ d ≤ 1073741824) ∧ (k = 1 ∨ d = 0) := by
      by_cases e : k = 1
      · subst e; simp [cdf, wi] at h4; exact ⟨h4, .inl rfl⟩
      · simp [cdf, e] at h4; subst h4; exact ⟨⟨by decide, by decide⟩, .inr rfl⟩
    have hv : May (n + 1) tv ∧ (cVl k = true ∨ tv = zE) := by
      rcases h3 with ⟨a, b⟩ | ⟨_, b⟩
      · exact ⟨b, .inl a⟩
      · subst b; exact ⟨hz, .inr rfl⟩
    refine ⟨⟨⟨⟨h1, hd.1, hv.1⟩, hd.2⟩, hv.2⟩, ?_⟩
    obtain ⟨a, b⟩ := h1
    have : k = 1 ∨ k = 2 ∨ k = 3 ∨ k = 4 ∨ k = 5 ∨ k = 6 ∨ k = 7 ∨ k = 8 ∨ k = 9 := by have a2 : 1 ≤ k := a; have b2 : k ≤ 9 := b; omega
    rcases this with rfl | rfl | rfl | rfl | rfl | rfl | rfl | rfl | rfl <;> simpa [cnf, cNm] using h2
  · rintro ⟨⟨⟨⟨h1, hd, hv⟩, hd2⟩, hv2⟩, h2⟩
    obtain ⟨a, b⟩ := h1
    refine ⟨by simp [wi, a, b], ?_, ?_, ?_⟩
    · have : k = 1 ∨ k = 2 ∨ k = 3 ∨ k = 4 ∨ k = 5 ∨ k = 6 ∨ k = 7 ∨ k = 8 ∨ k = 9 := by omega
      rcases this with rfl | rfl | rfl | rfl | rfl | rfl | rfl | rfl | rfl <;> simpa [cnf, cNm] using h2
    · unfold cvf
      cases hc : cVl k
      · refine .inr ⟨rfl, ?_⟩
        rcases hv2 with e | e
        · rw [hc] at e; cases e
        · exact e
      · exact .inl ⟨rfl, hv⟩
    · rcases hd2 with rfl | rfl
      · simp [cdf, wi, hd.1, hd.2]
      · by_cases e : k = 1 <;> simp [cdf, wi, e]
set_option maxHeartbeats 4000000 in
set_option maxRecDepth 100000 in
theorem rccheck_calls (n : Nat) (tv : Tv) (k : Int) (s : ByteArray) (vk vx vb : Int) (vs : ByteArray) (la : Option Addr) (ll lc : Nat) (d : Int) (w : World) (h : Is w (n + 1) (.agg #[.int .i64 vk, .int .i64 vx, .int .u64 vb, .string vs, .slice la ll lc]) tv) : Calls Tryz.prog 7 #[.agg #[.int .i64 k, .string s, .int .i64 vk, .int .i64 vx, .int .u64 vb, .string vs, .slice la ll lc, .int .i64 d]] w (CkP (MayC (n + 1) ⟨k, s, tv, d⟩) w) := by
  have HX0 : Hid (At8 (w.alloc (.cells #[.int .i64 k, .string s, .int .i64 vk, .int .i64 vx, .int .u64 vb, .string vs, .slice la ll lc, .int .i64 d] 27)) w.heap.size (.int .i64 k) (.string s) (.int .i64 vk) (.int .i64 vx) (.int .u64 vb) (.string vs) (.slice la ll lc) (.int .i64 d)) := At8.box w (.int .i64 k) (.string s) (.int .i64 vk) (.int .i64 vx) (.int .u64 vb) (.string vs) (.slice la ll lc) (.int .i64 d)
  have RC : Hid (∀ W, Below w.heap.size w W → _) := fun W hB => rcheck_calls (n + 1) (.agg #[.int .i64 vk, .int .i64 vx, .int .u64 vb, .string vs, .slice la ll lc]) tv W (h.below hB)
  have SC : Hid (∀ W, Below w.heap.size w W → _) := fun W hB => rsame_calls (n + 1) (.agg #[.int .i64 vk, .int .i64 vx, .int .u64 vb, .string vs, .slice la ll lc]) tv (.agg #[.int .i64 0, .int .i64 0, .int .u64 0, .string ⟨#[]⟩, .slice none 0 0]) zE W (h.below hB) (zE_is W n)
  have TC : Hid (∀ W, _) := fun W => rtext_calls s W
  have NC : Hid (∀ W, _) := fun W => rname_calls s W
  have HM : Hid _ := mayC_iff n k s tv d
  have HV : Hid (cVl k = (k == 3 || k == 5 || k == 6 || k == 7)) := rfl
  have HF : Hid (∀ r w', (MayC (n + 1) ⟨k, s, tv, d⟩ → r = 0) → (¬ MayC (n + 1) ⟨k, s, tv, d⟩ → r = 1) → Below w.heap.size w w' → CkP (MayC (n + 1) ⟨k, s, tv, d⟩) w (.returned (.int .i64 r)) w') := fun r w' h1 h2 h3 => ⟨r, rfl, h1, h2, h3⟩
  generalize CkP (MayC (n + 1) ⟨k, s, tv, d⟩) w = Q at HF ⊢
  generalize MayC (n + 1) ⟨k, s, tv, d⟩ = ME at HF HM
  generalize May (n + 1) tv = MY at HM RC
  generalize cVl k = qV at HM HV
  generalize nmB s = bn at HM NC
  generalize decide (s.size ≤ 200) = bt at HM TC
  clear h
  go_enter Tryz.func7, Tryz.ntmps7
  go_upto_region 2 with fail
  go_cut [4] (fun x wx => Jn ((1 ≤ k ∧ k ≤ 9) ∧ (0 ≤ d ∧ d ≤ 1073741824) ∧ MY) w (.int .i64 k) (.string s) (.int .i64 vk) (.int .i64 vx) (.int .u64 vb) (.string vs) (.slice la ll lc) (.int .i64 d) x wx)
  case first =>
    have HB : Hid (Below w.heap.size w (w.alloc (.cells #[.int .i64 k, .string s, .int .i64 vk, .int .i64 vx, .int .u64 vb, .string vs, .slice la ll lc, .int .i64 d] 27))) := bel1 _ _
    have HX := HX0
    obtain ⟨x0, x1, x2, x3, x4, x5, x6, x7⟩ := HX.out
    by_cases k1 : 1 ≤ k
    rotate_left
    · go_wp2_with fail
      go_meet
      exact ⟨⟨false, rfl, ⟨nofun, fun h => by have := h.1.1; omega⟩⟩, HB.out, HX.out⟩
    by_cases k2 : k ≤ 9
    rotate_left
    · go_wp2_with fail
      go_meet
      exact ⟨⟨false, rfl, ⟨nofun, fun h => by have := h.1.2; omega⟩⟩, HB.out, HX.out⟩
    by_cases t1 : 0 ≤ d
    rotate_left
    · go_wp2_with fail
      go_meet
      exact ⟨⟨false, rfl, ⟨nofun, fun h => by have := h.2.1.1; omega⟩⟩, HB.out, HX.out⟩
    by_cases t2 : d ≤ 1073741824
    rotate_left
    · go_wp2_with fail
      go_meet
      exact ⟨⟨false, rfl, ⟨nofun, fun h => by have := h.2.1.2; omega⟩⟩, HB.out, HX.out⟩
    go_wp2_with fail
    refine Calls.mono (RC.out _ ?_) ?_
    · exact HB.out
    rintro e w1 ⟨⟨r, rfl, r1, r2⟩, hb⟩
    clear x0 x1 x2 x3 x4 x5 x6 x7
    replace HB : Hid (Below w.heap.size w w1) := bel2 HB.out hb
    replace HX : Hid (At8 w1 w.heap.size (.int .i64 k) (.string s) (.int .i64 vk) (.int .i64 vx) (.int .u64 vb) (.string vs) (.slice la ll lc) (.int .i64 d)) := HX.out.below hb
    clear hb
    have HR : Hid ((MY → r = 0) ∧ (¬ MY → r = 1)) := ⟨r1, r2⟩
    clear r1 r2
    go_wp2_with fail
    go_meet
    refine ⟨⟨_, rfl, ?_⟩, HB.out, HX.out⟩
    by_cases hm : MY
    · have := HR.out.1 hm; simp [hm, this, k1, k2, t1, t2]
    · have := HR.out.2 hm; simp [hm, this]
  case rest =>
  obtain ⟨⟨b, rfl, hbP⟩, HB, HX⟩ := hcut
  replace HB : Hid (Below w.heap.size w wc) := HB
  replace HX : Hid (At8 wc w.heap.size (.int .i64 k) (.string s) (.int .i64 vk) (.int .i64 vx) (.int .u64 vb) (.string vs) (.slice la ll lc) (.int .i64 d)) := HX
  generalize hP1 : ((1 ≤ k ∧ k ≤ 9) ∧ (0 ≤ d ∧ d ≤ 1073741824) ∧ MY) = P1 at hbP HM
  have HP : Hid (b = true ↔ P1) := hbP
  clear hbP hP1
  go_upto_region 3 with fail
  go_cut [35] (fun x wx => Jc (k = 1 ∨ d = 0) w (.int .i64 k) (.string s) (.int .i64 vk) (.int .i64 vx) (.int .u64 vb) (.string vs) (.slice la ll lc) (.int .i64 d) x wx)
  case first =>
    by_cases e1 : k = 1
    · subst e1
      obtain ⟨x0, x1, x2, x3, x4, x5, x6, x7⟩ := HX.out
      go_wp2_with fail
      go_meet
      exact ⟨⟨false, rfl, by simp⟩, HB.out, HX.out⟩
    have d1 : (k == 1) = false := by simpa using e1
    have n1 : (k != 1) = true := by simpa using e1
    by_cases z : d = 0
    · subst z
      obtain ⟨x0, x1, x2, x3, x4, x5, x6, x7⟩ := HX.out
      clear e1
      go_wp2_with fail
      go_meet
      exact ⟨⟨false, rfl, by simp⟩, HB.out, HX.out⟩
    have HE : Hid (¬ (k = 1 ∨ d = 0)) := fun h => h.elim e1 z
    have dz : (d == 0) = false := by simpa using z
    have nz : (d != 0) = true := by simpa using z
    clear e1 z
    obtain ⟨x0, x1, x2, x3, x4, x5, x6, x7⟩ := HX.out
    go_wp2_with fail
    go_meet
    exact ⟨⟨true, rfl, ⟨nofun, fun h => absurd h HE.out⟩⟩, HB.out, HX.out⟩
  case rest =>
  obtain ⟨⟨q, rfl, hbP⟩, HB, HX⟩ := hcut
  replace HB : Hid (Below w.heap.size w wc) := HB
  replace HX : Hid (At8 wc w.heap.size (.int .i64 k) (.string s) (.int .i64 vk) (.int .i64 vx) (.int .u64 vb) (.string vs) (.slice la ll lc) (.int .i64 d)) := HX
  have HC : Hid (q = false ↔ k = 1 ∨ d = 0) := hbP
  clear hbP
  go_upto_if 35 with fail
  go_cut [4] (fun x wx => Jn (P1 ∧ (k = 1 ∨ d = 0)) w (.int .i64 k) (.string s) (.int .i64 vk) (.int .i64 vx) (.int .u64 vb) (.string vs) (.slice la ll lc) (.int .i64 d) x wx)
  case first =>
    cases q with
    | false =>
      have HT := HC.out.1 rfl
      have HT2 : Hid _ := HT
      clear HT
      go_wp2_with fail
      go_meet
      exact ⟨⟨b, rfl, by rw [HP.out]; exact ⟨fun h => ⟨h, HT2.out⟩, fun h => h.1⟩⟩, HB.out, HX.out⟩
    | true =>
      go_wp2_with fail
      go_meet
      exact ⟨⟨false, rfl, nofun, fun h => by have := HC.out.2 h.2; cases this⟩, HB.out, HX.out⟩
  case rest =>
  obtain ⟨⟨b, rfl, hbP⟩, HB, HX⟩ := hcut
  replace HB : Hid (Below w.heap.size w wc) := HB
  replace HX : Hid (At8 wc w.heap.size (.int .i64 k) (.string s) (.int .i64 vk) (.int .i64 vx) (.int .u64 vb) (.string vs) (.slice la ll lc) (.int .i64 d)) := HX
  generalize hP1 : (P1 ∧ (k = 1 ∨ d = 0)) = P2 at hbP HM
  have HP : Hid (b = true ↔ P2) := hbP
  clear hbP hP1
  clear HC
  go_upto_region 5 with fail
  go_cut [56] (fun x wx => Jc (qV = true ∨ tv = zE) w (.int .i64 k) (.string s) (.int .i64 vk) (.int .i64 vx) (.int .u64 vb) (.string vs) (.slice la ll lc) (.int .i64 d) x wx)
  case first =>
    by_cases e3 : k = 3
    · subst e3
      obtain ⟨x0, x1, x2, x3, x4, x5, x6, x7⟩ := HX.out
      have HQ : Hid (qV = true) := HV.out
      clear HV
      go_wp2_with fail
      go_meet
      exact ⟨⟨false, rfl, by simp [HQ.out]⟩, HB.out, HX.out⟩
    by_cases e5 : k = 5
    · subst e5
      obtain ⟨x0, x1, x2, x3, x4, x5, x6, x7⟩ := HX.out
      have HQ : Hid (qV = true) := HV.out
      clear HV
      go_wp2_with fail
      go_meet
      exact ⟨⟨false, rfl, by simp [HQ.out]⟩, HB.out, HX.out⟩
    by_cases e6 : k = 6
    · subst e6
      obtain ⟨x0, x1, x2, x3, x4, x5, x6, x7⟩ := HX.out
      have HQ : Hid (qV = true) := HV.out
      clear HV
      go_wp2_with fail
      go_meet
      exact ⟨⟨false, rfl, by simp [HQ.out]⟩, HB.out, HX.out⟩
    by_cases e7 : k = 7
    · subst e7
      obtain ⟨x0, x1, x2, x3, x4, x5, x6, x7⟩ := HX.out
      have HQ : Hid (qV = true) := HV.out
      clear HV
      go_wp2_with fail
      go_meet
      exact ⟨⟨false, rfl, by simp [HQ.out]⟩, HB.out, HX.out⟩
    have d3 : (k == 3) = false := by simpa using e3
    have n3 : (k != 3) = true := by simpa using e3
    have d5 : (k == 5) = false := by simpa using e5
    have n5 : (k != 5) = true := by simpa using e5
    have d6 : (k == 6) = false := by simpa using e6
    have n6 : (k != 6) = true := by simpa using e6
    have d7 : (k == 7) = false := by simpa using e7
    have n7 : (k != 7) = true := by simpa using e7
    have HQ : Hid (qV = false) := by show qV = false; rw [HV.out, d3, d5, d6, d7]; rfl
    clear HV e3 e5 e6 e7
    obtain ⟨x0, x1, x2, x3, x4, x5, x6, x7⟩ := HX.out
    go_wp2_with fail
    refine Calls.mono (SC.out _ ?_) ?_
    · exact HB.out
    rintro e w1 ⟨⟨r, rfl, r1⟩, hb⟩
    clear x0 x1 x2 x3 x4 x5 x6 x7
    replace HB : Hid (Below w.heap.size w w1) := bel2 HB.out hb
    replace HX : Hid (At8 w1 w.heap.size (.int .i64 k) (.string s) (.int .i64 vk) (.int .i64 vx) (.int .u64 vb) (.string vs) (.slice la ll lc) (.int .i64 d)) := HX.out.below hb
    clear hb
    have HR : Hid (r = true ↔ tv = zE) := r1
    clear r1
    cases r with
    | true =>
      have HT : Hid (tv = zE) := HR.out.1 rfl
      go_wp2_with fail
      go_meet
      exact ⟨⟨false, rfl, by simp [HT.out]⟩, HB.out, HX.out⟩
    | false =>
      have HT : Hid (¬ tv = zE) := fun h => by have := HR.out.2 h; cases this
      go_wp2_with fail
      go_meet
      exact ⟨⟨true, rfl, by simp [HT.out, HQ.out]⟩, HB.out, HX.out⟩
  case rest =>
  obtain ⟨⟨q, rfl, hbP⟩, HB, HX⟩ := hcut
  replace HB : Hid (Below w.heap.size w wc) := HB
  replace HX : Hid (At8 wc w.heap.size (.int .i64 k) (.string s) (.int .i64 vk) (.int .i64 vx) (.int .u64 vb) (.string vs) (.slice la ll lc) (.int .i64 d)) := HX
  have HC : Hid (q = false ↔ qV = true ∨ tv = zE) := hbP
  clear hbP
  go_upto_if 56 with fail
  go_cut [4] (fun x wx => Jn (P2 ∧ (qV = true ∨ tv = zE)) w (.int .i64 k) (.string s) (.int .i64 vk) (.int .i64 vx) (.int .u64 vb) (.string vs) (.slice la ll lc) (.int .i64 d) x wx)
  case first =>
    cases q with
    | false =>
      have HT := HC.out.1 rfl
      have HT2 : Hid _ := HT
      clear HT
      go_wp2_with fail
      go_meet
      exact ⟨⟨b, rfl, by rw [HP.out]; exact ⟨fun h => ⟨h, HT2.out⟩, fun h => h.1⟩⟩, HB.out, HX.out⟩
    | true =>
      go_wp2_with fail
      go_meet
      exact ⟨⟨false, rfl, nofun, fun h => by have := HC.out.2 h.2; cases this⟩, HB.out, HX.out⟩
  case rest =>
  obtain ⟨⟨b, rfl, hbP⟩, HB, HX⟩ := hcut
  replace HB : Hid (Below w.heap.size w wc) := HB
  replace HX : Hid (At8 wc w.heap.size (.int .i64 k) (.string s) (.int .i64 vk) (.int .i64 vx) (.int .u64 vb) (.string vs) (.slice la ll lc) (.int .i64 d)) := HX
  generalize hP1 : (P2 ∧ (qV = true ∨ tv = zE)) = P3 at hbP HM
  have HP : Hid (b = true ↔ P3) := hbP
  clear hbP hP1
  clear HC
  by_cases e3 : k = 3
  · subst e3
    obtain ⟨x0, x1, x2, x3, x4, x5, x6, x7⟩ := HX.out
    cases b with
    | false =>
      have hP1 : ¬ P3 := fun h => by have := HP.out.2 h; cases this
      clear HP
      go_wp2_with fail
      exact HF.out 1 _ (fun hm => absurd (HM.out.1 hm).1 hP1) (fun _ => rfl) HB.out
    | true =>
      have hP1 : Hid P3 := HP.out.1 rfl
      clear HP
      by_cases es : s.toList = []
      · have HE : Hid (s.toList = []) := es
        have q1 : s = ⟨#[]⟩ := tl_inj (es.trans (by decide +kernel))
        subst q1
        go_wp2_with fail
        exact HF.out 0 _ (fun _ => rfl) (fun h => absurd (HM.out.2 ⟨hP1.out, by first | (simp; done) | (simp; exact HE.out)⟩) h) HB.out
      · have HE : Hid (¬ s.toList = []) := es
        have q1 : (s.toList == []) = false := by simpa using es
        have q2 : (s.toList == ByteArray.toList ⟨#[]⟩) = false := by rw [show ByteArray.toList ⟨#[]⟩ = [] from by decide +kernel]; exact q1
        clear es
        go_wp2_with fail
        exact HF.out 1 _ (fun hm => absurd (HM.out.1 hm).2 (by simp; exact HE.out)) (fun _ => rfl) HB.out
  by_cases e7 : k = 7
  · subst e7
    obtain ⟨x0, x1, x2, x3, x4, x5, x6, x7⟩ := HX.out
    cases b with
    | false =>
      have hP1 : ¬ P3 := fun h => by have := HP.out.2 h; cases this
      clear HP
      go_wp2_with fail
      exact HF.out 1 _ (fun hm => absurd (HM.out.1 hm).1 hP1) (fun _ => rfl) HB.out
    | true =>
      have hP1 : Hid P3 := HP.out.1 rfl
      clear HP
      by_cases es : s.toList = []
      · have HE : Hid (s.toList = []) := es
        have q1 : s = ⟨#[]⟩ := tl_inj (es.trans (by decide +kernel))
        subst q1
        go_wp2_with fail
        exact HF.out 0 _ (fun _ => rfl) (fun h => absurd (HM.out.2 ⟨hP1.out, by first | (simp; done) | (simp; exact HE.out)⟩) h) HB.out
      · have HE : Hid (¬ s.toList = []) := es
        have q1 : (s.toList == []) = false := by simpa using es
        have q2 : (s.toList == ByteArray.toList ⟨#[]⟩) = false := by rw [show ByteArray.toList ⟨#[]⟩ = [] from by decide +kernel]; exact q1
        clear es
        go_wp2_with fail
        exact HF.out 1 _ (fun hm => absurd (HM.out.1 hm).2 (by simp; exact HE.out)) (fun _ => rfl) HB.out
  by_cases e9 : k = 9
  · subst e9
    obtain ⟨x0, x1, x2, x3, x4, x5, x6, x7⟩ := HX.out
    cases b with
    | false =>
      have hP1 : ¬ P3 := fun h => by have := HP.out.2 h; cases this
      clear HP
      go_wp2_with fail
      exact HF.out 1 _ (fun hm => absurd (HM.out.1 hm).1 hP1) (fun _ => rfl) HB.out
    | true =>
      have hP1 : Hid P3 := HP.out.1 rfl
      clear HP
      by_cases es : s.toList = []
      · have HE : Hid (s.toList = []) := es
        have q1 : s = ⟨#[]⟩ := tl_inj (es.trans (by decide +kernel))
        subst q1
        go_wp2_with fail
        exact HF.out 0 _ (fun _ => rfl) (fun h => absurd (HM.out.2 ⟨hP1.out, by first | (simp; done) | (simp; exact HE.out)⟩) h) HB.out
      · have HE : Hid (¬ s.toList = []) := es
        have q1 : (s.toList == []) = false := by simpa using es
        have q2 : (s.toList == ByteArray.toList ⟨#[]⟩) = false := by rw [show ByteArray.toList ⟨#[]⟩ = [] from by decide +kernel]; exact q1
        clear es
        go_wp2_with fail
        exact HF.out 1 _ (fun hm => absurd (HM.out.1 hm).2 (by simp; exact HE.out)) (fun _ => rfl) HB.out
  by_cases e8 : k = 8
  · subst e8
    obtain ⟨x0, x1, x2, x3, x4, x5, x6, x7⟩ := HX.out
    cases b with
    | false =>
      have hP1 : ¬ P3 := fun h => by have := HP.out.2 h; cases this
      clear HP
      go_wp2_with fail
      exact HF.out 1 _ (fun hm => absurd (HM.out.1 hm).1 hP1) (fun _ => rfl) HB.out
    | true =>
      have hP1 : Hid P3 := HP.out.1 rfl
      clear HP
      go_wp2_with fail
      refine (TC.out _).mono ?_
      rintro e w1 ⟨rfl, e9⟩
      obtain rfl := e9.symm
      clear e9
      cases bt with
      | true =>
        go_wp2_with fail
        exact HF.out 0 _ (fun _ => rfl) (fun h => absurd (HM.out.2 ⟨hP1.out, by simp⟩) h) HB.out
      | false =>
        go_wp2_with fail
        exact HF.out 1 _ (fun hm => absurd (HM.out.1 hm).2 (by simp)) (fun _ => rfl) HB.out
  have d3 : (k == 3) = false := by simpa using e3
  have n3 : (k != 3) = true := by simpa using e3
  have d7 : (k == 7) = false := by simpa using e7
  have n7 : (k != 7) = true := by simpa using e7
  have d9 : (k == 9) = false := by simpa using e9
  have n9 : (k != 9) = true := by simpa using e9
  have d8 : (k == 8) = false := by simpa using e8
  have n8 : (k != 8) = true := by simpa using e8
  have HE : Hid (¬ (k = 3 ∨ k = 7 ∨ k = 9) ∧ ¬ k = 8) := ⟨by simp [e3, e7, e9], e8⟩
  clear e3 e7 e9 e8
  obtain ⟨x0, x1, x2, x3, x4, x5, x6, x7⟩ := HX.out
  cases b with
  | false =>
    have hP1 : ¬ P3 := fun h => by have := HP.out.2 h; cases this
    clear HP
    go_wp2_with fail
    exact HF.out 1 _ (fun hm => absurd (HM.out.1 hm).1 hP1) (fun _ => rfl) HB.out
  | true =>
    have hP1 : Hid P3 := HP.out.1 rfl
    clear HP
    go_wp2_with fail
    refine (NC.out _).mono ?_
    rintro e w1 ⟨rfl, e9⟩
    obtain rfl := e9.symm
    clear e9
    cases bn with
    | true =>
      go_wp2_with fail
      exact HF.out 0 _ (fun _ => rfl) (fun h => absurd (HM.out.2 ⟨hP1.out, by simp [HE.out.1, HE.out.2]⟩) h) HB.out
    | false =>
      go_wp2_with fail
      exact HF.out 1 _ (fun hm => absurd (HM.out.1 hm).2 (by simp [HE.out.1, HE.out.2])) (fun _ => rfl) HB.out
set_option maxHeartbeats 1000000 in
theorem closes0_calls (a : Option Addr) (c : Nat) (w : World) : Calls Tryz.prog 8 #[.slice a 0 c] w fun e w' => e = .returned (.bool false) ∧ Below w.heap.size w w' := by
  go_enter Tryz.func8, Tryz.ntmps8
  go_wp2_with fail
  go_ret
  exact ⟨rfl, Below.refl _ _⟩
set_option maxHeartbeats 1000000 in
set_option maxRecDepth 100000 in
theorem closes1_calls (k : Int) (s : ByteArray) (vk vx vb : Int) (vs : ByteArray) (la : Option Addr) (ll lc : Nat) (d : Int) (B o m c : Nat) (hm : (m : Int) < 9223372036854775807) (w : World) (x0 : w.cell? ⟨B, o + m * 8, none⟩ = some (.int .i64 k)) (x1 : w.cell? ⟨B, o + m * 8 + 1, none⟩ = some (.string s)) (x2 : w.cell? ⟨B, o + m * 8 + 2, none⟩ = some (.int .i64 vk)) (x3 : w.cell? ⟨B, o + m * 8 + 3, none⟩ = some (.int .i64 vx)) (x4 : w.cell? ⟨B, o + m * 8 + 4, none⟩ = some (.int .u64 vb)) (x5 : w.cell? ⟨B, o + m * 8 + 5, none⟩ = some (.string vs)) (x6 : w.cell? ⟨B, o + m * 8 + 6, none⟩ = some (.slice la ll lc)) (x7 : w.cell? ⟨B, o + m * 8 + 7, none⟩ = some (.int .i64 d)) : Calls Tryz.prog 8 #[.slice (some ⟨B, o, none⟩) (m + 1) c] w fun e w' => e = .returned (.bool (clo k)) ∧ Below w.heap.size w w' := by
  have HC : Hid (∀ W, Calls Tryz.prog 25 #[.agg #[.int .i64 k, .string s, .int .i64 vk, .int .i64 vx, .int .u64 vb, .string vs, .slice la ll lc, .int .i64 d]] W fun e w' => e = .returned (.bool (clo k)) ∧ Below W.heap.size W w') := fun W => closes_calls k s vk vx vb vs la ll lc d W
  have h0 : decide ((0 : Int) < ((m + 1 : Nat) : Int)) = true := decide_eq_true (by omega)
  have h1 : wrap64 (((m + 1 : Nat) : Int) - 1) = (m : Int) := by unfold wrap64; omega
  have h1' : wrap64 ((m : Int) + 1 - 1) = (m : Int) := by unfold wrap64; omega
  have h3 : wrap64 (m : Int) = (m : Int) := by unfold wrap64; omega
  have hlt : (m : Int) < ((m + 1 : Nat) : Int) := by omega
  have h2 : decide ((m : Int) < ((m + 1 : Nat) : Int)) = true := decide_eq_true hlt
  generalize clo k = bc at HC ⊢
  clear hm
  go_enter Tryz.func8, Tryz.ntmps8
  go_wp2_with fail
  refine (HC.out _).mono ?_
  rintro e w1 ⟨rfl, hb⟩
  have HB : Hid (Below w.heap.size w w1) := hb
  clear hb
  go_wp2_with fail
  go_ret
  exact ⟨rfl, HB.out⟩
set_option maxHeartbeats 1000000 in
theorem rcloses0_calls (a : Option Addr) (c : Nat) (w : World) : Calls Tryz.prog 9 #[.slice a 0 c] w fun e w' => e = .returned (.bool false) ∧ Below w.heap.size w w' := by
  go_enter Tryz.func9, Tryz.ntmps9
  go_wp2_with fail
  go_ret
  exact ⟨rfl, Below.refl _ _⟩
set_option maxHeartbeats 1000000 in
set_option maxRecDepth 100000 in
theorem rcloses1_calls (k : Int) (s : ByteArray) (vk vx vb : Int) (vs : ByteArray) (la : Option Addr) (ll lc : Nat) (d : Int) (B o m c : Nat) (hm : (m : Int) < 9223372036854775807) (w : World) (x0 : w.cell? ⟨B, o + m * 8, none⟩ = some (.int .i64 k)) (x1 : w.cell? ⟨B, o + m * 8 + 1, none⟩ = some (.string s)) (x2 : w.cell? ⟨B, o + m * 8 + 2, none⟩ = some (.int .i64 vk)) (x3 : w.cell? ⟨B, o + m * 8 + 3, none⟩ = some (.int .i64 vx)) (x4 : w.cell? ⟨B, o + m * 8 + 4, none⟩ = some (.int .u64 vb)) (x5 : w.cell? ⟨B, o + m * 8 + 5, none⟩ = some (.string vs)) (x6 : w.cell? ⟨B, o + m * 8 + 6, none⟩ = some (.slice la ll lc)) (x7 : w.cell? ⟨B, o + m * 8 + 7, none⟩ = some (.int .i64 d)) : Calls Tryz.prog 9 #[.slice (some ⟨B, o, none⟩) (m + 1) c] w fun e w' => e = .returned (.bool (clo k)) ∧ Below w.heap.size w w' := by
  have HC : Hid (∀ W, Calls Tryz.prog 26 #[.agg #[.int .i64 k, .string s, .int .i64 vk, .int .i64 vx, .int .u64 vb, .string vs, .slice la ll lc, .int .i64 d]] W fun e w' => e = .returned (.bool (clo k)) ∧ Below W.heap.size W w') := fun W => rcloses_calls k s vk vx vb vs la ll lc d W
  have h0 : decide ((0 : Int) < ((m + 1 : Nat) : Int)) = true := decide_eq_true (by omega)
  have h1 : wrap64 (((m + 1 : Nat) : Int) - 1) = (m : Int) := by unfold wrap64; omega
  have h1' : wrap64 ((m : Int) + 1 - 1) = (m : Int) := by unfold wrap64; omega
  have h3 : wrap64 (m : Int) = (m : Int) := by unfold wrap64; omega
  have hlt : (m : Int) < ((m + 1 : Nat) : Int) := by omega
  have h2 : decide ((m : Int) < ((m + 1 : Nat) : Int)) = true := decide_eq_true hlt
  generalize clo k = bc at HC ⊢
  clear hm
  go_enter Tryz.func9, Tryz.ntmps9
  go_wp2_with fail
  refine (HC.out _).mono ?_
  rintro e w1 ⟨rfl, hb⟩
  have HB : Hid (Below w.heap.size w w1) := hb
  clear hb
  go_wp2_with fail
  go_ret
  exact ⟨rfl, HB.out⟩
end Go.Proofs.YtcdhlklmnnmpoaaGreat
namespace Go.Proofs.YtcdhlklmnnmpoaaGreat
open Go.ChangeShapes Go.WideShapes Go.ChangeAt Go.RowKit
/-- A running state in which something is fresh. -/
def zSF : Array Value := #[.int .i64 1, .int .i64 1, .int .i64 4, .int .i64 0, .int .i64 0, .int .i64 0, .int .i64 0, .string ⟨#[]⟩, .int .i64 0, .int .i64 0, .int .u64 0, .string ⟨#[]⟩, .slice none 0 0, .int .i64 0, .int .u64 0, .int .i64 0, .int .i64 0, .int .i64 0, .int .i64 0, .int .i64 0, .int .i64 0, .bool true, .bool false, .slice none 0 0, .slice none 0 0, .int .i64 0, .int .i64 0, .int .u64 0, .string ⟨#[]⟩, .slice none 0 0, .string ⟨#[]⟩]
def sF : Sta := ⟨1, 1, 4, 0, 0, 0, 0, ⟨#[]⟩, zE, 0, 0, 0, 0, 0, 0, 0, 0, true, false, [], [], zE, ⟨#[]⟩⟩
theorem sF_rs (w : World) : Rs w 1 zSF sF :=
  { size := rfl, c0 := rfl, c1 := rfl, c2 := rfl, c3 := rfl, c4 := rfl, c5 := rfl, c6 := rfl, c7 := rfl, c13 := rfl, c14 := rfl, c15 := rfl, c16 := rfl, c17 := rfl, c18 := rfl, c19 := rfl, c20 := rfl, c21 := rfl, c22 := rfl, c30 := rfl, inp := ⟨0, 0, 0, ⟨#[]⟩, none, 0, 0, rfl, rfl, rfl, rfl, rfl, zE_is w 0⟩, res := ⟨0, 0, 0, ⟨#[]⟩, none, 0, 0, rfl, rfl, rfl, rfl, rfl, zE_is w 0⟩, tm := ⟨none, 0, rfl, fun i r h => by simp [sF] at h⟩, up := ⟨none, 0, [], rfl, rfl, fun i r h => by simp at h, fun i r u h => by simp at h⟩ }
theorem small0 : SmallW 1 zE := ⟨by decide, fun i t h => by simp at h⟩
theorem sF_sml : Sml 1 sF := ⟨⟨small0, small0, fun i u h => by simp [sF] at h⟩, by decide, by decide⟩
/-- The two commands. -/
def cm7 : Cm := ⟨7, ⟨#[]⟩, zE, 0⟩
def cm1 : Cm := ⟨1, ⟨#[97]⟩, zE, 3⟩
def cz7 : Array Value := #[.int .i64 7, .string ⟨#[]⟩, .int .i64 0, .int .i64 0, .int .u64 0, .string ⟨#[]⟩, .slice none 0 0, .int .i64 0]
def cz1 : Array Value := #[.int .i64 1, .string ⟨#[97]⟩, .int .i64 0, .int .i64 0, .int .u64 0, .string ⟨#[]⟩, .slice none 0 0, .int .i64 3]
theorem cz7_is (R : Value → Tv → Prop) (h : R (.agg #[.int .i64 0, .int .i64 0, .int .u64 0, .string ⟨#[]⟩, .slice none 0 0]) zE) : IsC R cz7 cm7 := { size := rfl, c0 := rfl, c1 := rfl, v := ⟨0, 0, 0, ⟨#[]⟩, none, 0, 0, rfl, rfl, rfl, rfl, rfl, h⟩, c7 := rfl }
theorem cz1_is (R : Value → Tv → Prop) (h : R (.agg #[.int .i64 0, .int .i64 0, .int .u64 0, .string ⟨#[]⟩, .slice none 0 0]) zE) : IsC R cz1 cm1 := { size := rfl, c0 := rfl, c1 := rfl, v := ⟨0, 0, 0, ⟨#[]⟩, none, 0, 0, rfl, rfl, rfl, rfl, rfl, h⟩, c7 := rfl }
theorem may7 : MayC 1 cm7 := ⟨by decide +kernel, by decide +kernel, .inl ⟨by decide +kernel, zE_mayN 0⟩, by decide +kernel⟩
theorem may1 : MayC 1 cm1 := ⟨by decide +kernel, by decide +kernel, .inr ⟨by decide +kernel, rfl⟩, by decide +kernel⟩
theorem lkc_one {W : World} {g : Nat} {cz : Array Value} {c : Cm} (hr : W.heap[g]? = some (.cells cz 27 (0, 0))) (h1 : ∀ (j : Nat) (v : Value), cz[j]? = some v → v.oneCell' = true) (h : IsC (IsP (fun b => b < W.heap.size) W 1) cz c) : LkC (fun b => b < W.heap.size) (IsP (fun b => b < W.heap.size) W 1) W (some ⟨g, 0, none⟩) [c] :=
  ⟨[cz], rfl, fun i r hr' => by
    match i, hr' with
    | 0, hr' => cases hr'; exact ⟨h.size, h1, g, 0, rfl, (Array.getElem?_eq_some_iff.1 hr).1, by simpa using Lies.row hr⟩
    | i + 1, hr' => simp at hr', fun i r e hr' he => by
    match i, hr', he with
    | 0, hr', he => cases hr'; cases he; exact h
    | i + 1, hr', he => simp at hr'⟩
theorem lka_none (w : World) (n : Nat) : LkA (fun b => b < w.heap.size) (IsP (fun b => b < w.heap.size) w n) w none [] := ⟨[], rfl, fun i r h => by simp at h, fun i r e h => by simp at h⟩
/-- The first plan fails: there is something fresh. -/
def Aw1 (w : World) (e : Ending) (w' : World) : Prop := e = .returned (.tuple #[.slice none 0 0, .slice none 0 0, .int .i64 17]) ∧ Below w.heap.size w w'
theorem aw1_calls (g : Nat) (w : World) (hr : w.heap[g]? = some (.cells cz7 27 (0, 0))) : Calls Tryz.prog 12 #[.agg zSF, .slice none 0 0, .slice (some ⟨g, 0, none⟩) 1 1, .int .i64 0] w (Aw1 w) := by
  refine (plan_calls 0 sF none 0 [] [cm7] 0 zSF (some ⟨g, 0, none⟩) 1 w (sF_rs w) sF_sml (lka_none w 1) (by decide) (fun i a h => by simp at h) (lkc_one hr (fun j v hv => by
    have a2 : cz7.all (·.oneCell') = true := by kernel_rfl
    exact Array.all_eq_true_iff_forall_mem.1 a2 v (Array.mem_of_getElem? hv)) (cz7_is _ (zE_is w 0).lt)) (fun i c h => by
    match i, h with
    | 0, h => cases h; exact small0
    | i + 1, h => simp at h) small0 (by decide)).mono ?_
  rintro e w' ⟨⟨d, Bd, cs, ve, vr, es, rs, _, _, hrun, _⟩ | ⟨code, rfl, _, hf⟩, hb⟩
  · obtain ⟨d1, c, h0, hc, hT⟩ := hrun
    have e0 : d1 = ⟨sF, [], []⟩ := h0
    have e1 : c = cm7 := by simpa using hc.symm
    subst e0 e1
    have := (hT.2.1 rfl).2
    cases this
  · rcases hf with hf | ⟨j, d, c, hrun, hc, hno, h17⟩
    · exact absurd hf (by decide)
    · match j, hrun, hc with
      | 0, hrun, hc =>
        have e0 : d = ⟨sF, [], []⟩ := hrun
        have e1 : c = cm7 := by simpa using hc.symm
        subst e0 e1
        rw [h17 may7 rfl rfl rfl]
        exact ⟨rfl, hb⟩
      | j + 1, _, hc => simp at hc
/-- The second one comes to a timer. -/
def Aw2 (w : World) (e : Ending) (w' : World) : Prop := (∃ g c vr, e = .returned (.tuple #[.slice (some ⟨g, 0, none⟩) 1 c, vr, .int .i64 0]) ∧ w'.cell? ⟨g, 3, none⟩ = some (.int .i64 5)) ∧ Below w.heap.size w w'
def evT : Ev := plE cm1 2
theorem evT_may : MayE 1 evT := ⟨by decide +kernel, by decide +kernel, by decide +kernel, .inr ⟨by decide +kernel, rfl⟩, by decide +kernel⟩
theorem evT_st : StR 1 sF evT (chg sF evT) 0 := ⟨fun _ => by decide +kernel, fun h => absurd evT_may h, by rw [if_pos rfl]⟩
theorem tk1 : TkS 1 [] true 2 cm1 ⟨sF, [], []⟩ ⟨chg sF evT, [evT], []⟩ := ⟨may1, fun h => by revert h; decide, by
  have e : wshR sF [] [] cm1 2 = .ev evT := rfl
  show wshS 1 cm1 _ _ (wshR sF [] [] cm1 2)
  rw [e]
  exact ⟨_, evT_st, rfl⟩⟩
theorem DrI.ev0 {lo Bd n : Nat} {va : Value} {s : Sta} {x : Ev} {w : World} {cs : Array Value} {ve vr : Value} {es rs : List (Array Value)} (h : DrI lo Bd n va ⟨s, [x], []⟩ w cs ve vr es rs) : ∃ g c, ve = .slice (some ⟨g, 0, none⟩) 1 c ∧ w.cell? ⟨g, 3, none⟩ = some (.int .i64 x.d) := by
  have hl : es.length = 1 := h.evl
  obtain ⟨r, hr⟩ : ∃ r, es[0]? = some r := ⟨_, List.getElem?_eq_getElem (by omega)⟩
  have hi := h.evi 0 r x hr rfl
  have ho := h.evo
  obtain ⟨_, ⟨e, hn0⟩ | ⟨g, cap, cur, e, _, hg, _⟩⟩ := ho
  · omega
  · rw [hl] at e
    refine ⟨g, cap, e, ?_⟩
    have hf : (es.flatMap Array.toList)[0 * 13 + 3]? = some (.int .i64 x.d) := flat_get (k := 13) (fun i r hr => by
      obtain ⟨e', he'⟩ : ∃ e', ([x] : List Ev)[i]? = some e' := ⟨_, List.getElem?_eq_getElem (by have := (List.getElem?_eq_some_iff.1 hr).1; simp; omega)⟩
      exact (h.evi i r e' hr he').size) hr hi.c3
    have := h.evo.cells (g := g) (by rw [e]; rfl) (0 * 13 + 3) _ hf
    rw [add_plain] at this
    exact this
theorem aw2_calls (g : Nat) (w : World) (hr : w.heap[g]? = some (.cells cz1 27 (0, 0))) : Calls Tryz.prog 12 #[.agg zSF, .slice none 0 0, .slice (some ⟨g, 0, none⟩) 1 1, .int .i64 2] w (Aw2 w) := by
  refine (plan_calls 0 sF none 0 [] [cm1] 2 zSF (some ⟨g, 0, none⟩) 1 w (sF_rs w) sF_sml (lka_none w 1) (by decide) (fun i a h => by simp at h) (lkc_one hr (fun j v hv => by
    have a2 : cz1.all (·.oneCell') = true := by kernel_rfl
    exact Array.all_eq_true_iff_forall_mem.1 a2 v (Array.mem_of_getElem? hv)) (cz1_is _ (zE_is w 0).lt)) (fun i c h => by
    match i, h with
    | 0, h => cases h; exact small0
    | i + 1, h => simp at h) small0 (by decide)).mono ?_
  rintro e w' ⟨⟨d, Bd, cs, ve, vr, es, rs, rfl, _, hrun, hD⟩ | ⟨code, rfl, _, hf⟩, hb⟩
  · obtain ⟨d1, c, h0, hc, hT⟩ := hrun
    have e0 : d1 = ⟨sF, [], []⟩ := h0
    have e1 : c = cm1 := by simpa using hc.symm
    subst e0 e1
    have e2 := hT.det tk1
    subst e2
    obtain ⟨g, c, rfl, hx⟩ := hD.ev0
    rw [show evT.d = 5 from by decide +kernel] at hx
    exact ⟨⟨g, c, vr, rfl, hx⟩, hb⟩
  · rcases hf with hf | ⟨j, d, c, hrun, hc, hno, h17⟩
    · exact absurd hf (by decide)
    · match j, hrun, hc with
      | 0, hrun, hc =>
        have e0 : d = ⟨sF, [], []⟩ := hrun
        have e1 : c = cm1 := by simpa using hc.symm
        subst e0 e1
        exact absurd tk1 (hno _)
      | j + 1, _, hc => simp at hc
theorem two_rows (w : World) (o : Obj) : Below w.heap.size w (w.alloc o) ∧ (w.alloc o).heap[w.heap.size]? = some o := ⟨bel1 w o, heap_alloc_new w o⟩
set_option maxHeartbeats 4000000 in
set_option maxRecDepth 100000 in
theorem awake_calls (w : World) : Calls Tryz.prog 10 #[] w fun e w' => e = .returned (.bool true) ∧ Below w.heap.size w w' := by
  have hi41 : (Tryz.prog.info? 41).map (·.size) = some zSF.size := info33s zSF rfl
  have z0 : zS.size = zSF.size := rfl
  have a0 : zSF.all (·.oneCell') = true := by kernel_rfl
  have n1 : (w.alloc (.cells zS 41)).heap[w.heap.size]? = some (.cells zS 41 (0, 0)) := heap_alloc_new w _
  go_enter Tryz.func10, Tryz.ntmps10
  go_upto_region 2 with (refine wpList_store_row rfl 41 _ _ rfl w.heap.size zSF rfl rfl 41 zS n1 hi41 z0 a0 ?_)
  rw [World.setRow_alloc_new]
  have r0 : (w.alloc (.cells zSF 41)).heap[w.heap.size]? = some (.cells zSF 41 (0, 0)) := heap_alloc_new w _
  have b0 : Hid (Below w.heap.size w (w.alloc (.cells zSF 41))) := bel1 w _
  clear n1
  generalize w.alloc (.cells zSF 41) = W0 at r0 b0 ⊢
  go_wp2_with (refine wpList_load_row rfl 41 _ rfl w.heap.size rfl 41 zSF (0, 0) _ r0 Tryz.underlying41 rfl hi41 ?_)
  refine Calls.mono (aw1_calls _ _ (heap_alloc_new W0 (.cells cz7 27))) ?_
  rintro e w1 ⟨rfl, hb⟩
  have b1 : Hid (Below w.heap.size w w1) := bel2 b0.out (bel2 (bel1 W0 (.cells cz7 27)) hb)
  have r1 := row_below (bel2 (bel1 W0 (.cells cz7 27)) hb) r0
  clear hb r0
  go_upto_region 3 with fail
  go_wp2_with (refine wpList_load_row rfl 41 _ rfl w.heap.size rfl 41 zSF (0, 0) _ r1 Tryz.underlying41 rfl hi41 ?_)
  refine Calls.mono (aw2_calls _ _ (heap_alloc_new w1 (.cells cz1 27))) ?_
  rintro e w2 ⟨⟨g, c, vr, rfl, hx⟩, hb⟩
  have b2 : Hid (Below w.heap.size w w2) := bel2 b1.out (bel2 (bel1 w1 (.cells cz1 27)) hb)
  clear hb r1
  go_wp2_with fail
  go_ret
  exact ⟨rfl, b2.out⟩
set_option maxHeartbeats 4000000 in
set_option maxRecDepth 100000 in
theorem checks_gen (k : Int) (s : ByteArray) (vk vx vb : Int) (vs : ByteArray) (la : Option Addr) (ll lc : Nat) (d : Int) (r : Int) (bc : Bool) (lv : Value) (w : World)
    (h6 : ∀ W, Below w.heap.size w W → Calls Tryz.prog 6 #[.agg #[.int .i64 k, .string s, .int .i64 vk, .int .i64 vx, .int .u64 vb, .string vs, .slice la ll lc, .int .i64 d]] W fun e w' => e = .returned (.int .i64 r) ∧ Below W.heap.size W w')
    (h7 : ∀ W, Below w.heap.size w W → Calls Tryz.prog 7 #[.agg #[.int .i64 k, .string s, .int .i64 vk, .int .i64 vx, .int .u64 vb, .string vs, .slice la ll lc, .int .i64 d]] W fun e w' => e = .returned (.int .i64 r) ∧ Below W.heap.size W w')
    (h8 : ∀ W, Below w.heap.size w W → Calls Tryz.prog 8 #[lv] W fun e w' => e = .returned (.bool bc) ∧ Below W.heap.size W w')
    (h9 : ∀ W, Below w.heap.size w W → Calls Tryz.prog 9 #[lv] W fun e w' => e = .returned (.bool bc) ∧ Below W.heap.size W w') :
    Calls Tryz.prog 3 #[.agg #[.int .i64 k, .string s, .int .i64 vk, .int .i64 vx, .int .u64 vb, .string vs, .slice la ll lc, .int .i64 d], lv] w fun e w' => e = .returned (.bool true) ∧ Below w.heap.size w w' := by
  have K6 : Hid (∀ W, Below w.heap.size w W → Calls Tryz.prog 6 #[.agg #[.int .i64 k, .string s, .int .i64 vk, .int .i64 vx, .int .u64 vb, .string vs, .slice la ll lc, .int .i64 d]] W fun e w' => e = .returned (.int .i64 r) ∧ Below W.heap.size W w') := h6
  have K7 : Hid (∀ W, Below w.heap.size w W → Calls Tryz.prog 7 #[.agg #[.int .i64 k, .string s, .int .i64 vk, .int .i64 vx, .int .u64 vb, .string vs, .slice la ll lc, .int .i64 d]] W fun e w' => e = .returned (.int .i64 r) ∧ Below W.heap.size W w') := h7
  have K8 : Hid (∀ W, Below w.heap.size w W → Calls Tryz.prog 8 #[lv] W fun e w' => e = .returned (.bool bc) ∧ Below W.heap.size W w') := h8
  have K9 : Hid (∀ W, Below w.heap.size w W → Calls Tryz.prog 9 #[lv] W fun e w' => e = .returned (.bool bc) ∧ Below W.heap.size W w') := h9
  have KA : Hid (∀ W, Below w.heap.size w W → Calls Tryz.prog 10 #[] W fun e w' => e = .returned (.bool true) ∧ Below W.heap.size W w') := fun W _ => awake_calls W
  have r5 : (w.alloc (.cells #[.int .i64 k, .string s, .int .i64 vk, .int .i64 vx, .int .u64 vb, .string vs, .slice la ll lc, .int .i64 d] 27)).heap[w.heap.size]? = some (.cells #[.int .i64 k, .string s, .int .i64 vk, .int .i64 vx, .int .u64 vb, .string vs, .slice la ll lc, .int .i64 d] 27 (0, 0)) := heap_alloc_new w _
  have gR : (w.alloc (.cells #[.int .i64 k, .string s, .int .i64 vk, .int .i64 vx, .int .u64 vb, .string vs, .slice la ll lc, .int .i64 d] 27)).drew.rangeAt w.heap.size 0 (#[.int .i64 k, .string s, .int .i64 vk, .int .i64 vx, .int .u64 vb, .string vs, .slice la ll lc, .int .i64 d] : Array Value).toList := row_range r5
  have HB : Hid (Below w.heap.size w (w.alloc (.cells #[.int .i64 k, .string s, .int .i64 vk, .int .i64 vx, .int .u64 vb, .string vs, .slice la ll lc, .int .i64 d] 27)).drew) := (bel1 _ _).drew
  clear h6 h7 h8 h9 r5
  go_enter Tryz.func3, Tryz.ntmps3
  go_upto_region 1 with fail
  refine wp_region_held_drew (S := (fun w' => w'.rangeAt w.heap.size 0 (#[.int .i64 k, .string s, .int .i64 vk, .int .i64 vx, .int .u64 vb, .string vs, .slice la ll lc, .int .i64 d] : Array Value).toList)) (by kernel_rfl) gR (fun hHeld => ?_)
  change wpAnyH _ _ _ _ _ _ _ _ (World.drew _)
  refine wpAnyH_take (i := 0) (oi := { dst := some 5, op := Go.Op.load 27 (Go.Operand.tmp 2), type := 27, pos := "law.go:29", after := #[], guard := none }) (v := _) rfl (by kernel_rfl) (by kernel_rfl) (by kernel_rfl) (fun _ _ _ h => h) (yieldsIf_load_mid rfl 27 _ rfl w.heap.size 0 rfl (#[.int .i64 k, .string s, .int .i64 vk, .int .i64 vx, .int .u64 vb, .string vs, .slice la ll lc, .int .i64 d] : Array Value).toList _ (fun w h => h) Tryz.underlying27 rfl info27s) hHeld ?_
  simp only [Act.put, List.setIfInBounds_toArray, List.set_cons_zero, List.set_cons_succ]
  refine wpAnyH_take (i := 2) (oi := { dst := some 7, op := Go.Op.load 27 (Go.Operand.tmp 2), type := 27, pos := "law.go:29", after := #[], guard := none }) (v := _) rfl (by kernel_rfl) (by kernel_rfl) (by kernel_rfl) (fun _ _ _ h => h) (yieldsIf_load_mid rfl 27 _ rfl w.heap.size 0 rfl (#[.int .i64 k, .string s, .int .i64 vk, .int .i64 vx, .int .u64 vb, .string vs, .slice la ll lc, .int .i64 d] : Array Value).toList _ (fun w h => h) Tryz.underlying27 rfl info27s) hHeld ?_
  simp only [Act.put, List.setIfInBounds_toArray, List.set_cons_zero, List.set_cons_succ]
  refine wpAnyH_ready (rs := [1]) (by kernel_rfl) (by simp) ?_
  refine AllReadyH.cons (o := { dst := some 6, op := Go.Op.call { callee := Go.Callee.value (Go.Operand.func 6), args := #[Go.Operand.tmp 5], argTypes := #[27] }, type := 29, pos := "law.go:29", after := #[{ on := 0, ground := Go.Ground.data }], guard := none }) rfl (fun K hK => ?_) AllReadyH.nil
  go_simp
  refine (K6.out _ HB.out).mono ?_
  rintro e w1 ⟨rfl, hb⟩
  replace HB : Hid (Below w.heap.size w w1) := bel2 HB.out hb
  replace gR : w1.rangeAt w.heap.size 0 (#[.int .i64 k, .string s, .int .i64 vk, .int .i64 vx, .int .u64 vb, .string vs, .slice la ll lc, .int .i64 d] : Array Value).toList := fun j v hv => cellW (gR j v hv) hb
  clear hb
  refine hK.out _ _ gR (fun hHeld => ?_)
  clear hK K
  refine wpAnyH_ready (rs := [3]) (by kernel_rfl) (by simp) ?_
  refine AllReadyH.cons (o := { dst := some 8, op := Go.Op.call { callee := Go.Callee.value (Go.Operand.func 7), args := #[Go.Operand.tmp 7], argTypes := #[27] }, type := 29, pos := "law.go:29", after := #[{ on := 2, ground := Go.Ground.data }, { on := 1, ground := Go.Ground.chain }], guard := none }) rfl (fun K hK => ?_) AllReadyH.nil
  go_simp
  refine (K7.out _ HB.out).mono ?_
  rintro e w3 ⟨rfl, hb⟩
  replace HB : Hid (Below w.heap.size w w3) := bel2 HB.out hb
  replace gR : w3.rangeAt w.heap.size 0 (#[.int .i64 k, .string s, .int .i64 vk, .int .i64 vx, .int .u64 vb, .string vs, .slice la ll lc, .int .i64 d] : Array Value).toList := fun j v hv => cellW (gR j v hv) hb
  clear hb
  refine hK.out _ _ gR (fun hHeld => ?_)
  clear hK K
  refine wpAnyH_take (i := 4) (oi := { dst := some 9, op := Go.Op.binOp Go.BinOp.eql 29 (Go.Operand.tmp 6) (Go.Operand.tmp 8) 29, type := 4, pos := "law.go:29", after := #[{ on := 1, ground := Go.Ground.data }, { on := 3, ground := Go.Ground.data }], guard := none }) (v := ?_) rfl (by kernel_rfl) (by kernel_rfl) (by kernel_rfl) (fun _ _ _ h => h) (Or.inl ⟨by rfl, ?_⟩) hHeld ?_
  rotate_left 1
  · (intro w hSw; (try dsimp only at hSw); go_simp <;> with_reducible rfl)
  simp only [Act.put, List.setIfInBounds_toArray, List.set_cons_zero, List.set_cons_succ]
  refine wpAnyH_take (i := 5) (oi := { dst := some 10, op := Go.Op.move (Go.Operand.tmp 9), type := 4, pos := "law.go:29", after := #[{ on := 4, ground := Go.Ground.data }, { on := 3, ground := Go.Ground.chain }], guard := none }) (v := ?_) rfl (by kernel_rfl) (by kernel_rfl) (by kernel_rfl) (fun _ _ _ h => h) (Or.inl ⟨by rfl, ?_⟩) hHeld ?_
  rotate_left 1
  · (intro w hSw; (try dsimp only at hSw); go_simp <;> with_reducible rfl)
  simp only [Act.put, List.setIfInBounds_toArray, List.set_cons_zero, List.set_cons_succ]
  refine wpAnyH_take (i := 6) (oi := { dst := some 11, op := Go.Op.move (Go.Operand.tmp 1), type := 28, pos := "law.go:29", after := #[{ on := 5, ground := Go.Ground.guard }], guard := some (5, true) }) (v := ?_) rfl (by kernel_rfl) (by kernel_rfl) (by kernel_rfl) (fun _ _ _ h => h) (Or.inl ⟨by rfl, ?_⟩) hHeld ?_
  rotate_left 1
  · (intro w hSw; (try dsimp only at hSw); go_simp <;> with_reducible rfl)
  simp only [Act.put, List.setIfInBounds_toArray, List.set_cons_zero, List.set_cons_succ]
  refine wpAnyH_take (i := 8) (oi := { dst := some 13, op := Go.Op.move (Go.Operand.tmp 1), type := 28, pos := "law.go:29", after := #[{ on := 5, ground := Go.Ground.guard }], guard := some (5, true) }) (v := ?_) rfl (by kernel_rfl) (by kernel_rfl) (by kernel_rfl) (fun _ _ _ h => h) (Or.inl ⟨by rfl, ?_⟩) hHeld ?_
  rotate_left 1
  · (intro w hSw; (try dsimp only at hSw); go_simp <;> with_reducible rfl)
  simp only [Act.put, List.setIfInBounds_toArray, List.set_cons_zero, List.set_cons_succ]
  refine wpAnyH_ready (rs := [7]) (by kernel_rfl) (by simp) ?_
  refine AllReadyH.cons (o := { dst := some 12, op := Go.Op.call { callee := Go.Callee.value (Go.Operand.func 8), args := #[Go.Operand.tmp 11], argTypes := #[28] }, type := 4, pos := "law.go:29", after := #[{ on := 6, ground := Go.Ground.data }, { on := 5, ground := Go.Ground.chain }, { on := 5, ground := Go.Ground.guard }], guard := some (5, true) }) rfl (fun K hK => ?_) AllReadyH.nil
  go_simp
  refine (K8.out _ HB.out).mono ?_
  rintro e w7 ⟨rfl, hb⟩
  replace HB : Hid (Below w.heap.size w w7) := bel2 HB.out hb
  replace gR : w7.rangeAt w.heap.size 0 (#[.int .i64 k, .string s, .int .i64 vk, .int .i64 vx, .int .u64 vb, .string vs, .slice la ll lc, .int .i64 d] : Array Value).toList := fun j v hv => cellW (gR j v hv) hb
  clear hb
  refine hK.out _ _ gR (fun hHeld => ?_)
  clear hK K
  refine wpAnyH_ready (rs := [9]) (by kernel_rfl) (by simp) ?_
  refine AllReadyH.cons (o := { dst := some 14, op := Go.Op.call { callee := Go.Callee.value (Go.Operand.func 9), args := #[Go.Operand.tmp 13], argTypes := #[28] }, type := 4, pos := "law.go:29", after := #[{ on := 8, ground := Go.Ground.data }, { on := 7, ground := Go.Ground.chain }, { on := 5, ground := Go.Ground.guard }], guard := some (5, true) }) rfl (fun K hK => ?_) AllReadyH.nil
  go_simp
  refine (K9.out _ HB.out).mono ?_
  rintro e w9 ⟨rfl, hb⟩
  replace HB : Hid (Below w.heap.size w w9) := bel2 HB.out hb
  replace gR : w9.rangeAt w.heap.size 0 (#[.int .i64 k, .string s, .int .i64 vk, .int .i64 vx, .int .u64 vb, .string vs, .slice la ll lc, .int .i64 d] : Array Value).toList := fun j v hv => cellW (gR j v hv) hb
  clear hb
  refine hK.out _ _ gR (fun hHeld => ?_)
  clear hK K
  refine wpAnyH_take (i := 10) (oi := { dst := some 15, op := Go.Op.binOp Go.BinOp.eql 4 (Go.Operand.tmp 12) (Go.Operand.tmp 14) 4, type := 4, pos := "law.go:29", after := #[{ on := 7, ground := Go.Ground.data }, { on := 9, ground := Go.Ground.data }, { on := 5, ground := Go.Ground.guard }], guard := some (5, true) }) (v := ?_) rfl (by kernel_rfl) (by kernel_rfl) (by kernel_rfl) (fun _ _ _ h => h) (Or.inl ⟨by rfl, ?_⟩) hHeld ?_
  rotate_left 1
  · (intro w hSw; (try dsimp only at hSw); go_simp <;> with_reducible rfl)
  simp only [Act.put, List.setIfInBounds_toArray, List.set_cons_zero, List.set_cons_succ]
  refine wpAnyH_take (i := 11) (oi := { dst := some 16, op := Go.Op.pick (Go.Operand.tmp 10) (Go.Operand.tmp 15) (Go.Operand.const (Go.Value.bool false)), type := 4, pos := "law.go:29", after := #[{ on := 5, ground := Go.Ground.data }, { on := 10, ground := Go.Ground.data }], guard := none }) (v := ?_) rfl (by kernel_rfl) (by kernel_rfl) (by kernel_rfl) (fun _ _ _ h => h) (Or.inl ⟨by rfl, ?_⟩) hHeld ?_
  rotate_left 1
  · (intro w hSw; (try dsimp only at hSw); go_simp <;> with_reducible rfl)
  simp only [Act.put, List.setIfInBounds_toArray, List.set_cons_zero, List.set_cons_succ]
  refine wpAnyH_take (i := 12) (oi := { dst := some 17, op := Go.Op.move (Go.Operand.tmp 16), type := 4, pos := "law.go:29", after := #[{ on := 11, ground := Go.Ground.data }, { on := 9, ground := Go.Ground.chain }], guard := none }) (v := ?_) rfl (by kernel_rfl) (by kernel_rfl) (by kernel_rfl) (fun _ _ _ h => h) (Or.inl ⟨by rfl, ?_⟩) hHeld ?_
  rotate_left 1
  · (intro w hSw; (try dsimp only at hSw); go_simp <;> with_reducible rfl)
  simp only [Act.put, List.setIfInBounds_toArray, List.set_cons_zero, List.set_cons_succ]
  refine wpAnyH_ready (rs := [13]) (by kernel_rfl) (by simp) ?_
  refine AllReadyH.cons (o := { dst := some 18, op := Go.Op.call { callee := Go.Callee.value (Go.Operand.func 10), args := #[], argTypes := #[] }, type := 4, pos := "law.go:29", after := #[{ on := 12, ground := Go.Ground.chain }, { on := 12, ground := Go.Ground.guard }], guard := some (12, true) }) rfl (fun K hK => ?_) AllReadyH.nil
  go_simp
  refine (KA.out _ HB.out).mono ?_
  rintro e w13 ⟨rfl, hb⟩
  replace HB : Hid (Below w.heap.size w w13) := bel2 HB.out hb
  replace gR : w13.rangeAt w.heap.size 0 (#[.int .i64 k, .string s, .int .i64 vk, .int .i64 vx, .int .u64 vb, .string vs, .slice la ll lc, .int .i64 d] : Array Value).toList := fun j v hv => cellW (gR j v hv) hb
  clear hb
  refine hK.out _ _ gR (fun hHeld => ?_)
  clear hK K
  refine wpAnyH_take (i := 14) (oi := { dst := some 19, op := Go.Op.pick (Go.Operand.tmp 17) (Go.Operand.tmp 18) (Go.Operand.const (Go.Value.bool false)), type := 4, pos := "law.go:29", after := #[{ on := 12, ground := Go.Ground.data }, { on := 13, ground := Go.Ground.data }], guard := none }) (v := ?_) rfl (by kernel_rfl) (by kernel_rfl) (by kernel_rfl) (fun _ _ _ h => h) (Or.inl ⟨by rfl, ?_⟩) hHeld ?_
  rotate_left 1
  · (intro w hSw; (try dsimp only at hSw); go_simp <;> with_reducible rfl)
  simp only [Act.put, List.setIfInBounds_toArray, List.set_cons_zero, List.set_cons_succ]
  refine wpAnyH_take (i := 15) (oi := { dst := some 4, op := Go.Op.assign (Go.Operand.tmp 19), type := 4, pos := "law.go:29", after := #[{ on := 14, ground := Go.Ground.data }, { on := 13, ground := Go.Ground.chain }, { on := 0, ground := Go.Ground.phase }, { on := 1, ground := Go.Ground.phase }, { on := 2, ground := Go.Ground.phase }, { on := 3, ground := Go.Ground.phase }, { on := 4, ground := Go.Ground.phase }, { on := 5, ground := Go.Ground.phase }, { on := 6, ground := Go.Ground.phase }, { on := 7, ground := Go.Ground.phase }, { on := 8, ground := Go.Ground.phase }, { on := 9, ground := Go.Ground.phase }, { on := 10, ground := Go.Ground.phase }, { on := 11, ground := Go.Ground.phase }, { on := 12, ground := Go.Ground.phase }, { on := 13, ground := Go.Ground.phase }, { on := 14, ground := Go.Ground.phase }], guard := none }) (v := ?_) rfl (by kernel_rfl) (by kernel_rfl) (by kernel_rfl) (fun _ _ _ h => h) (Or.inl ⟨by rfl, ?_⟩) hHeld ?_
  rotate_left 1
  · (intro w hSw; (try dsimp only at hSw); go_simp <;> with_reducible rfl)
  simp only [Act.put, List.setIfInBounds_toArray, List.set_cons_zero, List.set_cons_succ]
  refine wpAnyH_done (by kernel_rfl) ?_ _
  go_wp2_with fail
  go_ret
  exact ⟨rfl, HB.out⟩
end Go.Proofs.YtcdhlklmnnmpoaaGreat
namespace Go.Proofs.YtcdhlklmnnmpoaaGreat
open Go.ChangeAt Go.ChangeShapes Go.Deep Go.RowKit Go.WideShapes
theorem list2 {α : Type} : ∀ {l : List α}, l.length = 2 → ∃ a b, l = [a, b]
  | [a, b], _ => ⟨a, b, rfl⟩
theorem list3 {α : Type} : ∀ {l : List α}, l.length = 3 → ∃ a b c, l = [a, b, c]
  | [a, b, c], _ => ⟨a, b, c, rfl⟩
theorem list4 {α : Type} : ∀ {l : List α}, l.length = 4 → ∃ a b c d, l = [a, b, c, d]
  | [a, b, c, d], _ => ⟨a, b, c, d, rfl⟩
theorem list12 {α : Type} : ∀ {l : List α}, l.length = 12 → ∃ a0 a1 a2 a3 a4 a5 a6 a7 a8 a9 a10 a11, l = [a0, a1, a2, a3, a4, a5, a6, a7, a8, a9, a10, a11]
  | [a0, a1, a2, a3, a4, a5, a6, a7, a8, a9, a10, a11], _ => ⟨a0, a1, a2, a3, a4, a5, a6, a7, a8, a9, a10, a11, rfl⟩
theorem list17 {α : Type} : ∀ {l : List α}, l.length = 17 → ∃ a0 a1 a2 a3 a4 a5 a6 a7 a8 a9 a10 a11 a12 a13 a14 a15 a16, l = [a0, a1, a2, a3, a4, a5, a6, a7, a8, a9, a10, a11, a12, a13, a14, a15, a16]
  | [a0, a1, a2, a3, a4, a5, a6, a7, a8, a9, a10, a11, a12, a13, a14, a15, a16], _ => ⟨a0, a1, a2, a3, a4, a5, a6, a7, a8, a9, a10, a11, a12, a13, a14, a15, a16, rfl⟩
theorem list31 {α : Type} : ∀ {l : List α}, l.length = 31 → ∃ a0 a1 a2 a3 a4 a5 a6 a7 a8 a9 a10 a11 a12 a13 a14 a15 a16 a17 a18 a19 a20 a21 a22 a23 a24 a25 a26 a27 a28 a29 a30, l = [a0, a1, a2, a3, a4, a5, a6, a7, a8, a9, a10, a11, a12, a13, a14, a15, a16, a17, a18, a19, a20, a21, a22, a23, a24, a25, a26, a27, a28, a29, a30]
  | [a0, a1, a2, a3, a4, a5, a6, a7, a8, a9, a10, a11, a12, a13, a14, a15, a16, a17, a18, a19, a20, a21, a22, a23, a24, a25, a26, a27, a28, a29, a30], _ => ⟨a0, a1, a2, a3, a4, a5, a6, a7, a8, a9, a10, a11, a12, a13, a14, a15, a16, a17, a18, a19, a20, a21, a22, a23, a24, a25, a26, a27, a28, a29, a30, rfl⟩
theorem cells38 : Tryz.prog.cellsOf 120 = 2 := by kernel_rfl
theorem cells40 : Tryz.prog.cellsOf 50 = 12 := by kernel_rfl
theorem cells27 : Tryz.prog.cellsOf 35 = 3 := by kernel_rfl
theorem cells29 : Tryz.prog.cellsOf 37 = 5 := by kernel_rfl
theorem cells33 : Tryz.prog.cellsOf 41 = 31 := by kernel_rfl
/-- A slice of structs that came in: rows of cells, each read by itself. -/
theorem open_rows {H : Type} {enc : TypeId × Value → H} {W : World} {base : Nat} {spare : Nat → Bool} {held : Bool} {sl el : TypeId} {k : Nat} (hs : Tryz.prog.underlying sl = some (.slice el)) (hc : Tryz.prog.cellsOf el = k) (hk : 0 < k) (fuel : Nat) (cs : List Value) (x : DataW H × List MemPlace)
    (h : DataW.trod enc Tryz.prog W base spare held fuel sl cs = some x) (hwt : ∀ y ∈ x.1.weights Tryz.prog sl, y ≤ reachBytes) :
    ∃ (a : Option Addr) (cap q : Nat) (rows : List (List Value)), cs = [.slice a rows.length cap] ∧ rows.length ≤ 9223372036854775807 ∧ ∀ (i : Nat) r, rows[i]? = some r → r.length = k ∧ (∃ B o, a = some ⟨B, o, none⟩ ∧ ∀ (j : Nat) v, r[j]? = some v → W.cell? ⟨B, o + i * k + j, none⟩ = some v) ∧
      ∃ y, DataW.trod enc Tryz.prog W base spare held q el r = some y ∧ ∀ z ∈ y.1.weights Tryz.prog el, z ≤ reachBytes := by
  rcases DataW.trod_slice hs h with ⟨h4, _⟩ | ⟨a, len, cap, elems, rest, q, hq, h4, h4x, _, hl, hm, he, hx, _, _⟩
  · exact ⟨none, 0, 0, [], by rw [h4]; rfl, by simp, fun i r hr => by simp at hr⟩
  · unfold maxLen at hm
    have helem : ∀ i (hi : i < elems.length), ∀ y ∈ (elems[i]).1.weights Tryz.prog el, y ≤ reachBytes := fun i hi y hy => by
      apply hwt
      rw [h4x]
      simp only [DataW.weights, hs, List.mem_cons, List.mem_append]
      exact .inr (.inl (mem_all (List.mem_map.2 ⟨_, List.getElem_mem hi, rfl⟩) y hy))
    have each : ∀ i, i < len → ∃ r : List Value, r.length = k ∧ (∃ B o, a = ⟨B, o, none⟩ ∧ ∀ (j : Nat) v, r[j]? = some v → W.cell? ⟨B, o + i * k + j, none⟩ = some v) ∧ ∃ y, DataW.trod enc Tryz.prog W base spare held q el r = some y ∧ ∀ z ∈ y.1.weights Tryz.prog el, z ≤ reachBytes := by
      intro i hi
      have key := hx i hi
      rw [List.getElem?_eq_getElem (by omega)] at key
      obtain ⟨cs', k1, k2⟩ := Option.bind_eq_some_iff.1 key
      rw [hc] at k1
      obtain ⟨hl1, hl2, hcell⟩ := World.cells?_some k1
      have hlen : cs'.length = k := by first | exact hl1 | exact hl2
      have hsp : a.spot = none := by
        have key0 := hx 0 (by omega)
        rw [List.getElem?_eq_getElem (by omega)] at key0
        obtain ⟨cs0, k10, _⟩ := Option.bind_eq_some_iff.1 key0
        rw [hc] at k10
        obtain ⟨g1, g2, hcell0⟩ := World.cells?_some k10
        have hl0 : cs0.length = k := by first | exact g1 | exact g2
        have q0 := hcell0 0 (by omega)
        rw [List.getElem?_eq_getElem (by omega)] at q0
        have := plain_addr q0
        simpa [Addr.add] using this
      obtain ⟨B, o, sp⟩ := a
      cases hsp
      refine ⟨cs', hlen, ⟨B, o, rfl, fun j v hj => ?_⟩, _, k2, helem i (by omega)⟩
      have hjl := (List.getElem?_eq_some_iff.1 hj).1
      have := hcell j (by omega)
      rw [addp, addp] at this
      rw [this]
      simpa using hj
    have inh : Inhabited (List Value) := ⟨[]⟩
    obtain ⟨F, hF⟩ := choose_lt each
    refine ⟨some a, cap, q, (List.range len).map F, by rw [h4]; simp, by simp; omega, fun i r hr => ?_⟩
    have hi : i < len := by have := (List.getElem?_eq_some_iff.1 hr).1; simpa using this
    rw [List.getElem?_map, List.getElem?_range hi] at hr
    cases hr
    obtain ⟨h1, ⟨B, o, h2, h3⟩, h5⟩ := hF i hi
    exact ⟨h1, ⟨B, o, by rw [h2], h3⟩, h5⟩
set_option maxRecDepth 100000 in
theorem open_tm {H : Type} {enc : TypeId × Value → H} {W : World} {base : Nat} {spare : Nat → Bool} {held : Bool} (fuel : Nat) (cs : List Value) (x : DataW H × List MemPlace) (h : DataW.trod enc Tryz.prog W base spare held fuel 120 cs = some x) :
    ∃ t : Tm, cs = [.string t.s, .int .i64 t.d] ∧ -9223372036854775808 ≤ t.d ∧ t.d ≤ 9223372036854775807 := by
  obtain ⟨xs, k, hk, hxy, hlen, hxl, hf⟩ := DataW.trod_struct Tryz.underlying120 h
  rw [cells38] at hlen
  obtain ⟨c0, c1, rfl⟩ := list2 hlen
  obtain ⟨y0, y1, rfl⟩ := list2 (l := xs) hxl
  have g0 := hf 0 _ rfl
  have g1 := hf 1 _ rfl
  clear hf hxl hlen hxy h
  simp only [List.getElem?_cons_zero, List.getElem?_cons_succ] at g0 g1
  obtain ⟨n0, e0, _, w0⟩ := DataW.trod_string Tryz.underlying9 g0
  obtain ⟨n1, e1, _, w1⟩ := DataW.trod_int Tryz.underlying3 g1
  cases e0; cases e1
  exact ⟨⟨n0, n1⟩, rfl, lo64 w1⟩
set_option maxRecDepth 100000 in
theorem open_po {H : Type} {enc : TypeId × Value → H} {W : World} {base : Nat} {spare : Nat → Bool} {held : Bool} (fuel : Nat) (cs : List Value) (x : DataW H × List MemPlace) (h : DataW.trod enc Tryz.prog W base spare held fuel 35 cs = some x) :
    ∃ (f : Int) (c : Nat) (m : Int), cs = [.int .i64 f, .int .u64 (c : Int), .int .i64 m] ∧ c < 18446744073709551616 := by
  obtain ⟨xs, k, hk, hxy, hlen, hxl, hf⟩ := DataW.trod_struct Tryz.underlying35 h
  rw [cells27] at hlen
  obtain ⟨c0, c1, c2, rfl⟩ := list3 hlen
  obtain ⟨y0, y1, y2, rfl⟩ := list3 (l := xs) hxl
  have g0 := hf 0 _ rfl
  have g1 := hf 1 _ rfl
  have g2 := hf 2 _ rfl
  clear hf hxl hlen hxy h
  simp only [List.getElem?_cons_zero, List.getElem?_cons_succ] at g0 g1 g2
  obtain ⟨n0, e0, _, w0⟩ := DataW.trod_int Tryz.underlying3 g0
  obtain ⟨n1, e1, _, w1⟩ := DataW.trod_int Tryz.underlying22 g1
  obtain ⟨n2, e2, _, w2⟩ := DataW.trod_int Tryz.underlying3 g2
  cases e0; cases e1; cases e2
  have g1 := lou64 w1
  refine ⟨n0, n1.toNat, n2, ?_, by omega⟩
  rw [Int.toNat_of_nonneg g1.1]
set_option maxRecDepth 100000 in
theorem open_task {H : Type} {enc : TypeId × Value → H} {W : World} {base : Nat} {spare : Nat → Bool} {held : Bool} (fuel : Nat) (cs : List Value) (x : DataW H × List MemPlace) (h : DataW.trod enc Tryz.prog W base spare held fuel 37 cs = some x) :
    ∃ a b c d e : Int, cs = [.int .i64 a, .int .i64 b, .int .i64 c, .int .i64 d, .int .i64 e] := by
  obtain ⟨xs, k, hk, hxy, hlen, hxl, hf⟩ := DataW.trod_struct Tryz.underlying37 h
  rw [cells29] at hlen
  obtain ⟨c0, c1, c2, c3, c4, rfl⟩ := list5 hlen
  obtain ⟨y0, y1, y2, y3, y4, rfl⟩ := list5 (l := xs) hxl
  have g0 := hf 0 _ rfl
  have g1 := hf 1 _ rfl
  have g2 := hf 2 _ rfl
  have g3 := hf 3 _ rfl
  have g4 := hf 4 _ rfl
  clear hf hxl hlen hxy h
  simp only [List.getElem?_cons_zero, List.getElem?_cons_succ] at g0 g1 g2 g3 g4
  obtain ⟨n0, e0, _, _⟩ := DataW.trod_int Tryz.underlying3 g0
  obtain ⟨n1, e1, _, _⟩ := DataW.trod_int Tryz.underlying3 g1
  obtain ⟨n2, e2, _, _⟩ := DataW.trod_int Tryz.underlying3 g2
  obtain ⟨n3, e3, _, _⟩ := DataW.trod_int Tryz.underlying3 g3
  obtain ⟨n4, e4, _, _⟩ := DataW.trod_int Tryz.underlying3 g4
  cases e0; cases e1; cases e2; cases e3; cases e4
  exact ⟨_, _, _, _, _, rfl⟩
theorem isV5 {W : World} {n : Nat} {v0 v1 v2 v3 v4 : Value} {t : Tv} (h : Is W n (.agg #[v0, v1, v2, v3, v4]) t) {cs : Array Value} {p : Nat} (h0 : cs[p]? = some v0) (h1 : cs[p + 1]? = some v1) (h2 : cs[p + 2]? = some v2) (h3 : cs[p + 3]? = some v3) (h4 : cs[p + 4]? = some v4) : V5 (Is W n) cs p t := by
  obtain ⟨k, x, b, s, a, m, c, rfl, rfl, rfl, rfl, rfl⟩ := h.shape
  exact ⟨k, x, b, s, a, m, c, h0, h1, h2, h3, h4, h⟩
set_option maxRecDepth 100000 in
theorem open_up {H : Type} {enc : TypeId × Value → H} {W : World} {base : Nat} {spare : Nat → Bool} {held : Bool} (fuel : Nat) (cs : List Value) (x : DataW H × List MemPlace) (h : DataW.trod enc Tryz.prog W base spare held fuel 50 cs = some x) (hwt : ∀ y ∈ x.1.weights Tryz.prog 50, y ≤ reachBytes) :
    ∃ (u : Up) (n : Nat), IsU (Is W n) cs.toArray u ∧ SmallW n u.v ∧ SmallW n u.o := by
  obtain ⟨xs, q, hk, hxy, hlen, hxl, hf⟩ := DataW.trod_struct Tryz.underlying50 h
  rw [cells40] at hlen
  obtain ⟨a0, a1, a2, a3, a4, a5, a6, a7, a8, a9, a10, a11, rfl⟩ := list12 hlen
  obtain ⟨y0, y1, y2, y3, rfl⟩ := list4 (l := xs) hxl
  have hw1 : ∀ y ∈ y1.1.weights Tryz.prog 25, y ≤ reachBytes := fun y hy => by
    apply hwt
    rw [hxy]
    simp only [DataW.weights, Tryz.underlying50]
    exact DataW.weights_mem_each (j := 1) rfl rfl y hy
  have hw3 : ∀ y ∈ y3.1.weights Tryz.prog 25, y ≤ reachBytes := fun y hy => by
    apply hwt
    rw [hxy]
    simp only [DataW.weights, Tryz.underlying50]
    exact DataW.weights_mem_each (j := 3) rfl rfl y hy
  clear hwt
  have g0 := hf 0 _ rfl
  have g1 := hf 1 _ rfl
  have g2 := hf 2 _ rfl
  have g3 := hf 3 _ rfl
  clear hf hxl hlen hxy h
  simp only [List.getElem?_cons_zero, List.getElem?_cons_succ] at g0 g1 g2 g3
  obtain ⟨s0, p0, _, _⟩ := DataW.trod_string Tryz.underlying9 g0
  obtain ⟨v0, v1, v2, v3, v4, t1, m1, p1, i1, sm1⟩ := open_valW q _ _ g1 hw1
  obtain ⟨n2, p2, _, _⟩ := DataW.trod_int Tryz.underlying3 g2
  obtain ⟨o0, o1, o2, o3, o4, t3, m3, p3, i3, sm3⟩ := open_valW q _ _ g3 hw3
  cases p0; cases p1; cases p2; cases p3
  refine ⟨⟨s0, t1, n2, t3⟩, m1 + m3, ⟨rfl, rfl, isV5 (i1.up (by omega)) rfl rfl rfl rfl rfl, rfl, isV5 (i3.up (by omega)) rfl rfl rfl rfl rfl⟩, sm1.up (by omega), sm3.up (by omega)⟩
set_option maxRecDepth 100000 in
theorem open_sta {H : Type} {enc : TypeId × Value → H} {W : World} {base : Nat} {spare : Nat → Bool} {held : Bool} (fuel : Nat) (cs : List Value) (x : DataW H × List MemPlace) (h : DataW.trod enc Tryz.prog W base spare held fuel 41 cs = some x) (hwt : ∀ y ∈ x.1.weights Tryz.prog 41, y ≤ reachBytes) :
    ∃ (s : Sta) (n : Nat), Rs W n cs.toArray s ∧ SmS n s ∧ s.pc < 18446744073709551616 := by
  obtain ⟨xs, q, hk, hxy, hlen, hxl, hf⟩ := DataW.trod_struct Tryz.underlying41 h
  rw [cells33] at hlen
  obtain ⟨a0, a1, a2, a3, a4, a5, a6, a7, a8, a9, a10, a11, a12, a13, a14, a15, a16, a17, a18, a19, a20, a21, a22, a23, a24, a25, a26, a27, a28, a29, a30, rfl⟩ := list31 hlen
  obtain ⟨y0, y1, y2, y3, y4, y5, y6, y7, y8, y9, y10, y11, y12, y13, y14, y15, y16, rfl⟩ := list17 (l := xs) hxl
  have hw8 : ∀ y ∈ y8.1.weights Tryz.prog 25, y ≤ reachBytes := fun y hy => by
    apply hwt
    rw [hxy]
    simp only [DataW.weights, Tryz.underlying41]
    exact DataW.weights_mem_each (j := 8) rfl rfl y hy
  have hw13 : ∀ y ∈ y13.1.weights Tryz.prog 38, y ≤ reachBytes := fun y hy => by
    apply hwt
    rw [hxy]
    simp only [DataW.weights, Tryz.underlying41]
    exact DataW.weights_mem_each (j := 13) rfl rfl y hy
  have hw14 : ∀ y ∈ y14.1.weights Tryz.prog 39, y ≤ reachBytes := fun y hy => by
    apply hwt
    rw [hxy]
    simp only [DataW.weights, Tryz.underlying41]
    exact DataW.weights_mem_each (j := 14) rfl rfl y hy
  have hw15 : ∀ y ∈ y15.1.weights Tryz.prog 25, y ≤ reachBytes := fun y hy => by
    apply hwt
    rw [hxy]
    simp only [DataW.weights, Tryz.underlying41]
    exact DataW.weights_mem_each (j := 15) rfl rfl y hy
  clear hwt
  have g0 := hf 0 _ rfl
  have g1 := hf 1 _ rfl
  have g2 := hf 2 _ rfl
  have g3 := hf 3 _ rfl
  have g4 := hf 4 _ rfl
  have g5 := hf 5 _ rfl
  have g6 := hf 6 _ rfl
  have g7 := hf 7 _ rfl
  have g8 := hf 8 _ rfl
  have g9 := hf 9 _ rfl
  have g10 := hf 10 _ rfl
  have g11 := hf 11 _ rfl
  have g12 := hf 12 _ rfl
  have g13 := hf 13 _ rfl
  have g14 := hf 14 _ rfl
  have g15 := hf 15 _ rfl
  have g16 := hf 16 _ rfl
  clear hf hxl hlen hxy h
  simp only [List.getElem?_cons_zero, List.getElem?_cons_succ] at g0 g1 g2 g3 g4 g5 g6 g7 g8 g9 g10 g11 g12 g13 g14 g15 g16
  obtain ⟨n0, p0, _, _⟩ := DataW.trod_int Tryz.underlying3 g0
  obtain ⟨n1, p1, _, _⟩ := DataW.trod_int Tryz.underlying3 g1
  obtain ⟨n2, p2, _, _⟩ := DataW.trod_int Tryz.underlying3 g2
  obtain ⟨n3, p3, _, _⟩ := DataW.trod_int Tryz.underlying3 g3
  obtain ⟨n4, p4, _, _⟩ := DataW.trod_int Tryz.underlying3 g4
  obtain ⟨n5, p5, _, _⟩ := DataW.trod_int Tryz.underlying3 g5
  obtain ⟨n6, p6, _, _⟩ := DataW.trod_int Tryz.underlying3 g6
  obtain ⟨s7, p7, _, _⟩ := DataW.trod_string Tryz.underlying9 g7
  obtain ⟨v0, v1, v2, v3, v4, t8, m8, p8, i8, sm8⟩ := open_valW q _ _ g8 hw8
  obtain ⟨f9, c9, m9, p9, q9⟩ := open_po q _ _ g9
  obtain ⟨k0, k1, k2, k3, k4, p10⟩ := open_task q _ _ g10
  obtain ⟨b11, p11, _⟩ := DataW.trod_bool Tryz.underlying4 g11
  obtain ⟨b12, p12, _⟩ := DataW.trod_bool Tryz.underlying4 g12
  obtain ⟨ta, tc, tq, trows, p13, _, ht⟩ := open_rows Tryz.underlying38 cells38 (by decide) q _ _ g13 hw13
  obtain ⟨ua, uc, uq, urows, p14, _, hu⟩ := open_rows Tryz.underlying39 cells40 (by decide) q _ _ g14 hw14
  obtain ⟨o0, o1, o2, o3, o4, t15, m15, p15, i15, sm15⟩ := open_valW q _ _ g15 hw15
  obtain ⟨s16, p16, _, _⟩ := DataW.trod_string Tryz.underlying9 g16
  cases p0; cases p1; cases p2; cases p3; cases p4; cases p5; cases p6; cases p7; cases p8; cases p9; cases p10; cases p11; cases p12; cases p13; cases p14; cases p15; cases p16
  have inh1 : Inhabited Tm := ⟨⟨⟨#[]⟩, 0⟩⟩
  have inh2 : Inhabited (Up × Nat) := ⟨⟨⟨#[]⟩, t8, 0, t8⟩, 0⟩
  have et : ∀ i, i < trows.length → ∃ t : Tm, trows[i]? = some [.string t.s, .int .i64 t.d] := fun i hi => by
    obtain ⟨_, _, y, hy, _⟩ := ht i _ (List.getElem?_eq_getElem hi)
    obtain ⟨t, e, _⟩ := open_tm _ _ _ hy
    exact ⟨t, by rw [List.getElem?_eq_getElem hi, e]⟩
  have eu : ∀ i, i < urows.length → ∃ u : Up × Nat, ∃ r, urows[i]? = some r ∧ IsU (Is W u.2) r.toArray u.1 ∧ SmallW u.2 u.1.v ∧ SmallW u.2 u.1.o := fun i hi => by
    obtain ⟨_, _, y, hy, hz⟩ := hu i _ (List.getElem?_eq_getElem hi)
    obtain ⟨u, n, e⟩ := open_up _ _ _ hy hz
    exact ⟨(u, n), _, List.getElem?_eq_getElem hi, e⟩
  obtain ⟨FT, hFT⟩ := choose_lt et
  obtain ⟨FU, hFU⟩ := choose_lt eu
  obtain ⟨N, hN⟩ := fuel_lt (n := urows.length) (q := fun i N => (FU i).2 ≤ N) (fun _ _ _ h h' => Nat.le_trans h' h) (fun i _ => ⟨_, Nat.le_refl _⟩)
  have hup : ∀ (i : Nat) u, ((List.range urows.length).map fun i => (FU i).1)[i]? = some u → i < urows.length ∧ u = (FU i).1 := fun i u h => by
    have hi : i < urows.length := by have := (List.getElem?_eq_some_iff.1 h).1; simpa using this
    rw [List.getElem?_map, List.getElem?_range hi] at h
    cases h
    exact ⟨hi, rfl⟩
  refine ⟨⟨n0, n1, n2, n3, n4, n5, n6, s7, t8, f9, c9, m9, k0, k1, k2, k3, k4, b11, b12, (List.range trows.length).map FT, (List.range urows.length).map fun i => (FU i).1, t15, s16⟩, m8 + m15 + N, ?_, ⟨sm8.up (by omega), sm15.up (by omega), fun i u h => ?_⟩, q9⟩
  · refine { size := rfl, c0 := rfl, c1 := rfl, c2 := rfl, c3 := rfl, c4 := rfl, c5 := rfl, c6 := rfl, c7 := rfl, c13 := rfl, c14 := rfl, c15 := rfl, c16 := rfl, c17 := rfl, c18 := rfl, c19 := rfl, c20 := rfl, c21 := rfl, c22 := rfl, c30 := rfl, inp := isV5 (i8.up (by omega)) rfl rfl rfl rfl rfl, res := isV5 (i15.up (by omega)) rfl rfl rfl rfl rfl, tm := ⟨ta, tc, by simp, fun i r hr => ?_⟩, up := ⟨ua, uc, urows.map List.toArray, by simp, by simp, fun i r hr => ?_, fun i r u hr h => ?_⟩ }
    · have hi : i < trows.length := by have := (List.getElem?_eq_some_iff.1 hr).1; simpa using this
      rw [List.getElem?_map, List.getElem?_map, List.getElem?_range hi] at hr
      cases hr
      obtain ⟨_, ⟨B, o, h2, h3⟩, _⟩ := ht i _ (hFT i hi)
      refine ⟨rfl, fun j v hj => ?_, B, o, h2, trivial, fun j v hj => h3 j v (by simpa [Tm.cells] using hj)⟩
      have hj2 : [Value.string (FT i).s, .int .i64 (FT i).d][j]? = some v := by simpa [Tm.cells] using hj
      have hm := List.mem_of_getElem? hj2
      simp only [List.mem_cons, List.not_mem_nil, or_false] at hm
      rcases hm with rfl | rfl <;> rfl
    · have hi : i < urows.length := by have := (List.getElem?_eq_some_iff.1 hr).1; simpa using this
      obtain ⟨r', hr', e⟩ := hFU i hi
      rw [List.getElem?_map, hr'] at hr
      cases hr
      obtain ⟨h1, ⟨B, o, h2, h3⟩, _⟩ := hu i _ hr'
      exact ⟨by simpa using h1, e.1.one, B, o, h2, trivial, fun j v hj => h3 j v (by simpa using hj)⟩
    · obtain ⟨hi, rfl⟩ := hup i u h
      obtain ⟨r', hr', e⟩ := hFU i hi
      rw [List.getElem?_map, hr'] at hr
      cases hr
      exact e.1.map fun v t hv => hv.up (by have := hN i hi; omega)
  · obtain ⟨hi, rfl⟩ := hup i u h
    obtain ⟨r', hr', e⟩ := hFU i hi
    exact ⟨e.2.1.up (by have := hN i hi; omega), e.2.2.up (by have := hN i hi; omega)⟩
end Go.Proofs.YtcdhlklmnnmpoaaGreat
namespace Go.Proofs.YtcdhlklmnnmpoaaGreat
open Go.ChangeAt Go.ChangeShapes Go.Deep Go.RowKit Go.WideShapes
theorem IsC.one {R : Value → Tv → Prop} {cz : Array Value} {d : Cm} (h : IsC R cz d) (j : Nat) (v : Value) (hv : cz[j]? = some v) : v.oneCell' = true := by
  obtain ⟨vk, vx, vb, vs, la, ll, lc, rfl, _⟩ := h.lit
  have hj : j < 8 := (Array.getElem?_eq_some_iff.1 hv).1
  match j, hj, hv with
  | 0, _, hv => simp at hv; subst hv; rfl
  | 1, _, hv => simp at hv; subst hv; rfl
  | 2, _, hv => simp at hv; subst hv; rfl
  | 3, _, hv => simp at hv; subst hv; rfl
  | 4, _, hv => simp at hv; subst hv; rfl
  | 5, _, hv => simp at hv; subst hv; rfl
  | 6, _, hv => simp at hv; subst hv; rfl
  | 7, _, hv => simp at hv; subst hv; rfl
theorem lst3 {α : Type} : ∀ {l : List α}, l.length = 3 → ∃ e0 e1 e2, l = [e0, e1, e2]
  | [e0, e1, e2], _ => ⟨e0, e1, e2, rfl⟩
theorem lst4 {α : Type} : ∀ {l : List α}, l.length = 4 → ∃ e0 e1 e2 e3, l = [e0, e1, e2, e3]
  | [e0, e1, e2, e3], _ => ⟨e0, e1, e2, e3, rfl⟩
theorem lst7 {α : Type} : ∀ {l : List α}, l.length = 7 → ∃ e0 e1 e2 e3 e4 e5 e6, l = [e0, e1, e2, e3, e4, e5, e6]
  | [e0, e1, e2, e3, e4, e5, e6], _ => ⟨e0, e1, e2, e3, e4, e5, e6, rfl⟩
theorem lst8 {α : Type} : ∀ {l : List α}, l.length = 8 → ∃ e0 e1 e2 e3 e4 e5 e6 e7, l = [e0, e1, e2, e3, e4, e5, e6, e7]
  | [e0, e1, e2, e3, e4, e5, e6, e7], _ => ⟨e0, e1, e2, e3, e4, e5, e6, e7, rfl⟩
theorem cellsC27 : Tryz.prog.cellsOf 27 = 8 := by kernel_rfl
set_option maxRecDepth 100000 in
theorem open_cm {H : Type} {enc : TypeId × Value → H} {W : World} {base : Nat} {spare : Nat → Bool} {held : Bool} (fuel : Nat) (cs : List Value) (x : DataW H × List MemPlace) (h : DataW.trod enc Tryz.prog W base spare held fuel 27 cs = some x) (hwt : ∀ y ∈ x.1.weights Tryz.prog 27, y ≤ reachBytes) :
    ∃ (e : Cm) (n : Nat), IsC (Is W n) cs.toArray e ∧ SmallW n e.v := by
  obtain ⟨xs, q, hk, hxy, hlen, hxl, hf⟩ := DataW.trod_struct Tryz.underlying27 h
  rw [cellsC27] at hlen
  obtain ⟨a0, a1, a2, a3, a4, a5, a6, a7, rfl⟩ := lst8 hlen
  obtain ⟨y0, y1, y2, y3, rfl⟩ := lst4 (l := xs) hxl
  have hw5 : ∀ y ∈ y2.1.weights Tryz.prog 25, y ≤ reachBytes := fun y hy => by
    apply hwt
    rw [hxy]
    simp only [DataW.weights, Tryz.underlying27]
    exact DataW.weights_mem_each (j := 2) rfl rfl y hy
  clear hwt
  have g0 := hf 0 _ rfl
  have g1 := hf 1 _ rfl
  have g2 := hf 2 _ rfl
  have g3 := hf 3 _ rfl
  clear hf hxl hlen hxy h
  simp only [List.getElem?_cons_zero, List.getElem?_cons_succ] at g0 g1 g2 g3
  obtain ⟨n0, p0, _, _⟩ := DataW.trod_int Tryz.underlying3 g0
  obtain ⟨n1, p1, _, _⟩ := DataW.trod_string Tryz.underlying9 g1
  obtain ⟨v0, v1, v2, v3, v4, n2, m2, p2, i2, sm2⟩ := open_valW q _ _ g2 hw5
  obtain ⟨n3, p3, _, _⟩ := DataW.trod_int Tryz.underlying3 g3
  cases p0; cases p1; cases p2; cases p3
  exact ⟨⟨n0, n1, n2, n3⟩, m2, ⟨rfl, rfl, rfl, isV5 i2 rfl rfl rfl rfl rfl, rfl⟩, sm2⟩
theorem open_cms {H : Type} {enc : TypeId × Value → H} {W : World} {base : Nat} {spare : Nat → Bool} {held : Bool} (fuel : Nat) (cs : List Value) (x : DataW H × List MemPlace) (h : DataW.trod enc Tryz.prog W base spare held fuel 28 cs = some x) (hwt : ∀ y ∈ x.1.weights Tryz.prog 28, y ≤ reachBytes) :
    ∃ (a : Option Addr) (c : Nat) (l : List Cm) (n : Nat), cs = [.slice a l.length c] ∧ l.length ≤ c ∧ l.length ≤ 9223372036854775807 ∧ LkC (fun b => b < W.heap.size) (IsP (fun b => b < W.heap.size) W (n + 1)) W a l ∧ ∀ (i : Nat) e, l[i]? = some e → SmallW (n + 1) e.v := by
  have hcap : ∀ a n c, cs = [.slice a n c] → n ≤ c := fun a n c e => by
    rcases DataW.trod_slice Tryz.underlying28 h with ⟨h4, _⟩ | ⟨a', len, cap, elems, rest, q, hq, h4, _, _, hl, _⟩
    · rw [e] at h4; cases h4; exact Nat.le_refl _
    · rw [e] at h4; cases h4; exact hl
  obtain ⟨a, cap, q, rows, hcs, hmax, hr⟩ := open_rows Tryz.underlying28 cellsC27 (by decide) fuel _ _ h hwt
  have inh : Inhabited (Cm × Nat) := ⟨⟨0, ⟨#[]⟩, zE, 0⟩, 0⟩
  have each : ∀ i, i < rows.length → ∃ u : Cm × Nat, ∃ r, rows[i]? = some r ∧ IsC (Is W u.2) r.toArray u.1 ∧ SmallW u.2 u.1.v := fun i hi => by
    obtain ⟨_, _, y, hy, hz⟩ := hr i _ (List.getElem?_eq_getElem hi)
    obtain ⟨e, n, g⟩ := open_cm _ _ _ hy hz
    exact ⟨(e, n), _, List.getElem?_eq_getElem hi, g⟩
  obtain ⟨F, hF⟩ := choose_lt each
  obtain ⟨N, hN⟩ := fuel_lt (n := rows.length) (q := fun i N => (F i).2 ≤ N) (fun _ _ _ h h' => Nat.le_trans h' h) (fun i _ => ⟨_, Nat.le_refl _⟩)
  have hl : ((List.range rows.length).map fun i => (F i).1).length = rows.length := by simp
  have hget : ∀ (i : Nat) e, ((List.range rows.length).map fun i => (F i).1)[i]? = some e → i < rows.length ∧ e = (F i).1 := fun i e h => by
    have hi : i < rows.length := by have := (List.getElem?_eq_some_iff.1 h).1; simpa using this
    rw [List.getElem?_map, List.getElem?_range hi] at h
    cases h
    exact ⟨hi, rfl⟩
  refine ⟨a, cap, (List.range rows.length).map fun i => (F i).1, N, by rw [hl]; exact hcs, by rw [hl]; exact hcap _ _ _ hcs, by rw [hl]; exact hmax, ⟨rows.map List.toArray, by simp, fun i r h => ?_, fun i r e h he => ?_⟩, fun i e he => ?_⟩
  · have hi : i < rows.length := by have := (List.getElem?_eq_some_iff.1 h).1; simpa using this
    obtain ⟨r', hr', g⟩ := hF i hi
    rw [List.getElem?_map, hr'] at h
    cases h
    obtain ⟨h1, ⟨B, o, h2, h3⟩, _⟩ := hr i _ hr'
    refine ⟨by simpa using h1, g.1.one, B, o, h2, ?_, fun j v hj => h3 j v (by simpa using hj)⟩
    exact World.block_lt_of_cell? W ⟨B, o + i * 8 + 0, none⟩ (h3 0 _ (List.getElem?_eq_getElem (by omega)))
  · obtain ⟨hi, rfl⟩ := hget i e he
    obtain ⟨r', hr', g⟩ := hF i hi
    rw [List.getElem?_map, hr'] at h
    cases h
    exact g.1.map fun v t hv => Is.lt (hv.up (by have := hN i hi; omega))
  · obtain ⟨hi, rfl⟩ := hget i e he
    obtain ⟨r', hr', g⟩ := hF i hi
    exact g.2.up (by have := hN i hi; omega)
theorem cellsC48 : Tryz.prog.cellsOf 48 = 7 := by kernel_rfl
set_option maxRecDepth 100000 in
theorem open_ak {H : Type} {enc : TypeId × Value → H} {W : World} {base : Nat} {spare : Nat → Bool} {held : Bool} (fuel : Nat) (cs : List Value) (x : DataW H × List MemPlace) (h : DataW.trod enc Tryz.prog W base spare held fuel 48 cs = some x) (hwt : ∀ y ∈ x.1.weights Tryz.prog 48, y ≤ reachBytes) :
    ∃ (e : Ak) (n : Nat), IsA (Is W n) cs.toArray e ∧ SmallW n e.v := by
  obtain ⟨xs, q, hk, hxy, hlen, hxl, hf⟩ := DataW.trod_struct Tryz.underlying48 h
  rw [cellsC48] at hlen
  obtain ⟨a0, a1, a2, a3, a4, a5, a6, rfl⟩ := lst7 hlen
  obtain ⟨y0, y1, y2, rfl⟩ := lst3 (l := xs) hxl
  have hw5 : ∀ y ∈ y2.1.weights Tryz.prog 25, y ≤ reachBytes := fun y hy => by
    apply hwt
    rw [hxy]
    simp only [DataW.weights, Tryz.underlying48]
    exact DataW.weights_mem_each (j := 2) rfl rfl y hy
  clear hwt
  have g0 := hf 0 _ rfl
  have g1 := hf 1 _ rfl
  have g2 := hf 2 _ rfl
  clear hf hxl hlen hxy h
  simp only [List.getElem?_cons_zero, List.getElem?_cons_succ] at g0 g1 g2
  obtain ⟨n0, p0, _, _⟩ := DataW.trod_int Tryz.underlying3 g0
  obtain ⟨n1, p1, _, _⟩ := DataW.trod_string Tryz.underlying9 g1
  obtain ⟨v0, v1, v2, v3, v4, n2, m2, p2, i2, sm2⟩ := open_valW q _ _ g2 hw5
  cases p0; cases p1; cases p2
  exact ⟨⟨n0, n1, n2⟩, m2, ⟨rfl, rfl, rfl, isV5 i2 rfl rfl rfl rfl rfl⟩, sm2⟩
theorem open_aks {H : Type} {enc : TypeId × Value → H} {W : World} {base : Nat} {spare : Nat → Bool} {held : Bool} (fuel : Nat) (cs : List Value) (x : DataW H × List MemPlace) (h : DataW.trod enc Tryz.prog W base spare held fuel 42 cs = some x) (hwt : ∀ y ∈ x.1.weights Tryz.prog 42, y ≤ reachBytes) :
    ∃ (a : Option Addr) (c : Nat) (l : List Ak) (n : Nat), cs = [.slice a l.length c] ∧ l.length ≤ c ∧ l.length ≤ 9223372036854775807 ∧ LkA (fun b => b < W.heap.size) (IsP (fun b => b < W.heap.size) W (n + 1)) W a l ∧ ∀ (i : Nat) e, l[i]? = some e → SmallW (n + 1) e.v := by
  have hcap : ∀ a n c, cs = [.slice a n c] → n ≤ c := fun a n c e => by
    rcases DataW.trod_slice Tryz.underlying42 h with ⟨h4, _⟩ | ⟨a', len, cap, elems, rest, q, hq, h4, _, _, hl, _⟩
    · rw [e] at h4; cases h4; exact Nat.le_refl _
    · rw [e] at h4; cases h4; exact hl
  obtain ⟨a, cap, q, rows, hcs, hmax, hr⟩ := open_rows Tryz.underlying42 cellsC48 (by decide) fuel _ _ h hwt
  have inh : Inhabited (Ak × Nat) := ⟨⟨0, ⟨#[]⟩, zE⟩, 0⟩
  have each : ∀ i, i < rows.length → ∃ u : Ak × Nat, ∃ r, rows[i]? = some r ∧ IsA (Is W u.2) r.toArray u.1 ∧ SmallW u.2 u.1.v := fun i hi => by
    obtain ⟨_, _, y, hy, hz⟩ := hr i _ (List.getElem?_eq_getElem hi)
    obtain ⟨e, n, g⟩ := open_ak _ _ _ hy hz
    exact ⟨(e, n), _, List.getElem?_eq_getElem hi, g⟩
  obtain ⟨F, hF⟩ := choose_lt each
  obtain ⟨N, hN⟩ := fuel_lt (n := rows.length) (q := fun i N => (F i).2 ≤ N) (fun _ _ _ h h' => Nat.le_trans h' h) (fun i _ => ⟨_, Nat.le_refl _⟩)
  have hl : ((List.range rows.length).map fun i => (F i).1).length = rows.length := by simp
  have hget : ∀ (i : Nat) e, ((List.range rows.length).map fun i => (F i).1)[i]? = some e → i < rows.length ∧ e = (F i).1 := fun i e h => by
    have hi : i < rows.length := by have := (List.getElem?_eq_some_iff.1 h).1; simpa using this
    rw [List.getElem?_map, List.getElem?_range hi] at h
    cases h
    exact ⟨hi, rfl⟩
  refine ⟨a, cap, (List.range rows.length).map fun i => (F i).1, N, by rw [hl]; exact hcs, by rw [hl]; exact hcap _ _ _ hcs, by rw [hl]; exact hmax, ⟨rows.map List.toArray, by simp, fun i r h => ?_, fun i r e h he => ?_⟩, fun i e he => ?_⟩
  · have hi : i < rows.length := by have := (List.getElem?_eq_some_iff.1 h).1; simpa using this
    obtain ⟨r', hr', g⟩ := hF i hi
    rw [List.getElem?_map, hr'] at h
    cases h
    obtain ⟨h1, ⟨B, o, h2, h3⟩, _⟩ := hr i _ hr'
    refine ⟨by simpa using h1, g.1.one, B, o, h2, ?_, fun j v hj => h3 j v (by simpa using hj)⟩
    exact World.block_lt_of_cell? W ⟨B, o + i * 7 + 0, none⟩ (h3 0 _ (List.getElem?_eq_getElem (by omega)))
  · obtain ⟨hi, rfl⟩ := hget i e he
    obtain ⟨r', hr', g⟩ := hF i hi
    rw [List.getElem?_map, hr'] at h
    cases h
    exact g.1.map fun v t hv => Is.lt (hv.up (by have := hN i hi; omega))
  · obtain ⟨hi, rfl⟩ := hget i e he
    obtain ⟨r', hr', g⟩ := hF i hi
    exact g.2.up (by have := hN i hi; omega)
theorem ck_exact {P : Prop} {F : Nat} {args : Array Value} {w : World} (h : Calls Tryz.prog F args w (CkP P w)) : (P → Calls Tryz.prog F args w fun e w' => e = .returned (.int .i64 0) ∧ Below w.heap.size w w') ∧ (¬ P → Calls Tryz.prog F args w fun e w' => e = .returned (.int .i64 1) ∧ Below w.heap.size w w') :=
  ⟨fun hp => h.mono fun e w' ⟨r, a, b, _, d⟩ => ⟨by rw [a, b hp], d⟩, fun hp => h.mono fun e w' ⟨r, a, _, c, d⟩ => ⟨by rw [a, c hp], d⟩⟩
theorem checks_walk (n0 : Nat) (c : Cm) (cz : Array Value) (a : Option Addr) (cap : Nat) (l : List Cm) (n1 : Nat) (w : World) (h : IsC (Is w n0) cz c) (hl : l.length ≤ 9223372036854775807) (hL : LkC (fun b => b < w.heap.size) (IsP (fun b => b < w.heap.size) w (n1 + 1)) w a l) : Calls Tryz.prog 3 #[.agg cz, .slice a l.length cap] w fun e w' => e = .returned (.bool true) ∧ Below w.heap.size w w' := by
  obtain ⟨vk, vx, vb, vs, la, ll, lc, rfl, hv⟩ := h.lit
  cases n0 with
  | zero => exact hv.elim
  | succ n0 =>
    obtain ⟨bc, h8, h9⟩ : ∃ bc, (∀ W, Below w.heap.size w W → Calls Tryz.prog 8 #[.slice a l.length cap] W fun e w' => e = .returned (.bool bc) ∧ Below W.heap.size W w') ∧ (∀ W, Below w.heap.size w W → Calls Tryz.prog 9 #[.slice a l.length cap] W fun e w' => e = .returned (.bool bc) ∧ Below W.heap.size W w') := by
      rcases Nat.eq_zero_or_pos l.length with e | e
      · rw [e]
        exact ⟨false, fun W _ => closes0_calls a cap W, fun W _ => rcloses0_calls a cap W⟩
      · obtain ⟨m, hm⟩ : ∃ m, l.length = m + 1 := ⟨l.length - 1, by omega⟩
        obtain ⟨rows, q1, q2, q3⟩ := hL
        obtain ⟨r, hr⟩ : ∃ r, rows[m]? = some r := ⟨_, List.getElem?_eq_getElem (by omega)⟩
        obtain ⟨x, hx⟩ : ∃ x, l[m]? = some x := ⟨_, List.getElem?_eq_getElem (by omega)⟩
        obtain ⟨_, _, B, o, rfl, _, hs⟩ := q2 m r hr
        obtain ⟨uk, ux, ub, us, ua, ul, uc, rfl, _⟩ := (q3 m r x hr hx).lit
        rw [hm]
        exact ⟨clo x.k, fun W hb => closes1_calls x.k x.s uk ux ub us ua ul uc x.d B o m cap (by omega) W (hs.below hb 0 _ rfl) (hs.below hb 1 _ rfl) (hs.below hb 2 _ rfl) (hs.below hb 3 _ rfl) (hs.below hb 4 _ rfl) (hs.below hb 5 _ rfl) (hs.below hb 6 _ rfl) (hs.below hb 7 _ rfl), fun W hb => rcloses1_calls x.k x.s uk ux ub us ua ul uc x.d B o m cap (by omega) W (hs.below hb 0 _ rfl) (hs.below hb 1 _ rfl) (hs.below hb 2 _ rfl) (hs.below hb 3 _ rfl) (hs.below hb 4 _ rfl) (hs.below hb 5 _ rfl) (hs.below hb 6 _ rfl) (hs.below hb 7 _ rfl)⟩
    have k6 := fun W (hb : Below w.heap.size w W) => ck_exact (ccheck_calls n0 c.v c.k c.s vk vx vb vs la ll lc c.d W (hv.below hb))
    have k7 := fun W (hb : Below w.heap.size w W) => ck_exact (rccheck_calls n0 c.v c.k c.s vk vx vb vs la ll lc c.d W (hv.below hb))
    by_cases hM : MayC (n0 + 1) ⟨c.k, c.s, c.v, c.d⟩
    · exact checks_gen c.k c.s vk vx vb vs la ll lc c.d 0 bc _ w (fun W hb => (k6 W hb).1 hM) (fun W hb => (k7 W hb).1 hM) h8 h9
    · exact checks_gen c.k c.s vk vx vb vs la ll lc c.d 1 bc _ w (fun W hb => (k6 W hb).2 hM) (fun W hb => (k7 W hb).2 hM) h8 h9
end Go.Proofs.YtcdhlklmnnmpoaaGreat
namespace Go.Proofs.YtcdhlklmnnmpoaaGreat.commandChecks
open Go.ChangeShapes Go.WideShapes Go.ChangeAt Go.RowKit

theorem own : ownKnob Tryz.prog.godebug = none := by kernel_rfl
theorem laidOut : laidOutB Tryz.prog = true := by kernel_rfl

theorem aggN {v : Value} {k : Nat} (h : v.cells.size = k + 2) : v = .agg v.cells := by
  cases v with
  | agg cs => rfl
  | _ => simp [Value.cells] at h
theorem oneS {v : Value} {a : Option Addr} {n c : Nat} (h : v.cells.toList = [.slice a n c]) (hv : ∃ a' n' c', v = .slice a' n' c') : v = .slice a n c := by
  obtain ⟨a', n', c', rfl⟩ := hv
  simp [Value.cells] at h
  obtain ⟨rfl, rfl, rfl⟩ := h
  rfl

set_option maxRecDepth 100000 in
theorem lifted (os : Go.Os) (started : os.Started) (H : Type) (enc : TypeId × Value → H) :
    ReturnsInHanded {} Tryz.checked os 3 .any (Rows.commandChecksSpec.pre6 enc Tryz.prog Tryz.f3 Rows.commandChecksRow.domain false) (Rows.commandChecksSpec.post enc Tryz.prog Tryz.f3 false true false false) := by
  refine returnsInHanded_of_change_sized (C := Tryz.checked) own started (by kernel_rfl) Tryz.func3
    (ChangeSpec.witness6 (enc := enc) (C := Tryz.checked) false ⟨#[], #[.agg #[.int .i64 0, .string ⟨#[]⟩, .int .i64 0, .int .i64 0, .int .u64 0, .string ⟨#[]⟩, .slice none 0 0, .int .i64 0], .slice none 0 0], []⟩ 8 (by kernel_rfl) (by kernel_rfl) (by kernel_rfl) (by kernel_rfl)) ?_
  intro W base args ds gs before hval0 hW hcnd hsz0 _
  have hsz : (DataW.weightsEach Tryz.prog (Tryz.f3.params.toList ++ Rows.commandChecksSpec.plain.varTypes Tryz.prog) (ds ++ gs)).all (· ≤ reachBytes) = true := hsz0
  have hval : ∀ (j : Nat) t v, Tryz.f3.params[j]? = some t → args[j]? = some v → Value.okWide Tryz.prog W .any base t v := hval0
  have hW' := hW
  obtain ⟨p, q, hA0, hV, rfl, hfz, hnd⟩ := hW
  have hA : DataW.TrodAll enc Tryz.prog W 0 (fun _ => true) true Tryz.f3.params.toList args.toList ds p := hA0
  rw [Tryz.params3] at hA hval hsz
  obtain ⟨v0, vs0, d0, ds0, p0, q0, hargs, rfl, rfl, h0, r0⟩ := trodAll_cons hA
  obtain ⟨v1, vs1, d1, ds1, p1, q1, rfl, rfl, rfl, h1, r1⟩ := trodAll_cons r0
  obtain ⟨rfl, rfl, rfl⟩ := trodAll_nil r1
  obtain rfl : args = #[v0, v1] := by cases args; simp_all
  obtain ⟨rfl, rfl⟩ := trodVars_none hV
  have k0 := h0
  have lt0 : ∀ x ∈ p0, x.block < W.heap.size := by obtain ⟨m, hm⟩ := k0; exact DataW.trod_lt m _ _ _ hm
  obtain ⟨m0, hm0⟩ := h0
  obtain ⟨s0, n0, H0, M0⟩ := open_cm m0 _ _ hm0 (fun y hy => of_decide_eq_true (List.all_eq_true.1 hsz y (DataW.weights_mem_each (j := 0) rfl rfl y hy)))
  rw [Array.toArray_toList] at H0
  have ag0 := aggN (k := 6) H0.size
  have k1 := h1
  have lt1 : ∀ x ∈ p1, x.block < W.heap.size := by obtain ⟨m, hm⟩ := k1; exact DataW.trod_lt m _ _ _ hm
  obtain ⟨m1, hm1⟩ := h1
  obtain ⟨a1, c1, l1, n1, ce1, hc1, hx1, H1, M1⟩ := open_cms m1 _ _ hm1 (fun y hy => of_decide_eq_true (List.all_eq_true.1 hsz y (DataW.weights_mem_each (j := 1) rfl rfl y hy)))
  obtain rfl := oneS ce1 (okWide_slice Tryz.underlying28 (hval 1 28 v1 rfl rfl))
  clear hA0 hval0
  have key : Calls Tryz.prog 3 #[.agg v0.cells, .slice a1 l1.length c1] W fun e w' => e = .returned (.bool true) ∧ Below W.heap.size W w' := checks_walk n0 s0 v0.cells a1 c1 l1 n1 W H0 hx1 H1
  have ea : #[.agg v0.cells, .slice a1 l1.length c1] = #[v0, .slice a1 l1.length c1] := by rw [← ag0]
  rw [ea] at key
  refine key.mono fun e W' ⟨he, bel⟩ => ?_
  subst he
  exact ⟨_, rfl, _, _, _, [], _, [], hW', trodAll_mk1 (shut_bool Tryz.underlying4 _), (trodAll_cons_mk (Below.trod laidOut (by kernel_rfl) (of_decide_eq_true (by kernel_rfl)) k0 bel lt0) (trodAll_cons_mk (Below.trod laidOut (by kernel_rfl) (of_decide_eq_true (by kernel_rfl)) k1 bel lt1) trodAll_mk0)), rfl, bel.frame _, fun h => by cases h⟩

theorem over : Rows.commandChecksRow.holds Tryz.pinned (OpenSpec.ofChange Rows.commandChecksSpec) :=
  OpenClaim.holds_of_wide 3 Tryz.f3 rfl rfl rfl rfl rfl rfl rfl ⟨rfl, rfl, rfl, rfl, rfl⟩ rfl rfl rfl rfl rfl (by kernel_rfl) Tryz.func3 (by kernel_rfl)
    (of_decide_eq_true (by kernel_rfl)) (by unfold Func.isWrapper; first | (rw [if_pos (by decide +kernel)]; kernel_rfl) | (rw [if_neg (by decide +kernel)]; exact ⟨rfl, rfl⟩))
    (fun os started H enc _ => lifted os started H enc)

theorem proved : Rows.CommandChecksSaid := over
end Go.Proofs.YtcdhlklmnnmpoaaGreat.commandChecks

namespace Go.Proofs.YtcdhlklmnnmpoaaGreat
theorem commandChecks_holds : Rows.CommandChecksSaid := commandChecks.proved
end Go.Proofs.YtcdhlklmnnmpoaaGreat
