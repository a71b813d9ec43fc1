/- The Go function CommandApart returns true for every input, and its arguments read afterwards as they did before. -/
import Derived.Test.YtcdhlklmnnmpoaaGreatCX
import Derived.Test.YtcdhlklmnnmpoaaGreatRX
import Derived.Test.YtcdhlklmnnmpoaaGreatCY
import Derived.Test.YtcdhlklmnnmpoaaGreatSQ
import Derived.Test.YtcdhlklmnnmpoaaGreatRows
import Derived.WalkKit
import Derived.ProofKit
import Derived.OpenShut
import Derived.ChangeOld
import Derived.Below
import Derived.SizedLaws
namespace Go.Proofs.YtcdhlklmnnmpoaaGreat
open Go.ChangeShapes Go.WideShapes Go.ChangeAt Go.RowKit
theorem zE_mayN (n : Nat) : May (n + 1) zE := by
  refine ⟨?_, by simp [bytesT, zE]; decide +kernel⟩
  refine ⟨?_, by decide, fun i t h => by simp at h⟩
  unfold Fits FitsB
  exact ⟨by decide, by decide, .inr rfl, .inr rfl, by decide +kernel, .inr (by decide +kernel), by decide, .inr rfl, by decide⟩
/-- Between two of Check's statements: what was found, and where the command lies. -/
def Jn (P : Prop) (w : World) (c0 c1 c2 c3 c4 c5 c6 c7 : Value) (x : Value) (wx : World) : Prop := (∃ b : Bool, x = .bool b ∧ (b = true ↔ P)) ∧ Below w.heap.size w wx ∧ At8 wx w.heap.size c0 c1 c2 c3 c4 c5 c6 c7
def Jc (P : Prop) (w : World) (c0 c1 c2 c3 c4 c5 c6 c7 : Value) (x : Value) (wx : World) : Prop := (∃ b : Bool, x = .bool b ∧ (b = false ↔ P)) ∧ Below w.heap.size w wx ∧ At8 wx w.heap.size c0 c1 c2 c3 c4 c5 c6 c7
theorem mayC_iff (n : Nat) (k : Int) (s : ByteArray) (tv : Tv) (d : Int) : MayC (n + 1) ⟨k, s, tv, d⟩ ↔ ((((1 ≤ k ∧ k ≤ 9) ∧ (0 ≤ d ∧ d ≤ 1073741824) ∧ May (n + 1) tv) ∧ (k = 1 ∨ d = 0)) ∧ (cVl k = true ∨ tv = zE)) ∧ (if k = 3 ∨ k = 7 ∨ k = 9 then s.toList.isEmpty = true else if k = 8 then decide (s.size ≤ 200) = true else nmB s = true) := by
  have hz := zE_mayN n
  unfold MayC
  constructor
  · rintro ⟨h1, h2, h3, h4⟩
    simp only [wi, Bool.and_eq_true, decide_eq_true_eq] at h1
    have hd : (0 ≤ d ∧ d ≤ 1073741824) ∧ (k = 1 ∨ d = 0) := by
      by_cases e : k = 1
      · subst e; simp [cdf, wi] at h4; exact ⟨h4, .inl rfl⟩
      · simp [cdf, e] at h4; subst h4; exact ⟨⟨by decide, by decide⟩, .inr rfl⟩
    have hv : May (n + 1) tv ∧ (cVl k = true ∨ tv = zE) := by
      rcases h3 with ⟨a, b⟩ | ⟨_, b⟩
      · exact ⟨b, .inl a⟩
      · subst b; exact ⟨hz, .inr rfl⟩
    refine ⟨⟨⟨⟨h1, hd.1, hv.1⟩, hd.2⟩, hv.2⟩, ?_⟩
    obtain ⟨a, b⟩ := h1
    have : k = 1 ∨ k = 2 ∨ k = 3 ∨ k = 4 ∨ k = 5 ∨ k = 6 ∨ k = 7 ∨ k = 8 ∨ k = 9 := by have a2 : 1 ≤ k := a; have b2 : k ≤ 9 := b; omega
    rcases this with rfl | rfl | rfl | rfl | rfl | rfl | rfl | rfl | rfl <;> simpa [cnf, cNm] using h2
  · rintro ⟨⟨⟨⟨h1, hd, hv⟩, hd2⟩, hv2⟩, h2⟩
    obtain ⟨a, b⟩ := h1
    refine ⟨by simp [wi, a, b], ?_, ?_, ?_⟩
    · have : k = 1 ∨ k = 2 ∨ k = 3 ∨ k = 4 ∨ k = 5 ∨ k = 6 ∨ k = 7 ∨ k = 8 ∨ k = 9 := by omega
      rcases this with rfl | rfl | rfl | rfl | rfl | rfl | rfl | rfl | rfl <;> simpa [cnf, cNm] using h2
    · unfold cvf
      cases hc : cVl k
      · refine .inr ⟨rfl, ?_⟩
        rcases hv2 with e | e
        · rw [hc] at e; cases e
        · exact e
      · exact .inl ⟨rfl, hv⟩
    · rcases hd2 with rfl | rfl
      · simp [cdf, wi, hd.1, hd.2]
      · by_cases e : k = 1 <;> simp [cdf, wi, e]
set_option maxHeartbeats 4000000 in
set_option maxRecDepth 100000 in
theorem rccheck_calls (n : Nat) (tv : Tv) (k : Int) (s : ByteArray) (vk vx vb : Int) (vs : ByteArray) (la : Option Addr) (ll lc : Nat) (d : Int) (w : World) (h : Is w (n + 1) (.agg #[.int .i64 vk, .int .i64 vx, .int .u64 vb, .string vs, .slice la ll lc]) tv) : Calls Tryz.prog 7 #[.agg #[.int .i64 k, .string s, .int .i64 vk, .int .i64 vx, .int .u64 vb, .string vs, .slice la ll lc, .int .i64 d]] w (CkP (MayC (n + 1) ⟨k, s, tv, d⟩) w) := by
  have HX0 : Hid (At8 (w.alloc (.cells #[.int .i64 k, .string s, .int .i64 vk, .int .i64 vx, .int .u64 vb, .string vs, .slice la ll lc, .int .i64 d] 27)) w.heap.size (.int .i64 k) (.string s) (.int .i64 vk) (.int .i64 vx) (.int .u64 vb) (.string vs) (.slice la ll lc) (.int .i64 d)) := At8.box w (.int .i64 k) (.string s) (.int .i64 vk) (.int .i64 vx) (.int .u64 vb) (.string vs) (.slice la ll lc) (.int .i64 d)
  have RC : Hid (∀ W, Below w.heap.size w W → _) := fun W hB => rcheck_calls (n + 1) (.agg #[.int .i64 vk, .int .i64 vx, .int .u64 vb, .string vs, .slice la ll lc]) tv W (h.below hB)
  have SC : Hid (∀ W, Below w.heap.size w W → _) := fun W hB => rsame_calls (n + 1) (.agg #[.int .i64 vk, .int .i64 vx, .int .u64 vb, .string vs, .slice la ll lc]) tv (.agg #[.int .i64 0, .int .i64 0, .int .u64 0, .string ⟨#[]⟩, .slice none 0 0]) zE W (h.below hB) (zE_is W n)
  have TC : Hid (∀ W, _) := fun W => rtext_calls s W
  have NC : Hid (∀ W, _) := fun W => rname_calls s W
  have HM : Hid _ := mayC_iff n k s tv d
  have HV : Hid (cVl k = (k == 3 || k == 5 || k == 6 || k == 7)) := rfl
  have HF : Hid (∀ r w', (MayC (n + 1) ⟨k, s, tv, d⟩ → r = 0) → (¬ MayC (n + 1) ⟨k, s, tv, d⟩ → r = 1) → Below w.heap.size w w' → CkP (MayC (n + 1) ⟨k, s, tv, d⟩) w (.returned (.int .i64 r)) w') := fun r w' h1 h2 h3 => ⟨r, rfl, h1, h2, h3⟩
  generalize CkP (MayC (n + 1) ⟨k, s, tv, d⟩) w = Q at HF ⊢
  generalize MayC (n + 1) ⟨k, s, tv, d⟩ = ME at HF HM
  generalize May (n + 1) tv = MY at HM RC
  generalize cVl k = qV at HM HV
  generalize nmB s = bn at HM NC
  generalize decide (s.size ≤ 200) = bt at HM TC
  clear h
  go_enter Tryz.func7, Tryz.ntmps7
  go_upto_region 2 with fail
  go_cut [4] (fun x wx => Jn ((1 ≤ k ∧ k ≤ 9) ∧ (0 ≤ d ∧ d ≤ 1073741824) ∧ MY) w (.int .i64 k) (.string s) (.int .i64 vk) (.int .i64 vx) (.int .u64 vb) (.string vs) (.slice la ll lc) (.int .i64 d) x wx)
  case first =>
    have HB : Hid (Below w.heap.size w (w.alloc (.cells #[.int .i64 k, .string s, .int .i64 vk, .int .i64 vx, .int .u64 vb, .string vs, .slice la ll lc, .int .i64 d] 27))) := bel1 _ _
    have HX := HX0
    obtain ⟨x0, x1, x2, x3, x4, x5, x6, x7⟩ := HX.out
    by_cases k1 : 1 ≤ k
    rotate_left
    · go_wp2_with fail
      go_meet
      exact ⟨⟨false, rfl, ⟨nofun, fun h => by have := h.1.1; omega⟩⟩, HB.out, HX.out⟩
    by_cases k2 : k ≤ 9
    rotate_left
    · go_wp2_with fail
      go_meet
      exact ⟨⟨false, rfl, ⟨nofun, fun h => by have := h.1.2; omega⟩⟩, HB.out, HX.out⟩
    by_cases t1 : 0 ≤ d
    rotate_left
    · go_wp2_with fail
      go_meet
      exact ⟨⟨false, rfl, ⟨nofun, fun h => by have := h.2.1.1; omega⟩⟩, HB.out, HX.out⟩
    by_cases t2 : d ≤ 1073741824
    rotate_left
    · go_wp2_with fail
      go_meet
      exact ⟨⟨false, rfl, ⟨nofun, fun h => by have := h.2.1.2; omega⟩⟩, HB.out, HX.out⟩
    go_wp2_with fail
    refine Calls.mono (RC.out _ ?_) ?_
    · exact HB.out
    rintro e w1 ⟨⟨r, rfl, r1, r2⟩, hb⟩
    clear x0 x1 x2 x3 x4 x5 x6 x7
    replace HB : Hid (Below w.heap.size w w1) := bel2 HB.out hb
    replace HX : Hid (At8 w1 w.heap.size (.int .i64 k) (.string s) (.int .i64 vk) (.int .i64 vx) (.int .u64 vb) (.string vs) (.slice la ll lc) (.int .i64 d)) := HX.out.below hb
    clear hb
    have HR : Hid ((MY → r = 0) ∧ (¬ MY → r = 1)) := ⟨r1, r2⟩
    clear r1 r2
    go_wp2_with fail
    go_meet
    refine ⟨⟨_, rfl, ?_⟩, HB.out, HX.out⟩
    by_cases hm : MY
    · have := HR.out.1 hm; simp [hm, this, k1, k2, t1, t2]
    · have := HR.out.2 hm; simp [hm, this]
  case rest =>
  obtain ⟨⟨b, rfl, hbP⟩, HB, HX⟩ := hcut
  replace HB : Hid (Below w.heap.size w wc) := HB
  replace HX : Hid (At8 wc w.heap.size (.int .i64 k) (.string s) (.int .i64 vk) (.int .i64 vx) (.int .u64 vb) (.string vs) (.slice la ll lc) (.int .i64 d)) := HX
  generalize hP1 : ((1 ≤ k ∧ k ≤ 9) ∧ (0 ≤ d ∧ d ≤ 1073741824) ∧ MY) = P1 at hbP HM
  have HP : Hid (b = true ↔ P1) := hbP
  clear hbP hP1
  go_upto_region 3 with fail
  go_cut [35] (fun x wx => Jc (k = 1 ∨ d = 0) w (.int .i64 k) (.string s) (.int .i64 vk) (.int .i64 vx) (.int .u64 vb) (.string vs) (.slice la ll lc) (.int .i64 d) x wx)
  case first =>
    by_cases e1 : k = 1
    · subst e1
      obtain ⟨x0, x1, x2, x3, x4, x5, x6, x7⟩ := HX.out
      go_wp2_with fail
      go_meet
      exact ⟨⟨false, rfl, by simp⟩, HB.out, HX.out⟩
    have d1 : (k == 1) = false := by simpa using e1
    have n1 : (k != 1) = true := by simpa using e1
    by_cases z : d = 0
    · subst z
      obtain ⟨x0, x1, x2, x3, x4, x5, x6, x7⟩ := HX.out
      clear e1
      go_wp2_with fail
      go_meet
      exact ⟨⟨false, rfl, by simp⟩, HB.out, HX.out⟩
    have HE : Hid (¬ (k = 1 ∨ d = 0)) := fun h => h.elim e1 z
    have dz : (d == 0) = false := by simpa using z
    have nz : (d != 0) = true := by simpa using z
    clear e1 z
    obtain ⟨x0, x1, x2, x3, x4, x5, x6, x7⟩ := HX.out
    go_wp2_with fail
    go_meet
    exact ⟨⟨true, rfl, ⟨nofun, fun h => absurd h HE.out⟩⟩, HB.out, HX.out⟩
  case rest =>
  obtain ⟨⟨q, rfl, hbP⟩, HB, HX⟩ := hcut
  replace HB : Hid (Below w.heap.size w wc) := HB
  replace HX : Hid (At8 wc w.heap.size (.int .i64 k) (.string s) (.int .i64 vk) (.int .i64 vx) (.int .u64 vb) (.string vs) (.slice la ll lc) (.int .i64 d)) := HX
  have HC : Hid (q = false ↔ k = 1 ∨ d = 0) := hbP
  clear hbP
  go_upto_if 35 with fail
  go_cut [4] (fun x wx => Jn (P1 ∧ (k = 1 ∨ d = 0)) w (.int .i64 k) (.string s) (.int .i64 vk) (.int .i64 vx) (.int .u64 vb) (.string vs) (.slice la ll lc) (.int .i64 d) x wx)
  case first =>
    cases q with
    | false =>
      have HT := HC.out.1 rfl
      have HT2 : Hid _ := HT
      clear HT
      go_wp2_with fail
      go_meet
      exact ⟨⟨b, rfl, by rw [HP.out]; exact ⟨fun h => ⟨h, HT2.out⟩, fun h => h.1⟩⟩, HB.out, HX.out⟩
    | true =>
      go_wp2_with fail
      go_meet
      exact ⟨⟨false, rfl, nofun, fun h => by have := HC.out.2 h.2; cases this⟩, HB.out, HX.out⟩
  case rest =>
  obtain ⟨⟨b, rfl, hbP⟩, HB, HX⟩ := hcut
  replace HB : Hid (Below w.heap.size w wc) := HB
  replace HX : Hid (At8 wc w.heap.size (.int .i64 k) (.string s) (.int .i64 vk) (.int .i64 vx) (.int .u64 vb) (.string vs) (.slice la ll lc) (.int .i64 d)) := HX
  generalize hP1 : (P1 ∧ (k = 1 ∨ d = 0)) = P2 at hbP HM
  have HP : Hid (b = true ↔ P2) := hbP
  clear hbP hP1
  clear HC
  go_upto_region 5 with fail
  go_cut [56] (fun x wx => Jc (qV = true ∨ tv = zE) w (.int .i64 k) (.string s) (.int .i64 vk) (.int .i64 vx) (.int .u64 vb) (.string vs) (.slice la ll lc) (.int .i64 d) x wx)
  case first =>
    by_cases e3 : k = 3
    · subst e3
      obtain ⟨x0, x1, x2, x3, x4, x5, x6, x7⟩ := HX.out
      have HQ : Hid (qV = true) := HV.out
      clear HV
      go_wp2_with fail
      go_meet
      exact ⟨⟨false, rfl, by simp [HQ.out]⟩, HB.out, HX.out⟩
    by_cases e5 : k = 5
    · subst e5
      obtain ⟨x0, x1, x2, x3, x4, x5, x6, x7⟩ := HX.out
      have HQ : Hid (qV = true) := HV.out
      clear HV
      go_wp2_with fail
      go_meet
      exact ⟨⟨false, rfl, by simp [HQ.out]⟩, HB.out, HX.out⟩
    by_cases e6 : k = 6
    · subst e6
      obtain ⟨x0, x1, x2, x3, x4, x5, x6, x7⟩ := HX.out
      have HQ : Hid (qV = true) := HV.out
      clear HV
      go_wp2_with fail
      go_meet
      exact ⟨⟨false, rfl, by simp [HQ.out]⟩, HB.out, HX.out⟩
    by_cases e7 : k = 7
    · subst e7
      obtain ⟨x0, x1, x2, x3, x4, x5, x6, x7⟩ := HX.out
      have HQ : Hid (qV = true) := HV.out
      clear HV
      go_wp2_with fail
      go_meet
      exact ⟨⟨false, rfl, by simp [HQ.out]⟩, HB.out, HX.out⟩
    have d3 : (k == 3) = false := by simpa using e3
    have n3 : (k != 3) = true := by simpa using e3
    have d5 : (k == 5) = false := by simpa using e5
    have n5 : (k != 5) = true := by simpa using e5
    have d6 : (k == 6) = false := by simpa using e6
    have n6 : (k != 6) = true := by simpa using e6
    have d7 : (k == 7) = false := by simpa using e7
    have n7 : (k != 7) = true := by simpa using e7
    have HQ : Hid (qV = false) := by show qV = false; rw [HV.out, d3, d5, d6, d7]; rfl
    clear HV e3 e5 e6 e7
    obtain ⟨x0, x1, x2, x3, x4, x5, x6, x7⟩ := HX.out
    go_wp2_with fail
    refine Calls.mono (SC.out _ ?_) ?_
    · exact HB.out
    rintro e w1 ⟨⟨r, rfl, r1⟩, hb⟩
    clear x0 x1 x2 x3 x4 x5 x6 x7
    replace HB : Hid (Below w.heap.size w w1) := bel2 HB.out hb
    replace HX : Hid (At8 w1 w.heap.size (.int .i64 k) (.string s) (.int .i64 vk) (.int .i64 vx) (.int .u64 vb) (.string vs) (.slice la ll lc) (.int .i64 d)) := HX.out.below hb
    clear hb
    have HR : Hid (r = true ↔ tv = zE) := r1
    clear r1
    cases r with
    | true =>
      have HT : Hid (tv = zE) := HR.out.1 rfl
      go_wp2_with fail
      go_meet
      exact ⟨⟨false, rfl, by simp [HT.out]⟩, HB.out, HX.out⟩
    | false =>
      have HT : Hid (¬ tv = zE) := fun h => by have := HR.out.2 h; cases this
      go_wp2_with fail
      go_meet
      exact ⟨⟨true, rfl, by simp [HT.out, HQ.out]⟩, HB.out, HX.out⟩
  case rest =>
  obtain ⟨⟨q, rfl, hbP⟩, HB, HX⟩ := hcut
  replace HB : Hid (Below w.heap.size w wc) := HB
  replace HX : Hid (At8 wc w.heap.size (.int .i64 k) (.string s) (.int .i64 vk) (.int .i64 vx) (.int .u64 vb) (.string vs) (.slice la ll lc) (.int .i64 d)) := HX
  have HC : Hid (q = false ↔ qV = true ∨ tv = zE) := hbP
  clear hbP
  go_upto_if 56 with fail
  go_cut [4] (fun x wx => Jn (P2 ∧ (qV = true ∨ tv = zE)) w (.int .i64 k) (.string s) (.int .i64 vk) (.int .i64 vx) (.int .u64 vb) (.string vs) (.slice la ll lc) (.int .i64 d) x wx)
  case first =>
    cases q with
    | false =>
      have HT := HC.out.1 rfl
      have HT2 : Hid _ := HT
      clear HT
      go_wp2_with fail
      go_meet
      exact ⟨⟨b, rfl, by rw [HP.out]; exact ⟨fun h => ⟨h, HT2.out⟩, fun h => h.1⟩⟩, HB.out, HX.out⟩
    | true =>
      go_wp2_with fail
      go_meet
      exact ⟨⟨false, rfl, nofun, fun h => by have := HC.out.2 h.2; cases this⟩, HB.out, HX.out⟩
  case rest =>
  obtain ⟨⟨b, rfl, hbP⟩, HB, HX⟩ := hcut
  replace HB : Hid (Below w.heap.size w wc) := HB
  replace HX : Hid (At8 wc w.heap.size (.int .i64 k) (.string s) (.int .i64 vk) (.int .i64 vx) (.int .u64 vb) (.string vs) (.slice la ll lc) (.int .i64 d)) := HX
  generalize hP1 : (P2 ∧ (qV = true ∨ tv = zE)) = P3 at hbP HM
  have HP : Hid (b = true ↔ P3) := hbP
  clear hbP hP1
  clear HC
  by_cases e3 : k = 3
  · subst e3
    obtain ⟨x0, x1, x2, x3, x4, x5, x6, x7⟩ := HX.out
    cases b with
    | false =>
      have hP1 : ¬ P3 := fun h => by have := HP.out.2 h; cases this
      clear HP
      go_wp2_with fail
      exact HF.out 1 _ (fun hm => absurd (HM.out.1 hm).1 hP1) (fun _ => rfl) HB.out
    | true =>
      have hP1 : Hid P3 := HP.out.1 rfl
      clear HP
      by_cases es : s.toList = []
      · have HE : Hid (s.toList = []) := es
        have q1 : s = ⟨#[]⟩ := tl_inj (es.trans (by decide +kernel))
        subst q1
        go_wp2_with fail
        exact HF.out 0 _ (fun _ => rfl) (fun h => absurd (HM.out.2 ⟨hP1.out, by first | (simp; done) | (simp; exact HE.out)⟩) h) HB.out
      · have HE : Hid (¬ s.toList = []) := es
        have q1 : (s.toList == []) = false := by simpa using es
        have q2 : (s.toList == ByteArray.toList ⟨#[]⟩) = false := by rw [show ByteArray.toList ⟨#[]⟩ = [] from by decide +kernel]; exact q1
        clear es
        go_wp2_with fail
        exact HF.out 1 _ (fun hm => absurd (HM.out.1 hm).2 (by simp; exact HE.out)) (fun _ => rfl) HB.out
  by_cases e7 : k = 7
  · subst e7
    obtain ⟨x0, x1, x2, x3, x4, x5, x6, x7⟩ := HX.out
    cases b with
    | false =>
      have hP1 : ¬ P3 := fun h => by have := HP.out.2 h; cases this
      clear HP
      go_wp2_with fail
      exact HF.out 1 _ (fun hm => absurd (HM.out.1 hm).1 hP1) (fun _ => rfl) HB.out
    | true =>
      have hP1 : Hid P3 := HP.out.1 rfl
      clear HP
      by_cases es : s.toList = []
      · have HE : Hid (s.toList = []) := es
        have q1 : s = ⟨#[]⟩ := tl_inj (es.trans (by decide +kernel))
        subst q1
        go_wp2_with fail
        exact HF.out 0 _ (fun _ => rfl) (fun h => absurd (HM.out.2 ⟨hP1.out, by first | (simp; done) | (simp; exact HE.out)⟩) h) HB.out
      · have HE : Hid (¬ s.toList = []) := es
        have q1 : (s.toList == []) = false := by simpa using es
        have q2 : (s.toList == ByteArray.toList ⟨#[]⟩) = false := by rw [show ByteArray.toList ⟨#[]⟩ = [] from by decide +kernel]; exact q1
        clear es
        go_wp2_with fail
        exact HF.out 1 _ (fun hm => absurd (HM.out.1 hm).2 (by simp; exact HE.out)) (fun _ => rfl) HB.out
  by_cases e9 : k = 9
  · subst e9
    obtain ⟨x0, x1, x2, x3, x4, x5, x6, x7⟩ := HX.out
    cases b with
    | false =>
      have hP1 : ¬ P3 := fun h => by have := HP.out.2 h; cases this
      clear HP
      go_wp2_with fail
      exact HF.out 1 _ (fun hm => absurd (HM.out.1 hm).1 hP1) (fun _ => rfl) HB.out
    | true =>
      have hP1 : Hid P3 := HP.out.1 rfl
      clear HP
      by_cases es : s.toList = []
      · have HE : Hid (s.toList = []) := es
        have q1 : s = ⟨#[]⟩ := tl_inj (es.trans (by decide +kernel))
        subst q1
        go_wp2_with fail
        exact HF.out 0 _ (fun _ => rfl) (fun h => absurd (HM.out.2 ⟨hP1.out, by first | (simp; done) | (simp; exact HE.out)⟩) h) HB.out
      · have HE : Hid (¬ s.toList = []) := es
        have q1 : (s.toList == []) = false := by simpa using es
        have q2 : (s.toList == ByteArray.toList ⟨#[]⟩) = false := by rw [show ByteArray.toList ⟨#[]⟩ = [] from by decide +kernel]; exact q1
        clear es
        go_wp2_with fail
        exact HF.out 1 _ (fun hm => absurd (HM.out.1 hm).2 (by simp; exact HE.out)) (fun _ => rfl) HB.out
  by_cases e8 : k = 8
  · subst e8
    obtain ⟨x0, x1, x2, x3, x4, x5, x6, x7⟩ := HX.out
    cases b with
    | false =>
      have hP1 : ¬ P3 := fun h => by have := HP.out.2 h; cases this
      clear HP
      go_wp2_with fail
      exact HF.out 1 _ (fun hm => absurd (HM.out.1 hm).1 hP1) (fun _ => rfl) HB.out
    | true =>
      have hP1 : Hid P3 := HP.out.1 rfl
      clear HP
      go_wp2_with fail
      refine (TC.out _).mono ?_
      rintro e w1 ⟨rfl, e9⟩
      obtain rfl := e9.symm
      clear e9
      cases bt with
      | true =>
        go_wp2_with fail
        exact HF.out 0 _ (fun _ => rfl) (fun h => absurd (HM.out.2 ⟨hP1.out, by simp⟩) h) HB.out
      | false =>
        go_wp2_with fail
        exact HF.out 1 _ (fun hm => absurd (HM.out.1 hm).2 (by simp)) (fun _ => rfl) HB.out
  have d3 : (k == 3) = false := by simpa using e3
  have n3 : (k != 3) = true := by simpa using e3
  have d7 : (k == 7) = false := by simpa using e7
  have n7 : (k != 7) = true := by simpa using e7
  have d9 : (k == 9) = false := by simpa using e9
  have n9 : (k != 9) = true := by simpa using e9
  have d8 : (k == 8) = false := by simpa using e8
  have n8 : (k != 8) = true := by simpa using e8
  have HE : Hid (¬ (k = 3 ∨ k = 7 ∨ k = 9) ∧ ¬ k = 8) := ⟨by simp [e3, e7, e9], e8⟩
  clear e3 e7 e9 e8
  obtain ⟨x0, x1, x2, x3, x4, x5, x6, x7⟩ := HX.out
  cases b with
  | false =>
    have hP1 : ¬ P3 := fun h => by have := HP.out.2 h; cases this
    clear HP
    go_wp2_with fail
    exact HF.out 1 _ (fun hm => absurd (HM.out.1 hm).1 hP1) (fun _ => rfl) HB.out
  | true =>
    have hP1 : Hid P3 := HP.out.1 rfl
    clear HP
    go_wp2_with fail
    refine (NC.out _).mono ?_
    rintro e w1 ⟨rfl, e9⟩
    obtain rfl := e9.symm
    clear e9
    cases bn with
    | true =>
      go_wp2_with fail
      exact HF.out 0 _ (fun _ => rfl) (fun h => absurd (HM.out.2 ⟨hP1.out, by simp [HE.out.1, HE.out.2]⟩) h) HB.out
    | false =>
      go_wp2_with fail
      exact HF.out 1 _ (fun hm => absurd (HM.out.1 hm).2 (by simp [HE.out.1, HE.out.2])) (fun _ => rfl) HB.out
set_option maxHeartbeats 1000000 in
theorem closes0_calls (a : Option Addr) (c : Nat) (w : World) : Calls Tryz.prog 8 #[.slice a 0 c] w fun e w' => e = .returned (.bool false) ∧ Below w.heap.size w w' := by
  go_enter Tryz.func8, Tryz.ntmps8
  go_wp2_with fail
  go_ret
  exact ⟨rfl, Below.refl _ _⟩
set_option maxHeartbeats 1000000 in
set_option maxRecDepth 100000 in
theorem closes1_calls (k : Int) (s : ByteArray) (vk vx vb : Int) (vs : ByteArray) (la : Option Addr) (ll lc : Nat) (d : Int) (B o m c : Nat) (hm : (m : Int) < 9223372036854775807) (w : World) (x0 : w.cell? ⟨B, o + m * 8, none⟩ = some (.int .i64 k)) (x1 : w.cell? ⟨B, o + m * 8 + 1, none⟩ = some (.string s)) (x2 : w.cell? ⟨B, o + m * 8 + 2, none⟩ = some (.int .i64 vk)) (x3 : w.cell? ⟨B, o + m * 8 + 3, none⟩ = some (.int .i64 vx)) (x4 : w.cell? ⟨B, o + m * 8 + 4, none⟩ = some (.int .u64 vb)) (x5 : w.cell? ⟨B, o + m * 8 + 5, none⟩ = some (.string vs)) (x6 : w.cell? ⟨B, o + m * 8 + 6, none⟩ = some (.slice la ll lc)) (x7 : w.cell? ⟨B, o + m * 8 + 7, none⟩ = some (.int .i64 d)) : Calls Tryz.prog 8 #[.slice (some ⟨B, o, none⟩) (m + 1) c] w fun e w' => e = .returned (.bool (clo k)) ∧ Below w.heap.size w w' := by
  have HC : Hid (∀ W, Calls Tryz.prog 25 #[.agg #[.int .i64 k, .string s, .int .i64 vk, .int .i64 vx, .int .u64 vb, .string vs, .slice la ll lc, .int .i64 d]] W fun e w' => e = .returned (.bool (clo k)) ∧ Below W.heap.size W w') := fun W => closes_calls k s vk vx vb vs la ll lc d W
  have h0 : decide ((0 : Int) < ((m + 1 : Nat) : Int)) = true := decide_eq_true (by omega)
  have h1 : wrap64 (((m + 1 : Nat) : Int) - 1) = (m : Int) := by unfold wrap64; omega
  have h1' : wrap64 ((m : Int) + 1 - 1) = (m : Int) := by unfold wrap64; omega
  have h3 : wrap64 (m : Int) = (m : Int) := by unfold wrap64; omega
  have hlt : (m : Int) < ((m + 1 : Nat) : Int) := by omega
  have h2 : decide ((m : Int) < ((m + 1 : Nat) : Int)) = true := decide_eq_true hlt
  generalize clo k = bc at HC ⊢
  clear hm
  go_enter Tryz.func8, Tryz.ntmps8
  go_wp2_with fail
  refine (HC.out _).mono ?_
  rintro e w1 ⟨rfl, hb⟩
  have HB : Hid (Below w.heap.size w w1) := hb
  clear hb
  go_wp2_with fail
  go_ret
  exact ⟨rfl, HB.out⟩
set_option maxHeartbeats 1000000 in
theorem rcloses0_calls (a : Option Addr) (c : Nat) (w : World) : Calls Tryz.prog 9 #[.slice a 0 c] w fun e w' => e = .returned (.bool false) ∧ Below w.heap.size w w' := by
  go_enter Tryz.func9, Tryz.ntmps9
  go_wp2_with fail
  go_ret
  exact ⟨rfl, Below.refl _ _⟩
set_option maxHeartbeats 1000000 in
set_option maxRecDepth 100000 in
theorem rcloses1_calls (k : Int) (s : ByteArray) (vk vx vb : Int) (vs : ByteArray) (la : Option Addr) (ll lc : Nat) (d : Int) (B o m c : Nat) (hm : (m : Int) < 9223372036854775807) (w : World) (x0 : w.cell? ⟨B, o + m * 8, none⟩ = some (.int .i64 k)) (x1 : w.cell? ⟨B, o + m * 8 + 1, none⟩ = some (.string s)) (x2 : w.cell? ⟨B, o + m * 8 + 2, none⟩ = some (.int .i64 vk)) (x3 : w.cell? ⟨B, o + m * 8 + 3, none⟩ = some (.int .i64 vx)) (x4 : w.cell? ⟨B, o + m * 8 + 4, none⟩ = some (.int .u64 vb)) (x5 : w.cell? ⟨B, o + m * 8 + 5, none⟩ = some (.string vs)) (x6 : w.cell? ⟨B, o + m * 8 + 6, none⟩ = some (.slice la ll lc)) (x7 : w.cell? ⟨B, o + m * 8 + 7, none⟩ = some (.int .i64 d)) : Calls Tryz.prog 9 #[.slice (some ⟨B, o, none⟩) (m + 1) c] w fun e w' => e = .returned (.bool (clo k)) ∧ Below w.heap.size w w' := by
  have HC : Hid (∀ W, Calls Tryz.prog 26 #[.agg #[.int .i64 k, .string s, .int .i64 vk, .int .i64 vx, .int .u64 vb, .string vs, .slice la ll lc, .int .i64 d]] W fun e w' => e = .returned (.bool (clo k)) ∧ Below W.heap.size W w') := fun W => rcloses_calls k s vk vx vb vs la ll lc d W
  have h0 : decide ((0 : Int) < ((m + 1 : Nat) : Int)) = true := decide_eq_true (by omega)
  have h1 : wrap64 (((m + 1 : Nat) : Int) - 1) = (m : Int) := by unfold wrap64; omega
  have h1' : wrap64 ((m : Int) + 1 - 1) = (m : Int) := by unfold wrap64; omega
  have h3 : wrap64 (m : Int) = (m : Int) := by unfold wrap64; omega
  have hlt : (m : Int) < ((m + 1 : Nat) : Int) := by omega
  have h2 : decide ((m : Int) < ((m + 1 : Nat) : Int)) = true := decide_eq_true hlt
  generalize clo k = bc at HC ⊢
  clear hm
  go_enter Tryz.func9, Tryz.ntmps9
  go_wp2_with fail
  refine (HC.out _).mono ?_
  rintro e w1 ⟨rfl, hb⟩
  have HB : Hid (Below w.heap.size w w1) := hb
  clear hb
  go_wp2_with fail
  go_ret
  exact ⟨rfl, HB.out⟩
end Go.Proofs.YtcdhlklmnnmpoaaGreat
namespace Go.Proofs.YtcdhlklmnnmpoaaGreat
open Go.ChangeShapes Go.WideShapes Go.ChangeAt Go.RowKit
/-- A running state in which something is fresh. -/
def zSF : Array Value := #[.int .i64 1, .int .i64 1, .int .i64 4, .int .i64 0, .int .i64 0, .int .i64 0, .int .i64 0, .string ⟨#[]⟩, .int .i64 0, .int .i64 0, .int .u64 0, .string ⟨#[]⟩, .slice none 0 0, .int .i64 0, .int .u64 0, .int .i64 0, .int .i64 0, .int .i64 0, .int .i64 0, .int .i64 0, .int .i64 0, .bool true, .bool false, .slice none 0 0, .slice none 0 0, .int .i64 0, .int .i64 0, .int .u64 0, .string ⟨#[]⟩, .slice none 0 0, .string ⟨#[]⟩]
def sF : Sta := ⟨1, 1, 4, 0, 0, 0, 0, ⟨#[]⟩, zE, 0, 0, 0, 0, 0, 0, 0, 0, true, false, [], [], zE, ⟨#[]⟩⟩
theorem sF_rs (w : World) : Rs w 1 zSF sF :=
  { size := rfl, c0 := rfl, c1 := rfl, c2 := rfl, c3 := rfl, c4 := rfl, c5 := rfl, c6 := rfl, c7 := rfl, c13 := rfl, c14 := rfl, c15 := rfl, c16 := rfl, c17 := rfl, c18 := rfl, c19 := rfl, c20 := rfl, c21 := rfl, c22 := rfl, c30 := rfl, inp := ⟨0, 0, 0, ⟨#[]⟩, none, 0, 0, rfl, rfl, rfl, rfl, rfl, zE_is w 0⟩, res := ⟨0, 0, 0, ⟨#[]⟩, none, 0, 0, rfl, rfl, rfl, rfl, rfl, zE_is w 0⟩, tm := ⟨none, 0, rfl, fun i r h => by simp [sF] at h⟩, up := ⟨none, 0, [], rfl, rfl, fun i r h => by simp at h, fun i r u h => by simp at h⟩ }
theorem small0 : SmallW 1 zE := ⟨by decide, fun i t h => by simp at h⟩
theorem sF_sml : Sml 1 sF := ⟨⟨small0, small0, fun i u h => by simp [sF] at h⟩, by decide, by decide⟩
/-- The two commands. -/
def cm7 : Cm := ⟨7, ⟨#[]⟩, zE, 0⟩
def cm1 : Cm := ⟨1, ⟨#[97]⟩, zE, 3⟩
def cz7 : Array Value := #[.int .i64 7, .string ⟨#[]⟩, .int .i64 0, .int .i64 0, .int .u64 0, .string ⟨#[]⟩, .slice none 0 0, .int .i64 0]
def cz1 : Array Value := #[.int .i64 1, .string ⟨#[97]⟩, .int .i64 0, .int .i64 0, .int .u64 0, .string ⟨#[]⟩, .slice none 0 0, .int .i64 3]
theorem cz7_is (R : Value → Tv → Prop) (h : R (.agg #[.int .i64 0, .int .i64 0, .int .u64 0, .string ⟨#[]⟩, .slice none 0 0]) zE) : IsC R cz7 cm7 := { size := rfl, c0 := rfl, c1 := rfl, v := ⟨0, 0, 0, ⟨#[]⟩, none, 0, 0, rfl, rfl, rfl, rfl, rfl, h⟩, c7 := rfl }
theorem cz1_is (R : Value → Tv → Prop) (h : R (.agg #[.int .i64 0, .int .i64 0, .int .u64 0, .string ⟨#[]⟩, .slice none 0 0]) zE) : IsC R cz1 cm1 := { size := rfl, c0 := rfl, c1 := rfl, v := ⟨0, 0, 0, ⟨#[]⟩, none, 0, 0, rfl, rfl, rfl, rfl, rfl, h⟩, c7 := rfl }
theorem may7 : MayC 1 cm7 := ⟨by decide +kernel, by decide +kernel, .inl ⟨by decide +kernel, zE_mayN 0⟩, by decide +kernel⟩
theorem may1 : MayC 1 cm1 := ⟨by decide +kernel, by decide +kernel, .inr ⟨by decide +kernel, rfl⟩, by decide +kernel⟩
theorem lkc_one {W : World} {g : Nat} {cz : Array Value} {c : Cm} (hr : W.heap[g]? = some (.cells cz 27 (0, 0))) (h1 : ∀ (j : Nat) (v : Value), cz[j]? = some v → v.oneCell' = true) (h : IsC (IsP (fun b => b < W.heap.size) W 1) cz c) : LkC (fun b => b < W.heap.size) (IsP (fun b => b < W.heap.size) W 1) W (some ⟨g, 0, none⟩) [c] :=
  ⟨[cz], rfl, fun i r hr' => by
    match i, hr' with
    | 0, hr' => cases hr'; exact ⟨h.size, h1, g, 0, rfl, (Array.getElem?_eq_some_iff.1 hr).1, by simpa using Lies.row hr⟩
    | i + 1, hr' => simp at hr', fun i r e hr' he => by
    match i, hr', he with
    | 0, hr', he => cases hr'; cases he; exact h
    | i + 1, hr', he => simp at hr'⟩
theorem lka_none (w : World) (n : Nat) : LkA (fun b => b < w.heap.size) (IsP (fun b => b < w.heap.size) w n) w none [] := ⟨[], rfl, fun i r h => by simp at h, fun i r e h => by simp at h⟩
/-- The first plan fails: there is something fresh. -/
def Aw1 (w : World) (e : Ending) (w' : World) : Prop := e = .returned (.tuple #[.slice none 0 0, .slice none 0 0, .int .i64 17]) ∧ Below w.heap.size w w'
theorem aw1_calls (g : Nat) (w : World) (hr : w.heap[g]? = some (.cells cz7 27 (0, 0))) : Calls Tryz.prog 12 #[.agg zSF, .slice none 0 0, .slice (some ⟨g, 0, none⟩) 1 1, .int .i64 0] w (Aw1 w) := by
  refine (plan_calls 0 sF none 0 [] [cm7] 0 zSF (some ⟨g, 0, none⟩) 1 w (sF_rs w) sF_sml (lka_none w 1) (by decide) (fun i a h => by simp at h) (lkc_one hr (fun j v hv => by
    have a2 : cz7.all (·.oneCell') = true := by kernel_rfl
    exact Array.all_eq_true_iff_forall_mem.1 a2 v (Array.mem_of_getElem? hv)) (cz7_is _ (zE_is w 0).lt)) (fun i c h => by
    match i, h with
    | 0, h => cases h; exact small0
    | i + 1, h => simp at h) small0 (by decide)).mono ?_
  rintro e w' ⟨⟨d, Bd, cs, ve, vr, es, rs, _, _, hrun, _⟩ | ⟨code, rfl, _, hf⟩, hb⟩
  · obtain ⟨d1, c, h0, hc, hT⟩ := hrun
    have e0 : d1 = ⟨sF, [], []⟩ := h0
    have e1 : c = cm7 := by simpa using hc.symm
    subst e0 e1
    have := (hT.2.1 rfl).2
    cases this
  · rcases hf with hf | ⟨j, d, c, hrun, hc, hno, h17⟩
    · exact absurd hf (by decide)
    · match j, hrun, hc with
      | 0, hrun, hc =>
        have e0 : d = ⟨sF, [], []⟩ := hrun
        have e1 : c = cm7 := by simpa using hc.symm
        subst e0 e1
        rw [h17 may7 rfl rfl rfl]
        exact ⟨rfl, hb⟩
      | j + 1, _, hc => simp at hc
/-- The second one comes to a timer. -/
def Aw2 (w : World) (e : Ending) (w' : World) : Prop := (∃ g c vr, e = .returned (.tuple #[.slice (some ⟨g, 0, none⟩) 1 c, vr, .int .i64 0]) ∧ w'.cell? ⟨g, 3, none⟩ = some (.int .i64 5)) ∧ Below w.heap.size w w'
def evT : Ev := plE cm1 2
theorem evT_may : MayE 1 evT := ⟨by decide +kernel, by decide +kernel, by decide +kernel, .inr ⟨by decide +kernel, rfl⟩, by decide +kernel⟩
theorem evT_st : StR 1 sF evT (chg sF evT) 0 := ⟨fun _ => by decide +kernel, fun h => absurd evT_may h, by rw [if_pos rfl]⟩
theorem tk1 : TkS 1 [] true 2 cm1 ⟨sF, [], []⟩ ⟨chg sF evT, [evT], []⟩ := ⟨may1, fun h => by revert h; decide, by
  have e : wshR sF [] [] cm1 2 = .ev evT := rfl
  show wshS 1 cm1 _ _ (wshR sF [] [] cm1 2)
  rw [e]
  exact ⟨_, evT_st, rfl⟩⟩
theorem DrI.ev0 {lo Bd n : Nat} {va : Value} {s : Sta} {x : Ev} {w : World} {cs : Array Value} {ve vr : Value} {es rs : List (Array Value)} (h : DrI lo Bd n va ⟨s, [x], []⟩ w cs ve vr es rs) : ∃ g c, ve = .slice (some ⟨g, 0, none⟩) 1 c ∧ w.cell? ⟨g, 3, none⟩ = some (.int .i64 x.d) := by
  have hl : es.length = 1 := h.evl
  obtain ⟨r, hr⟩ : ∃ r, es[0]? = some r := ⟨_, List.getElem?_eq_getElem (by omega)⟩
  have hi := h.evi 0 r x hr rfl
  have ho := h.evo
  obtain ⟨_, ⟨e, hn0⟩ | ⟨g, cap, cur, e, _, hg, _⟩⟩ := ho
  · omega
  · rw [hl] at e
    refine ⟨g, cap, e, ?_⟩
    have hf : (es.flatMap Array.toList)[0 * 13 + 3]? = some (.int .i64 x.d) := flat_get (k := 13) (fun i r hr => by
      obtain ⟨e', he'⟩ : ∃ e', ([x] : List Ev)[i]? = some e' := ⟨_, List.getElem?_eq_getElem (by have := (List.getElem?_eq_some_iff.1 hr).1; simp; omega)⟩
      exact (h.evi i r e' hr he').size) hr hi.c3
    have := h.evo.cells (g := g) (by rw [e]; rfl) (0 * 13 + 3) _ hf
    rw [add_plain] at this
    exact this
theorem aw2_calls (g : Nat) (w : World) (hr : w.heap[g]? = some (.cells cz1 27 (0, 0))) : Calls Tryz.prog 12 #[.agg zSF, .slice none 0 0, .slice (some ⟨g, 0, none⟩) 1 1, .int .i64 2] w (Aw2 w) := by
  refine (plan_calls 0 sF none 0 [] [cm1] 2 zSF (some ⟨g, 0, none⟩) 1 w (sF_rs w) sF_sml (lka_none w 1) (by decide) (fun i a h => by simp at h) (lkc_one hr (fun j v hv => by
    have a2 : cz1.all (·.oneCell') = true := by kernel_rfl
    exact Array.all_eq_true_iff_forall_mem.1 a2 v (Array.mem_of_getElem? hv)) (cz1_is _ (zE_is w 0).lt)) (fun i c h => by
    match i, h with
    | 0, h => cases h; exact small0
    | i + 1, h => simp at h) small0 (by decide)).mono ?_
  rintro e w' ⟨⟨d, Bd, cs, ve, vr, es, rs, rfl, _, hrun, hD⟩ | ⟨code, rfl, _, hf⟩, hb⟩
  · obtain ⟨d1, c, h0, hc, hT⟩ := hrun
    have e0 : d1 = ⟨sF, [], []⟩ := h0
    have e1 : c = cm1 := by simpa using hc.symm
    subst e0 e1
    have e2 := hT.det tk1
    subst e2
    obtain ⟨g, c, rfl, hx⟩ := hD.ev0
    rw [show evT.d = 5 from by decide +kernel] at hx
    exact ⟨⟨g, c, vr, rfl, hx⟩, hb⟩
  · rcases hf with hf | ⟨j, d, c, hrun, hc, hno, h17⟩
    · exact absurd hf (by decide)
    · match j, hrun, hc with
      | 0, hrun, hc =>
        have e0 : d = ⟨sF, [], []⟩ := hrun
        have e1 : c = cm1 := by simpa using hc.symm
        subst e0 e1
        exact absurd tk1 (hno _)
      | j + 1, _, hc => simp at hc
theorem two_rows (w : World) (o : Obj) : Below w.heap.size w (w.alloc o) ∧ (w.alloc o).heap[w.heap.size]? = some o := ⟨bel1 w o, heap_alloc_new w o⟩
set_option maxHeartbeats 4000000 in
set_option maxRecDepth 100000 in
theorem awake_calls (w : World) : Calls Tryz.prog 10 #[] w fun e w' => e = .returned (.bool true) ∧ Below w.heap.size w w' := by
  have hi41 : (Tryz.prog.info? 41).map (·.size) = some zSF.size := info33s zSF rfl
  have z0 : zS.size = zSF.size := rfl
  have a0 : zSF.all (·.oneCell') = true := by kernel_rfl
  have n1 : (w.alloc (.cells zS 41)).heap[w.heap.size]? = some (.cells zS 41 (0, 0)) := heap_alloc_new w _
  go_enter Tryz.func10, Tryz.ntmps10
  go_upto_region 2 with (refine wpList_store_row rfl 41 _ _ rfl w.heap.size zSF rfl rfl 41 zS n1 hi41 z0 a0 ?_)
  rw [World.setRow_alloc_new]
  have r0 : (w.alloc (.cells zSF 41)).heap[w.heap.size]? = some (.cells zSF 41 (0, 0)) := heap_alloc_new w _
  have b0 : Hid (Below w.heap.size w (w.alloc (.cells zSF 41))) := bel1 w _
  clear n1
  generalize w.alloc (.cells zSF 41) = W0 at r0 b0 ⊢
  go_wp2_with (refine wpList_load_row rfl 41 _ rfl w.heap.size rfl 41 zSF (0, 0) _ r0 Tryz.underlying41 rfl hi41 ?_)
  refine Calls.mono (aw1_calls _ _ (heap_alloc_new W0 (.cells cz7 27))) ?_
  rintro e w1 ⟨rfl, hb⟩
  have b1 : Hid (Below w.heap.size w w1) := bel2 b0.out (bel2 (bel1 W0 (.cells cz7 27)) hb)
  have r1 := row_below (bel2 (bel1 W0 (.cells cz7 27)) hb) r0
  clear hb r0
  go_upto_region 3 with fail
  go_wp2_with (refine wpList_load_row rfl 41 _ rfl w.heap.size rfl 41 zSF (0, 0) _ r1 Tryz.underlying41 rfl hi41 ?_)
  refine Calls.mono (aw2_calls _ _ (heap_alloc_new w1 (.cells cz1 27))) ?_
  rintro e w2 ⟨⟨g, c, vr, rfl, hx⟩, hb⟩
  have b2 : Hid (Below w.heap.size w w2) := bel2 b1.out (bel2 (bel1 w1 (.cells cz1 27)) hb)
  clear hb r1
  go_wp2_with fail
  go_ret
  exact ⟨rfl, b2.out⟩
set_option maxHeartbeats 4000000 in
set_option maxRecDepth 100000 in
theorem checks_gen (k : Int) (s : ByteArray) (vk vx vb : Int) (vs : ByteArray) (la : Option Addr) (ll lc : Nat) (d : Int) (r : Int) (bc : Bool) (lv : Value) (w : World)
    (h6 : ∀ W, Below w.heap.size w W → Calls Tryz.prog 6 #[.agg #[.int .i64 k, .string s, .int .i64 vk, .int .i64 vx, .int .u64 vb, .string vs, .slice la ll lc, .int .i64 d]] W fun e w' => e = .returned (.int .i64 r) ∧ Below W.heap.size W w')
    (h7 : ∀ W, Below w.heap.size w W → Calls Tryz.prog 7 #[.agg #[.int .i64 k, .string s, .int .i64 vk, .int .i64 vx, .int .u64 vb, .string vs, .slice la ll lc, .int .i64 d]] W fun e w' => e = .returned (.int .i64 r) ∧ Below W.heap.size W w')
    (h8 : ∀ W, Below w.heap.size w W → Calls Tryz.prog 8 #[lv] W fun e w' => e = .returned (.bool bc) ∧ Below W.heap.size W w')
    (h9 : ∀ W, Below w.heap.size w W → Calls Tryz.prog 9 #[lv] W fun e w' => e = .returned (.bool bc) ∧ Below W.heap.size W w') :
    Calls Tryz.prog 3 #[.agg #[.int .i64 k, .string s, .int .i64 vk, .int .i64 vx, .int .u64 vb, .string vs, .slice la ll lc, .int .i64 d], lv] w fun e w' => e = .returned (.bool true) ∧ Below w.heap.size w w' := by
  have K6 : Hid (∀ W, Below w.heap.size w W → Calls Tryz.prog 6 #[.agg #[.int .i64 k, .string s, .int .i64 vk, .int .i64 vx, .int .u64 vb, .string vs, .slice la ll lc, .int .i64 d]] W fun e w' => e = .returned (.int .i64 r) ∧ Below W.heap.size W w') := h6
  have K7 : Hid (∀ W, Below w.heap.size w W → Calls Tryz.prog 7 #[.agg #[.int .i64 k, .string s, .int .i64 vk, .int .i64 vx, .int .u64 vb, .string vs, .slice la ll lc, .int .i64 d]] W fun e w' => e = .returned (.int .i64 r) ∧ Below W.heap.size W w') := h7
  have K8 : Hid (∀ W, Below w.heap.size w W → Calls Tryz.prog 8 #[lv] W fun e w' => e = .returned (.bool bc) ∧ Below W.heap.size W w') := h8
  have K9 : Hid (∀ W, Below w.heap.size w W → Calls Tryz.prog 9 #[lv] W fun e w' => e = .returned (.bool bc) ∧ Below W.heap.size W w') := h9
  have KA : Hid (∀ W, Below w.heap.size w W → Calls Tryz.prog 10 #[] W fun e w' => e = .returned (.bool true) ∧ Below W.heap.size W w') := fun W _ => awake_calls W
  have r5 : (w.alloc (.cells #[.int .i64 k, .string s, .int .i64 vk, .int .i64 vx, .int .u64 vb, .string vs, .slice la ll lc, .int .i64 d] 27)).heap[w.heap.size]? = some (.cells #[.int .i64 k, .string s, .int .i64 vk, .int .i64 vx, .int .u64 vb, .string vs, .slice la ll lc, .int .i64 d] 27 (0, 0)) := heap_alloc_new w _
  have gR : (w.alloc (.cells #[.int .i64 k, .string s, .int .i64 vk, .int .i64 vx, .int .u64 vb, .string vs, .slice la ll lc, .int .i64 d] 27)).drew.rangeAt w.heap.size 0 (#[.int .i64 k, .string s, .int .i64 vk, .int .i64 vx, .int .u64 vb, .string vs, .slice la ll lc, .int .i64 d] : Array Value).toList := row_range r5
  have HB : Hid (Below w.heap.size w (w.alloc (.cells #[.int .i64 k, .string s, .int .i64 vk, .int .i64 vx, .int .u64 vb, .string vs, .slice la ll lc, .int .i64 d] 27)).drew) := (bel1 _ _).drew
  clear h6 h7 h8 h9 r5
  go_enter Tryz.func3, Tryz.ntmps3
  go_upto_region 1 with fail
  refine wp_region_held_drew (S := (fun w' => w'.rangeAt w.heap.size 0 (#[.int .i64 k, .string s, .int .i64 vk, .int .i64 vx, .int .u64 vb, .string vs, .slice la ll lc, .int .i64 d] : Array Value).toList)) (by kernel_rfl) gR (fun hHeld => ?_)
  change wpAnyH _ _ _ _ _ _ _ _ (World.drew _)
  refine wpAnyH_take (i := 0) (oi := { dst := some 5, op := Go.Op.load 27 (Go.Operand.tmp 2), type := 27, pos := "law.go:29", after := #[], guard := none }) (v := _) rfl (by kernel_rfl) (by kernel_rfl) (by kernel_rfl) (fun _ _ _ h => h) (yieldsIf_load_mid rfl 27 _ rfl w.heap.size 0 rfl (#[.int .i64 k, .string s, .int .i64 vk, .int .i64 vx, .int .u64 vb, .string vs, .slice la ll lc, .int .i64 d] : Array Value).toList _ (fun w h => h) Tryz.underlying27 rfl info27s) hHeld ?_
  simp only [Act.put, List.setIfInBounds_toArray, List.set_cons_zero, List.set_cons_succ]
  refine wpAnyH_take (i := 2) (oi := { dst := some 7, op := Go.Op.load 27 (Go.Operand.tmp 2), type := 27, pos := "law.go:29", after := #[], guard := none }) (v := _) rfl (by kernel_rfl) (by kernel_rfl) (by kernel_rfl) (fun _ _ _ h => h) (yieldsIf_load_mid rfl 27 _ rfl w.heap.size 0 rfl (#[.int .i64 k, .string s, .int .i64 vk, .int .i64 vx, .int .u64 vb, .string vs, .slice la ll lc, .int .i64 d] : Array Value).toList _ (fun w h => h) Tryz.underlying27 rfl info27s) hHeld ?_
  simp only [Act.put, List.setIfInBounds_toArray, List.set_cons_zero, List.set_cons_succ]
  refine wpAnyH_ready (rs := [1]) (by kernel_rfl) (by simp) ?_
  refine AllReadyH.cons (o := { dst := some 6, op := Go.Op.call { callee := Go.Callee.value (Go.Operand.func 6), args := #[Go.Operand.tmp 5], argTypes := #[27] }, type := 29, pos := "law.go:29", after := #[{ on := 0, ground := Go.Ground.data }], guard := none }) rfl (fun K hK => ?_) AllReadyH.nil
  go_simp
  refine (K6.out _ HB.out).mono ?_
  rintro e w1 ⟨rfl, hb⟩
  replace HB : Hid (Below w.heap.size w w1) := bel2 HB.out hb
  replace gR : w1.rangeAt w.heap.size 0 (#[.int .i64 k, .string s, .int .i64 vk, .int .i64 vx, .int .u64 vb, .string vs, .slice la ll lc, .int .i64 d] : Array Value).toList := fun j v hv => cellW (gR j v hv) hb
  clear hb
  refine hK.out _ _ gR (fun hHeld => ?_)
  clear hK K
  refine wpAnyH_ready (rs := [3]) (by kernel_rfl) (by simp) ?_
  refine AllReadyH.cons (o := { dst := some 8, op := Go.Op.call { callee := Go.Callee.value (Go.Operand.func 7), args := #[Go.Operand.tmp 7], argTypes := #[27] }, type := 29, pos := "law.go:29", after := #[{ on := 2, ground := Go.Ground.data }, { on := 1, ground := Go.Ground.chain }], guard := none }) rfl (fun K hK => ?_) AllReadyH.nil
  go_simp
  refine (K7.out _ HB.out).mono ?_
  rintro e w3 ⟨rfl, hb⟩
  replace HB : Hid (Below w.heap.size w w3) := bel2 HB.out hb
  replace gR : w3.rangeAt w.heap.size 0 (#[.int .i64 k, .string s, .int .i64 vk, .int .i64 vx, .int .u64 vb, .string vs, .slice la ll lc, .int .i64 d] : Array Value).toList := fun j v hv => cellW (gR j v hv) hb
  clear hb
  refine hK.out _ _ gR (fun hHeld => ?_)
  clear hK K
  refine wpAnyH_take (i := 4) (oi := { dst := some 9, op := Go.Op.binOp Go.BinOp.eql 29 (Go.Operand.tmp 6) (Go.Operand.tmp 8) 29, type := 4, pos := "law.go:29", after := #[{ on := 1, ground := Go.Ground.data }, { on := 3, ground := Go.Ground.data }], guard := none }) (v := ?_) rfl (by kernel_rfl) (by kernel_rfl) (by kernel_rfl) (fun _ _ _ h => h) (Or.inl ⟨by rfl, ?_⟩) hHeld ?_
  rotate_left 1
  · (intro w hSw; (try dsimp only at hSw); go_simp <;> with_reducible rfl)
  simp only [Act.put, List.setIfInBounds_toArray, List.set_cons_zero, List.set_cons_succ]
  refine wpAnyH_take (i := 5) (oi := { dst := some 10, op := Go.Op.move (Go.Operand.tmp 9), type := 4, pos := "law.go:29", after := #[{ on := 4, ground := Go.Ground.data }, { on := 3, ground := Go.Ground.chain }], guard := none }) (v := ?_) rfl (by kernel_rfl) (by kernel_rfl) (by kernel_rfl) (fun _ _ _ h => h) (Or.inl ⟨by rfl, ?_⟩) hHeld ?_
  rotate_left 1
  · (intro w hSw; (try dsimp only at hSw); go_simp <;> with_reducible rfl)
  simp only [Act.put, List.setIfInBounds_toArray, List.set_cons_zero, List.set_cons_succ]
  refine wpAnyH_take (i := 6) (oi := { dst := some 11, op := Go.Op.move (Go.Operand.tmp 1), type := 28, pos := "law.go:29", after := #[{ on := 5, ground := Go.Ground.guard }], guard := some (5, true) }) (v := ?_) rfl (by kernel_rfl) (by kernel_rfl) (by kernel_rfl) (fun _ _ _ h => h) (Or.inl ⟨by rfl, ?_⟩) hHeld ?_
  rotate_left 1
  · (intro w hSw; (try dsimp only at hSw); go_simp <;> with_reducible rfl)
  simp only [Act.put, List.setIfInBounds_toArray, List.set_cons_zero, List.set_cons_succ]
  refine wpAnyH_take (i := 8) (oi := { dst := some 13, op := Go.Op.move (Go.Operand.tmp 1), type := 28, pos := "law.go:29", after := #[{ on := 5, ground := Go.Ground.guard }], guard := some (5, true) }) (v := ?_) rfl (by kernel_rfl) (by kernel_rfl) (by kernel_rfl) (fun _ _ _ h => h) (Or.inl ⟨by rfl, ?_⟩) hHeld ?_
  rotate_left 1
  · (intro w hSw; (try dsimp only at hSw); go_simp <;> with_reducible rfl)
  simp only [Act.put, List.setIfInBounds_toArray, List.set_cons_zero, List.set_cons_succ]
  refine wpAnyH_ready (rs := [7]) (by kernel_rfl) (by simp) ?_
  refine AllReadyH.cons (o := { dst := some 12, op := Go.Op.call { callee := Go.Callee.value (Go.Operand.func 8), args := #[Go.Operand.tmp 11], argTypes := #[28] }, type := 4, pos := "law.go:29", after := #[{ on := 6, ground := Go.Ground.data }, { on := 5, ground := Go.Ground.chain }, { on := 5, ground := Go.Ground.guard }], guard := some (5, true) }) rfl (fun K hK => ?_) AllReadyH.nil
  go_simp
  refine (K8.out _ HB.out).mono ?_
  rintro e w7 ⟨rfl, hb⟩
  replace HB : Hid (Below w.heap.size w w7) := bel2 HB.out hb
  replace gR : w7.rangeAt w.heap.size 0 (#[.int .i64 k, .string s, .int .i64 vk, .int .i64 vx, .int .u64 vb, .string vs, .slice la ll lc, .int .i64 d] : Array Value).toList := fun j v hv => cellW (gR j v hv) hb
  clear hb
  refine hK.out _ _ gR (fun hHeld => ?_)
  clear hK K
  refine wpAnyH_ready (rs := [9]) (by kernel_rfl) (by simp) ?_
  refine AllReadyH.cons (o := { dst := some 14, op := Go.Op.call { callee := Go.Callee.value (Go.Operand.func 9), args := #[Go.Operand.tmp 13], argTypes := #[28] }, type := 4, pos := "law.go:29", after := #[{ on := 8, ground := Go.Ground.data }, { on := 7, ground := Go.Ground.chain }, { on := 5, ground := Go.Ground.guard }], guard := some (5, true) }) rfl (fun K hK => ?_) AllReadyH.nil
  go_simp
  refine (K9.out _ HB.out).mono ?_
  rintro e w9 ⟨rfl, hb⟩
  replace HB : Hid (Below w.heap.size w w9) := bel2 HB.out hb
  replace gR : w9.rangeAt w.heap.size 0 (#[.int .i64 k, .string s, .int .i64 vk, .int .i64 vx, .int .u64 vb, .string vs, .slice la ll lc, .int .i64 d] : Array Value).toList := fun j v hv => cellW (gR j v hv) hb
  clear hb
  refine hK.out _ _ gR (fun hHeld => ?_)
  clear hK K
  refine wpAnyH_take (i := 10) (oi := { dst := some 15, op := Go.Op.binOp Go.BinOp.eql 4 (Go.Operand.tmp 12) (Go.Operand.tmp 14) 4, type := 4, pos := "law.go:29", after := #[{ on := 7, ground := Go.Ground.data }, { on := 9, ground := Go.Ground.data }, { on := 5, ground := Go.Ground.guard }], guard := some (5, true) }) (v := ?_) rfl (by kernel_rfl) (by kernel_rfl) (by kernel_rfl) (fun _ _ _ h => h) (Or.inl ⟨by rfl, ?_⟩) hHeld ?_
  rotate_left 1
  · (intro w hSw; (try dsimp only at hSw); go_simp <;> with_reducible rfl)
  simp only [Act.put, List.setIfInBounds_toArray, List.set_cons_zero, List.set_cons_succ]
  refine wpAnyH_take (i := 11) (oi := { dst := some 16, op := Go.Op.pick (Go.Operand.tmp 10) (Go.Operand.tmp 15) (Go.Operand.const (Go.Value.bool false)), type := 4, pos := "law.go:29", after := #[{ on := 5, ground := Go.Ground.data }, { on := 10, ground := Go.Ground.data }], guard := none }) (v := ?_) rfl (by kernel_rfl) (by kernel_rfl) (by kernel_rfl) (fun _ _ _ h => h) (Or.inl ⟨by rfl, ?_⟩) hHeld ?_
  rotate_left 1
  · (intro w hSw; (try dsimp only at hSw); go_simp <;> with_reducible rfl)
  simp only [Act.put, List.setIfInBounds_toArray, List.set_cons_zero, List.set_cons_succ]
  refine wpAnyH_take (i := 12) (oi := { dst := some 17, op := Go.Op.move (Go.Operand.tmp 16), type := 4, pos := "law.go:29", after := #[{ on := 11, ground := Go.Ground.data }, { on := 9, ground := Go.Ground.chain }], guard := none }) (v := ?_) rfl (by kernel_rfl) (by kernel_rfl) (by kernel_rfl) (fun _ _ _ h => h) (Or.inl ⟨by rfl, ?_⟩) hHeld ?_
  rotate_left 1
  · (intro w hSw; (try dsimp only at hSw); go_simp <;> with_reducible rfl)
  simp only [Act.put, List.setIfInBounds_toArray, List.set_cons_zero, List.set_cons_succ]
  refine wpAnyH_ready (rs := [13]) (by kernel_rfl) (by simp) ?_
  refine AllReadyH.cons (o := { dst := some 18, op := Go.Op.call { callee := Go.Callee.value (Go.Operand.func 10), args := #[], argTypes := #[] }, type := 4, pos := "law.go:29", after := #[{ on := 12, ground := Go.Ground.chain }, { on := 12, ground := Go.Ground.guard }], guard := some (12, true) }) rfl (fun K hK => ?_) AllReadyH.nil
  go_simp
  refine (KA.out _ HB.out).mono ?_
  rintro e w13 ⟨rfl, hb⟩
  replace HB : Hid (Below w.heap.size w w13) := bel2 HB.out hb
  replace gR : w13.rangeAt w.heap.size 0 (#[.int .i64 k, .string s, .int .i64 vk, .int .i64 vx, .int .u64 vb, .string vs, .slice la ll lc, .int .i64 d] : Array Value).toList := fun j v hv => cellW (gR j v hv) hb
  clear hb
  refine hK.out _ _ gR (fun hHeld => ?_)
  clear hK K
  refine wpAnyH_take (i := 14) (oi := { dst := some 19, op := Go.Op.pick (Go.Operand.tmp 17) (Go.Operand.tmp 18) (Go.Operand.const (Go.Value.bool false)), type := 4, pos := "law.go:29", after := #[{ on := 12, ground := Go.Ground.data }, { on := 13, ground := Go.Ground.data }], guard := none }) (v := ?_) rfl (by kernel_rfl) (by kernel_rfl) (by kernel_rfl) (fun _ _ _ h => h) (Or.inl ⟨by rfl, ?_⟩) hHeld ?_
  rotate_left 1
  · (intro w hSw; (try dsimp only at hSw); go_simp <;> with_reducible rfl)
  simp only [Act.put, List.setIfInBounds_toArray, List.set_cons_zero, List.set_cons_succ]
  refine wpAnyH_take (i := 15) (oi := { dst := some 4, op := Go.Op.assign (Go.Operand.tmp 19), type := 4, pos := "law.go:29", after := #[{ on := 14, ground := Go.Ground.data }, { on := 13, ground := Go.Ground.chain }, { on := 0, ground := Go.Ground.phase }, { on := 1, ground := Go.Ground.phase }, { on := 2, ground := Go.Ground.phase }, { on := 3, ground := Go.Ground.phase }, { on := 4, ground := Go.Ground.phase }, { on := 5, ground := Go.Ground.phase }, { on := 6, ground := Go.Ground.phase }, { on := 7, ground := Go.Ground.phase }, { on := 8, ground := Go.Ground.phase }, { on := 9, ground := Go.Ground.phase }, { on := 10, ground := Go.Ground.phase }, { on := 11, ground := Go.Ground.phase }, { on := 12, ground := Go.Ground.phase }, { on := 13, ground := Go.Ground.phase }, { on := 14, ground := Go.Ground.phase }], guard := none }) (v := ?_) rfl (by kernel_rfl) (by kernel_rfl) (by kernel_rfl) (fun _ _ _ h => h) (Or.inl ⟨by rfl, ?_⟩) hHeld ?_
  rotate_left 1
  · (intro w hSw; (try dsimp only at hSw); go_simp <;> with_reducible rfl)
  simp only [Act.put, List.setIfInBounds_toArray, List.set_cons_zero, List.set_cons_succ]
  refine wpAnyH_done (by kernel_rfl) ?_ _
  go_wp2_with fail
  go_ret
  exact ⟨rfl, HB.out⟩
end Go.Proofs.YtcdhlklmnnmpoaaGreat
namespace Go.Proofs.YtcdhlklmnnmpoaaGreat
open Go.ChangeAt Go.ChangeShapes Go.Deep Go.RowKit Go.WideShapes
theorem list2 {α : Type} : ∀ {l : List α}, l.length = 2 → ∃ a b, l = [a, b]
  | [a, b], _ => ⟨a, b, rfl⟩
theorem list3 {α : Type} : ∀ {l : List α}, l.length = 3 → ∃ a b c, l = [a, b, c]
  | [a, b, c], _ => ⟨a, b, c, rfl⟩
theorem list4 {α : Type} : ∀ {l : List α}, l.length = 4 → ∃ a b c d, l = [a, b, c, d]
  | [a, b, c, d], _ => ⟨a, b, c, d, rfl⟩
theorem list12 {α : Type} : ∀ {l : List α}, l.length = 12 → ∃ a0 a1 a2 a3 a4 a5 a6 a7 a8 a9 a10 a11, l = [a0, a1, a2, a3, a4, a5, a6, a7, a8, a9, a10, a11]
  | [a0, a1, a2, a3, a4, a5, a6, a7, a8, a9, a10, a11], _ => ⟨a0, a1, a2, a3, a4, a5, a6, a7, a8, a9, a10, a11, rfl⟩
theorem list17 {α : Type} : ∀ {l : List α}, l.length = 17 → ∃ a0 a1 a2 a3 a4 a5 a6 a7 a8 a9 a10 a11 a12 a13 a14 a15 a16, l = [a0, a1, a2, a3, a4, a5, a6, a7, a8, a9, a10, a11, a12, a13, a14, a15, a16]
  | [a0, a1, a2, a3, a4, a5, a6, a7, a8, a9, a10, a11, a12, a13, a14, a15, a16], _ => ⟨a0, a1, a2, a3, a4, a5, a6, a7, a8, a9, a10, a11, a12, a13, a14, a15, a16, rfl⟩
theorem list31 {α : Type} : ∀ {l : List α}, l.length = 31 → ∃ a0 a1 a2 a3 a4 a5 a6 a7 a8 a9 a10 a11 a12 a13 a14 a15 a16 a17 a18 a19 a20 a21 a22 a23 a24 a25 a26 a27 a28 a29 a30, l = [a0, a1, a2, a3, a4, a5, a6, a7, a8, a9, a10, a11, a12, a13, a14, a15, a16, a17, a18, a19, a20, a21, a22, a23, a24, a25, a26, a27, a28, a29, a30]
  | [a0, a1, a2, a3, a4, a5, a6, a7, a8, a9, a10, a11, a12, a13, a14, a15, a16, a17, a18, a19, a20, a21, a22, a23, a24, a25, a26, a27, a28, a29, a30], _ => ⟨a0, a1, a2, a3, a4, a5, a6, a7, a8, a9, a10, a11, a12, a13, a14, a15, a16, a17, a18, a19, a20, a21, a22, a23, a24, a25, a26, a27, a28, a29, a30, rfl⟩
theorem cells38 : Tryz.prog.cellsOf 120 = 2 := by kernel_rfl
theorem cells40 : Tryz.prog.cellsOf 50 = 12 := by kernel_rfl
theorem cells27 : Tryz.prog.cellsOf 35 = 3 := by kernel_rfl
theorem cells29 : Tryz.prog.cellsOf 37 = 5 := by kernel_rfl
theorem cells33 : Tryz.prog.cellsOf 41 = 31 := by kernel_rfl
/-- A slice of structs that came in: rows of cells, each read by itself. -/
theorem open_rows {H : Type} {enc : TypeId × Value → H} {W : World} {base : Nat} {spare : Nat → Bool} {held : Bool} {sl el : TypeId} {k : Nat} (hs : Tryz.prog.underlying sl = some (.slice el)) (hc : Tryz.prog.cellsOf el = k) (hk : 0 < k) (fuel : Nat) (cs : List Value) (x : DataW H × List MemPlace)
    (h : DataW.trod enc Tryz.prog W base spare held fuel sl cs = some x) (hwt : ∀ y ∈ x.1.weights Tryz.prog sl, y ≤ reachBytes) :
    ∃ (a : Option Addr) (cap q : Nat) (rows : List (List Value)), cs = [.slice a rows.length cap] ∧ rows.length ≤ 9223372036854775807 ∧ ∀ (i : Nat) r, rows[i]? = some r → r.length = k ∧ (∃ B o, a = some ⟨B, o, none⟩ ∧ ∀ (j : Nat) v, r[j]? = some v → W.cell? ⟨B, o + i * k + j, none⟩ = some v) ∧
      ∃ y, DataW.trod enc Tryz.prog W base spare held q el r = some y ∧ ∀ z ∈ y.1.weights Tryz.prog el, z ≤ reachBytes := by
  rcases DataW.trod_slice hs h with ⟨h4, _⟩ | ⟨a, len, cap, elems, rest, q, hq, h4, h4x, _, hl, hm, he, hx, _, _⟩
  · exact ⟨none, 0, 0, [], by rw [h4]; rfl, by simp, fun i r hr => by simp at hr⟩
  · unfold maxLen at hm
    have helem : ∀ i (hi : i < elems.length), ∀ y ∈ (elems[i]).1.weights Tryz.prog el, y ≤ reachBytes := fun i hi y hy => by
      apply hwt
      rw [h4x]
      simp only [DataW.weights, hs, List.mem_cons, List.mem_append]
      exact .inr (.inl (mem_all (List.mem_map.2 ⟨_, List.getElem_mem hi, rfl⟩) y hy))
    have each : ∀ i, i < len → ∃ r : List Value, r.length = k ∧ (∃ B o, a = ⟨B, o, none⟩ ∧ ∀ (j : Nat) v, r[j]? = some v → W.cell? ⟨B, o + i * k + j, none⟩ = some v) ∧ ∃ y, DataW.trod enc Tryz.prog W base spare held q el r = some y ∧ ∀ z ∈ y.1.weights Tryz.prog el, z ≤ reachBytes := by
      intro i hi
      have key := hx i hi
      rw [List.getElem?_eq_getElem (by omega)] at key
      obtain ⟨cs', k1, k2⟩ := Option.bind_eq_some_iff.1 key
      rw [hc] at k1
      obtain ⟨hl1, hl2, hcell⟩ := World.cells?_some k1
      have hlen : cs'.length = k := by first | exact hl1 | exact hl2
      have hsp : a.spot = none := by
        have key0 := hx 0 (by omega)
        rw [List.getElem?_eq_getElem (by omega)] at key0
        obtain ⟨cs0, k10, _⟩ := Option.bind_eq_some_iff.1 key0
        rw [hc] at k10
        obtain ⟨g1, g2, hcell0⟩ := World.cells?_some k10
        have hl0 : cs0.length = k := by first | exact g1 | exact g2
        have q0 := hcell0 0 (by omega)
        rw [List.getElem?_eq_getElem (by omega)] at q0
        have := plain_addr q0
        simpa [Addr.add] using this
      obtain ⟨B, o, sp⟩ := a
      cases hsp
      refine ⟨cs', hlen, ⟨B, o, rfl, fun j v hj => ?_⟩, _, k2, helem i (by omega)⟩
      have hjl := (List.getElem?_eq_some_iff.1 hj).1
      have := hcell j (by omega)
      rw [addp, addp] at this
      rw [this]
      simpa using hj
    have inh : Inhabited (List Value) := ⟨[]⟩
    obtain ⟨F, hF⟩ := choose_lt each
    refine ⟨some a, cap, q, (List.range len).map F, by rw [h4]; simp, by simp; omega, fun i r hr => ?_⟩
    have hi : i < len := by have := (List.getElem?_eq_some_iff.1 hr).1; simpa using this
    rw [List.getElem?_map, List.getElem?_range hi] at hr
    cases hr
    obtain ⟨h1, ⟨B, o, h2, h3⟩, h5⟩ := hF i hi
    exact ⟨h1, ⟨B, o, by rw [h2], h3⟩, h5⟩
set_option maxRecDepth 100000 in
theorem open_tm {H : Type} {enc : TypeId × Value → H} {W : World} {base : Nat} {spare : Nat → Bool} {held : Bool} (fuel : Nat) (cs : List Value) (x : DataW H × List MemPlace) (h : DataW.trod enc Tryz.prog W base spare held fuel 120 cs = some x) :
    ∃ t : Tm, cs = [.string t.s, .int .i64 t.d] ∧ -9223372036854775808 ≤ t.d ∧ t.d ≤ 9223372036854775807 := by
  obtain ⟨xs, k, hk, hxy, hlen, hxl, hf⟩ := DataW.trod_struct Tryz.underlying120 h
  rw [cells38] at hlen
  obtain ⟨c0, c1, rfl⟩ := list2 hlen
  obtain ⟨y0, y1, rfl⟩ := list2 (l := xs) hxl
  have g0 := hf 0 _ rfl
  have g1 := hf 1 _ rfl
  clear hf hxl hlen hxy h
  simp only [List.getElem?_cons_zero, List.getElem?_cons_succ] at g0 g1
  obtain ⟨n0, e0, _, w0⟩ := DataW.trod_string Tryz.underlying9 g0
  obtain ⟨n1, e1, _, w1⟩ := DataW.trod_int Tryz.underlying3 g1
  cases e0; cases e1
  exact ⟨⟨n0, n1⟩, rfl, lo64 w1⟩
set_option maxRecDepth 100000 in
theorem open_po {H : Type} {enc : TypeId × Value → H} {W : World} {base : Nat} {spare : Nat → Bool} {held : Bool} (fuel : Nat) (cs : List Value) (x : DataW H × List MemPlace) (h : DataW.trod enc Tryz.prog W base spare held fuel 35 cs = some x) :
    ∃ (f : Int) (c : Nat) (m : Int), cs = [.int .i64 f, .int .u64 (c : Int), .int .i64 m] ∧ c < 18446744073709551616 := by
  obtain ⟨xs, k, hk, hxy, hlen, hxl, hf⟩ := DataW.trod_struct Tryz.underlying35 h
  rw [cells27] at hlen
  obtain ⟨c0, c1, c2, rfl⟩ := list3 hlen
  obtain ⟨y0, y1, y2, rfl⟩ := list3 (l := xs) hxl
  have g0 := hf 0 _ rfl
  have g1 := hf 1 _ rfl
  have g2 := hf 2 _ rfl
  clear hf hxl hlen hxy h
  simp only [List.getElem?_cons_zero, List.getElem?_cons_succ] at g0 g1 g2
  obtain ⟨n0, e0, _, w0⟩ := DataW.trod_int Tryz.underlying3 g0
  obtain ⟨n1, e1, _, w1⟩ := DataW.trod_int Tryz.underlying22 g1
  obtain ⟨n2, e2, _, w2⟩ := DataW.trod_int Tryz.underlying3 g2
  cases e0; cases e1; cases e2
  have g1 := lou64 w1
  refine ⟨n0, n1.toNat, n2, ?_, by omega⟩
  rw [Int.toNat_of_nonneg g1.1]
set_option maxRecDepth 100000 in
theorem open_task {H : Type} {enc : TypeId × Value → H} {W : World} {base : Nat} {spare : Nat → Bool} {held : Bool} (fuel : Nat) (cs : List Value) (x : DataW H × List MemPlace) (h : DataW.trod enc Tryz.prog W base spare held fuel 37 cs = some x) :
    ∃ a b c d e : Int, cs = [.int .i64 a, .int .i64 b, .int .i64 c, .int .i64 d, .int .i64 e] := by
  obtain ⟨xs, k, hk, hxy, hlen, hxl, hf⟩ := DataW.trod_struct Tryz.underlying37 h
  rw [cells29] at hlen
  obtain ⟨c0, c1, c2, c3, c4, rfl⟩ := list5 hlen
  obtain ⟨y0, y1, y2, y3, y4, rfl⟩ := list5 (l := xs) hxl
  have g0 := hf 0 _ rfl
  have g1 := hf 1 _ rfl
  have g2 := hf 2 _ rfl
  have g3 := hf 3 _ rfl
  have g4 := hf 4 _ rfl
  clear hf hxl hlen hxy h
  simp only [List.getElem?_cons_zero, List.getElem?_cons_succ] at g0 g1 g2 g3 g4
  obtain ⟨n0, e0, _, _⟩ := DataW.trod_int Tryz.underlying3 g0
  obtain ⟨n1, e1, _, _⟩ := DataW.trod_int Tryz.underlying3 g1
  obtain ⟨n2, e2, _, _⟩ := DataW.trod_int Tryz.underlying3 g2
  obtain ⟨n3, e3, _, _⟩ := DataW.trod_int Tryz.underlying3 g3
  obtain ⟨n4, e4, _, _⟩ := DataW.trod_int Tryz.underlying3 g4
  cases e0; cases e1; cases e2; cases e3; cases e4
  exact ⟨_, _, _, _, _, rfl⟩
theorem isV5 {W : World} {n : Nat} {v0 v1 v2 v3 v4 : Value} {t : Tv} (h : Is W n (.agg #[v0, v1, v2, v3, v4]) t) {cs : Array Value} {p : Nat} (h0 : cs[p]? = some v0) (h1 : cs[p + 1]? = some v1) (h2 : cs[p + 2]? = some v2) (h3 : cs[p + 3]? = some v3) (h4 : cs[p + 4]? = some v4) : V5 (Is W n) cs p t := by
  obtain ⟨k, x, b, s, a, m, c, rfl, rfl, rfl, rfl, rfl⟩ := h.shape
  exact ⟨k, x, b, s, a, m, c, h0, h1, h2, h3, h4, h⟩
set_option maxRecDepth 100000 in
theorem open_up {H : Type} {enc : TypeId × Value → H} {W : World} {base : Nat} {spare : Nat → Bool} {held : Bool} (fuel : Nat) (cs : List Value) (x : DataW H × List MemPlace) (h : DataW.trod enc Tryz.prog W base spare held fuel 50 cs = some x) (hwt : ∀ y ∈ x.1.weights Tryz.prog 50, y ≤ reachBytes) :
    ∃ (u : Up) (n : Nat), IsU (Is W n) cs.toArray u ∧ SmallW n u.v ∧ SmallW n u.o := by
  obtain ⟨xs, q, hk, hxy, hlen, hxl, hf⟩ := DataW.trod_struct Tryz.underlying50 h
  rw [cells40] at hlen
  obtain ⟨a0, a1, a2, a3, a4, a5, a6, a7, a8, a9, a10, a11, rfl⟩ := list12 hlen
  obtain ⟨y0, y1, y2, y3, rfl⟩ := list4 (l := xs) hxl
  have hw1 : ∀ y ∈ y1.1.weights Tryz.prog 25, y ≤ reachBytes := fun y hy => by
    apply hwt
    rw [hxy]
    simp only [DataW.weights, Tryz.underlying50]
    exact DataW.weights_mem_each (j := 1) rfl rfl y hy
  have hw3 : ∀ y ∈ y3.1.weights Tryz.prog 25, y ≤ reachBytes := fun y hy => by
    apply hwt
    rw [hxy]
    simp only [DataW.weights, Tryz.underlying50]
    exact DataW.weights_mem_each (j := 3) rfl rfl y hy
  clear hwt
  have g0 := hf 0 _ rfl
  have g1 := hf 1 _ rfl
  have g2 := hf 2 _ rfl
  have g3 := hf 3 _ rfl
  clear hf hxl hlen hxy h
  simp only [List.getElem?_cons_zero, List.getElem?_cons_succ] at g0 g1 g2 g3
  obtain ⟨s0, p0, _, _⟩ := DataW.trod_string Tryz.underlying9 g0
  obtain ⟨v0, v1, v2, v3, v4, t1, m1, p1, i1, sm1⟩ := open_valW q _ _ g1 hw1
  obtain ⟨n2, p2, _, _⟩ := DataW.trod_int Tryz.underlying3 g2
  obtain ⟨o0, o1, o2, o3, o4, t3, m3, p3, i3, sm3⟩ := open_valW q _ _ g3 hw3
  cases p0; cases p1; cases p2; cases p3
  refine ⟨⟨s0, t1, n2, t3⟩, m1 + m3, ⟨rfl, rfl, isV5 (i1.up (by omega)) rfl rfl rfl rfl rfl, rfl, isV5 (i3.up (by omega)) rfl rfl rfl rfl rfl⟩, sm1.up (by omega), sm3.up (by omega)⟩
set_option maxRecDepth 100000 in
theorem open_sta {H : Type} {enc : TypeId × Value → H} {W : World} {base : Nat} {spare : Nat → Bool} {held : Bool} (fuel : Nat) (cs : List Value) (x : DataW H × List MemPlace) (h : DataW.trod enc Tryz.prog W base spare held fuel 41 cs = some x) (hwt : ∀ y ∈ x.1.weights Tryz.prog 41, y ≤ reachBytes) :
    ∃ (s : Sta) (n : Nat), Rs W n cs.toArray s ∧ SmS n s ∧ s.pc < 18446744073709551616 := by
  obtain ⟨xs, q, hk, hxy, hlen, hxl, hf⟩ := DataW.trod_struct Tryz.underlying41 h
  rw [cells33] at hlen
  obtain ⟨a0, a1, a2, a3, a4, a5, a6, a7, a8, a9, a10, a11, a12, a13, a14, a15, a16, a17, a18, a19, a20, a21, a22, a23, a24, a25, a26, a27, a28, a29, a30, rfl⟩ := list31 hlen
  obtain ⟨y0, y1, y2, y3, y4, y5, y6, y7, y8, y9, y10, y11, y12, y13, y14, y15, y16, rfl⟩ := list17 (l := xs) hxl
  have hw8 : ∀ y ∈ y8.1.weights Tryz.prog 25, y ≤ reachBytes := fun y hy => by
    apply hwt
    rw [hxy]
    simp only [DataW.weights, Tryz.underlying41]
    exact DataW.weights_mem_each (j := 8) rfl rfl y hy
  have hw13 : ∀ y ∈ y13.1.weights Tryz.prog 38, y ≤ reachBytes := fun y hy => by
    apply hwt
    rw [hxy]
    simp only [DataW.weights, Tryz.underlying41]
    exact DataW.weights_mem_each (j := 13) rfl rfl y hy
  have hw14 : ∀ y ∈ y14.1.weights Tryz.prog 39, y ≤ reachBytes := fun y hy => by
    apply hwt
    rw [hxy]
    simp only [DataW.weights, Tryz.underlying41]
    exact DataW.weights_mem_each (j := 14) rfl rfl y hy
  have hw15 : ∀ y ∈ y15.1.weights Tryz.prog 25, y ≤ reachBytes := fun y hy => by
    apply hwt
    rw [hxy]
    simp only [DataW.weights, Tryz.underlying41]
    exact DataW.weights_mem_each (j := 15) rfl rfl y hy
  clear hwt
  have g0 := hf 0 _ rfl
  have g1 := hf 1 _ rfl
  have g2 := hf 2 _ rfl
  have g3 := hf 3 _ rfl
  have g4 := hf 4 _ rfl
  have g5 := hf 5 _ rfl
  have g6 := hf 6 _ rfl
  have g7 := hf 7 _ rfl
  have g8 := hf 8 _ rfl
  have g9 := hf 9 _ rfl
  have g10 := hf 10 _ rfl
  have g11 := hf 11 _ rfl
  have g12 := hf 12 _ rfl
  have g13 := hf 13 _ rfl
  have g14 := hf 14 _ rfl
  have g15 := hf 15 _ rfl
  have g16 := hf 16 _ rfl
  clear hf hxl hlen hxy h
  simp only [List.getElem?_cons_zero, List.getElem?_cons_succ] at g0 g1 g2 g3 g4 g5 g6 g7 g8 g9 g10 g11 g12 g13 g14 g15 g16
  obtain ⟨n0, p0, _, _⟩ := DataW.trod_int Tryz.underlying3 g0
  obtain ⟨n1, p1, _, _⟩ := DataW.trod_int Tryz.underlying3 g1
  obtain ⟨n2, p2, _, _⟩ := DataW.trod_int Tryz.underlying3 g2
  obtain ⟨n3, p3, _, _⟩ := DataW.trod_int Tryz.underlying3 g3
  obtain ⟨n4, p4, _, _⟩ := DataW.trod_int Tryz.underlying3 g4
  obtain ⟨n5, p5, _, _⟩ := DataW.trod_int Tryz.underlying3 g5
  obtain ⟨n6, p6, _, _⟩ := DataW.trod_int Tryz.underlying3 g6
  obtain ⟨s7, p7, _, _⟩ := DataW.trod_string Tryz.underlying9 g7
  obtain ⟨v0, v1, v2, v3, v4, t8, m8, p8, i8, sm8⟩ := open_valW q _ _ g8 hw8
  obtain ⟨f9, c9, m9, p9, q9⟩ := open_po q _ _ g9
  obtain ⟨k0, k1, k2, k3, k4, p10⟩ := open_task q _ _ g10
  obtain ⟨b11, p11, _⟩ := DataW.trod_bool Tryz.underlying4 g11
  obtain ⟨b12, p12, _⟩ := DataW.trod_bool Tryz.underlying4 g12
  obtain ⟨ta, tc, tq, trows, p13, _, ht⟩ := open_rows Tryz.underlying38 cells38 (by decide) q _ _ g13 hw13
  obtain ⟨ua, uc, uq, urows, p14, _, hu⟩ := open_rows Tryz.underlying39 cells40 (by decide) q _ _ g14 hw14
  obtain ⟨o0, o1, o2, o3, o4, t15, m15, p15, i15, sm15⟩ := open_valW q _ _ g15 hw15
  obtain ⟨s16, p16, _, _⟩ := DataW.trod_string Tryz.underlying9 g16
  cases p0; cases p1; cases p2; cases p3; cases p4; cases p5; cases p6; cases p7; cases p8; cases p9; cases p10; cases p11; cases p12; cases p13; cases p14; cases p15; cases p16
  have inh1 : Inhabited Tm := ⟨⟨⟨#[]⟩, 0⟩⟩
  have inh2 : Inhabited (Up × Nat) := ⟨⟨⟨#[]⟩, t8, 0, t8⟩, 0⟩
  have et : ∀ i, i < trows.length → ∃ t : Tm, trows[i]? = some [.string t.s, .int .i64 t.d] := fun i hi => by
    obtain ⟨_, _, y, hy, _⟩ := ht i _ (List.getElem?_eq_getElem hi)
    obtain ⟨t, e, _⟩ := open_tm _ _ _ hy
    exact ⟨t, by rw [List.getElem?_eq_getElem hi, e]⟩
  have eu : ∀ i, i < urows.length → ∃ u : Up × Nat, ∃ r, urows[i]? = some r ∧ IsU (Is W u.2) r.toArray u.1 ∧ SmallW u.2 u.1.v ∧ SmallW u.2 u.1.o := fun i hi => by
    obtain ⟨_, _, y, hy, hz⟩ := hu i _ (List.getElem?_eq_getElem hi)
    obtain ⟨u, n, e⟩ := open_up _ _ _ hy hz
    exact ⟨(u, n), _, List.getElem?_eq_getElem hi, e⟩
  obtain ⟨FT, hFT⟩ := choose_lt et
  obtain ⟨FU, hFU⟩ := choose_lt eu
  obtain ⟨N, hN⟩ := fuel_lt (n := urows.length) (q := fun i N => (FU i).2 ≤ N) (fun _ _ _ h h' => Nat.le_trans h' h) (fun i _ => ⟨_, Nat.le_refl _⟩)
  have hup : ∀ (i : Nat) u, ((List.range urows.length).map fun i => (FU i).1)[i]? = some u → i < urows.length ∧ u = (FU i).1 := fun i u h => by
    have hi : i < urows.length := by have := (List.getElem?_eq_some_iff.1 h).1; simpa using this
    rw [List.getElem?_map, List.getElem?_range hi] at h
    cases h
    exact ⟨hi, rfl⟩
  refine ⟨⟨n0, n1, n2, n3, n4, n5, n6, s7, t8, f9, c9, m9, k0, k1, k2, k3, k4, b11, b12, (List.range trows.length).map FT, (List.range urows.length).map fun i => (FU i).1, t15, s16⟩, m8 + m15 + N, ?_, ⟨sm8.up (by omega), sm15.up (by omega), fun i u h => ?_⟩, q9⟩
  · refine { size := rfl, c0 := rfl, c1 := rfl, c2 := rfl, c3 := rfl, c4 := rfl, c5 := rfl, c6 := rfl, c7 := rfl, c13 := rfl, c14 := rfl, c15 := rfl, c16 := rfl, c17 := rfl, c18 := rfl, c19 := rfl, c20 := rfl, c21 := rfl, c22 := rfl, c30 := rfl, inp := isV5 (i8.up (by omega)) rfl rfl rfl rfl rfl, res := isV5 (i15.up (by omega)) rfl rfl rfl rfl rfl, tm := ⟨ta, tc, by simp, fun i r hr => ?_⟩, up := ⟨ua, uc, urows.map List.toArray, by simp, by simp, fun i r hr => ?_, fun i r u hr h => ?_⟩ }
    · have hi : i < trows.length := by have := (List.getElem?_eq_some_iff.1 hr).1; simpa using this
      rw [List.getElem?_map, List.getElem?_map, List.getElem?_range hi] at hr
      cases hr
      obtain ⟨_, ⟨B, o, h2, h3⟩, _⟩ := ht i _ (hFT i hi)
      refine ⟨rfl, fun j v hj => ?_, B, o, h2, trivial, fun j v hj => h3 j v (by simpa [Tm.cells] using hj)⟩
      have hj2 : [Value.string (FT i).s, .int .i64 (FT i).d][j]? = some v := by simpa [Tm.cells] using hj
      have hm := List.mem_of_getElem? hj2
      simp only [List.mem_cons, List.not_mem_nil, or_false] at hm
      rcases hm with rfl | rfl <;> rfl
    · have hi : i < urows.length := by have := (List.getElem?_eq_some_iff.1 hr).1; simpa using this
      obtain ⟨r', hr', e⟩ := hFU i hi
      rw [List.getElem?_map, hr'] at hr
      cases hr
      obtain ⟨h1, ⟨B, o, h2, h3⟩, _⟩ := hu i _ hr'
      exact ⟨by simpa using h1, e.1.one, B, o, h2, trivial, fun j v hj => h3 j v (by simpa using hj)⟩
    · obtain ⟨hi, rfl⟩ := hup i u h
      obtain ⟨r', hr', e⟩ := hFU i hi
      rw [List.getElem?_map, hr'] at hr
      cases hr
      exact e.1.map fun v t hv => hv.up (by have := hN i hi; omega)
  · obtain ⟨hi, rfl⟩ := hup i u h
    obtain ⟨r', hr', e⟩ := hFU i hi
    exact ⟨e.2.1.up (by have := hN i hi; omega), e.2.2.up (by have := hN i hi; omega)⟩
end Go.Proofs.YtcdhlklmnnmpoaaGreat
namespace Go.Proofs.YtcdhlklmnnmpoaaGreat
open Go.ChangeAt Go.ChangeShapes Go.Deep Go.RowKit Go.WideShapes
theorem IsC.one {R : Value → Tv → Prop} {cz : Array Value} {d : Cm} (h : IsC R cz d) (j : Nat) (v : Value) (hv : cz[j]? = some v) : v.oneCell' = true := by
  obtain ⟨vk, vx, vb, vs, la, ll, lc, rfl, _⟩ := h.lit
  have hj : j < 8 := (Array.getElem?_eq_some_iff.1 hv).1
  match j, hj, hv with
  | 0, _, hv => simp at hv; subst hv; rfl
  | 1, _, hv => simp at hv; subst hv; rfl
  | 2, _, hv => simp at hv; subst hv; rfl
  | 3, _, hv => simp at hv; subst hv; rfl
  | 4, _, hv => simp at hv; subst hv; rfl
  | 5, _, hv => simp at hv; subst hv; rfl
  | 6, _, hv => simp at hv; subst hv; rfl
  | 7, _, hv => simp at hv; subst hv; rfl
theorem lst3 {α : Type} : ∀ {l : List α}, l.length = 3 → ∃ e0 e1 e2, l = [e0, e1, e2]
  | [e0, e1, e2], _ => ⟨e0, e1, e2, rfl⟩
theorem lst4 {α : Type} : ∀ {l : List α}, l.length = 4 → ∃ e0 e1 e2 e3, l = [e0, e1, e2, e3]
  | [e0, e1, e2, e3], _ => ⟨e0, e1, e2, e3, rfl⟩
theorem lst7 {α : Type} : ∀ {l : List α}, l.length = 7 → ∃ e0 e1 e2 e3 e4 e5 e6, l = [e0, e1, e2, e3, e4, e5, e6]
  | [e0, e1, e2, e3, e4, e5, e6], _ => ⟨e0, e1, e2, e3, e4, e5, e6, rfl⟩
theorem lst8 {α : Type} : ∀ {l : List α}, l.length = 8 → ∃ e0 e1 e2 e3 e4 e5 e6 e7, l = [e0, e1, e2, e3, e4, e5, e6, e7]
  | [e0, e1, e2, e3, e4, e5, e6, e7], _ => ⟨e0, e1, e2, e3, e4, e5, e6, e7, rfl⟩
theorem cellsC27 : Tryz.prog.cellsOf 27 = 8 := by kernel_rfl
set_option maxRecDepth 100000 in
theorem open_cm {H : Type} {enc : TypeId × Value → H} {W : World} {base : Nat} {spare : Nat → Bool} {held : Bool} (fuel : Nat) (cs : List Value) (x : DataW H × List MemPlace) (h : DataW.trod enc Tryz.prog W base spare held fuel 27 cs = some x) (hwt : ∀ y ∈ x.1.weights Tryz.prog 27, y ≤ reachBytes) :
    ∃ (e : Cm) (n : Nat), IsC (Is W n) cs.toArray e ∧ SmallW n e.v := by
  obtain ⟨xs, q, hk, hxy, hlen, hxl, hf⟩ := DataW.trod_struct Tryz.underlying27 h
  rw [cellsC27] at hlen
  obtain ⟨a0, a1, a2, a3, a4, a5, a6, a7, rfl⟩ := lst8 hlen
  obtain ⟨y0, y1, y2, y3, rfl⟩ := lst4 (l := xs) hxl
  have hw5 : ∀ y ∈ y2.1.weights Tryz.prog 25, y ≤ reachBytes := fun y hy => by
    apply hwt
    rw [hxy]
    simp only [DataW.weights, Tryz.underlying27]
    exact DataW.weights_mem_each (j := 2) rfl rfl y hy
  clear hwt
  have g0 := hf 0 _ rfl
  have g1 := hf 1 _ rfl
  have g2 := hf 2 _ rfl
  have g3 := hf 3 _ rfl
  clear hf hxl hlen hxy h
  simp only [List.getElem?_cons_zero, List.getElem?_cons_succ] at g0 g1 g2 g3
  obtain ⟨n0, p0, _, _⟩ := DataW.trod_int Tryz.underlying3 g0
  obtain ⟨n1, p1, _, _⟩ := DataW.trod_string Tryz.underlying9 g1
  obtain ⟨v0, v1, v2, v3, v4, n2, m2, p2, i2, sm2⟩ := open_valW q _ _ g2 hw5
  obtain ⟨n3, p3, _, _⟩ := DataW.trod_int Tryz.underlying3 g3
  cases p0; cases p1; cases p2; cases p3
  exact ⟨⟨n0, n1, n2, n3⟩, m2, ⟨rfl, rfl, rfl, isV5 i2 rfl rfl rfl rfl rfl, rfl⟩, sm2⟩
theorem open_cms {H : Type} {enc : TypeId × Value → H} {W : World} {base : Nat} {spare : Nat → Bool} {held : Bool} (fuel : Nat) (cs : List Value) (x : DataW H × List MemPlace) (h : DataW.trod enc Tryz.prog W base spare held fuel 28 cs = some x) (hwt : ∀ y ∈ x.1.weights Tryz.prog 28, y ≤ reachBytes) :
    ∃ (a : Option Addr) (c : Nat) (l : List Cm) (n : Nat), cs = [.slice a l.length c] ∧ l.length ≤ c ∧ l.length ≤ 9223372036854775807 ∧ LkC (fun b => b < W.heap.size) (IsP (fun b => b < W.heap.size) W (n + 1)) W a l ∧ ∀ (i : Nat) e, l[i]? = some e → SmallW (n + 1) e.v := by
  have hcap : ∀ a n c, cs = [.slice a n c] → n ≤ c := fun a n c e => by
    rcases DataW.trod_slice Tryz.underlying28 h with ⟨h4, _⟩ | ⟨a', len, cap, elems, rest, q, hq, h4, _, _, hl, _⟩
    · rw [e] at h4; cases h4; exact Nat.le_refl _
    · rw [e] at h4; cases h4; exact hl
  obtain ⟨a, cap, q, rows, hcs, hmax, hr⟩ := open_rows Tryz.underlying28 cellsC27 (by decide) fuel _ _ h hwt
  have inh : Inhabited (Cm × Nat) := ⟨⟨0, ⟨#[]⟩, zE, 0⟩, 0⟩
  have each : ∀ i, i < rows.length → ∃ u : Cm × Nat, ∃ r, rows[i]? = some r ∧ IsC (Is W u.2) r.toArray u.1 ∧ SmallW u.2 u.1.v := fun i hi => by
    obtain ⟨_, _, y, hy, hz⟩ := hr i _ (List.getElem?_eq_getElem hi)
    obtain ⟨e, n, g⟩ := open_cm _ _ _ hy hz
    exact ⟨(e, n), _, List.getElem?_eq_getElem hi, g⟩
  obtain ⟨F, hF⟩ := choose_lt each
  obtain ⟨N, hN⟩ := fuel_lt (n := rows.length) (q := fun i N => (F i).2 ≤ N) (fun _ _ _ h h' => Nat.le_trans h' h) (fun i _ => ⟨_, Nat.le_refl _⟩)
  have hl : ((List.range rows.length).map fun i => (F i).1).length = rows.length := by simp
  have hget : ∀ (i : Nat) e, ((List.range rows.length).map fun i => (F i).1)[i]? = some e → i < rows.length ∧ e = (F i).1 := fun i e h => by
    have hi : i < rows.length := by have := (List.getElem?_eq_some_iff.1 h).1; simpa using this
    rw [List.getElem?_map, List.getElem?_range hi] at h
    cases h
    exact ⟨hi, rfl⟩
  refine ⟨a, cap, (List.range rows.length).map fun i => (F i).1, N, by rw [hl]; exact hcs, by rw [hl]; exact hcap _ _ _ hcs, by rw [hl]; exact hmax, ⟨rows.map List.toArray, by simp, fun i r h => ?_, fun i r e h he => ?_⟩, fun i e he => ?_⟩
  · have hi : i < rows.length := by have := (List.getElem?_eq_some_iff.1 h).1; simpa using this
    obtain ⟨r', hr', g⟩ := hF i hi
    rw [List.getElem?_map, hr'] at h
    cases h
    obtain ⟨h1, ⟨B, o, h2, h3⟩, _⟩ := hr i _ hr'
    refine ⟨by simpa using h1, g.1.one, B, o, h2, ?_, fun j v hj => h3 j v (by simpa using hj)⟩
    exact World.block_lt_of_cell? W ⟨B, o + i * 8 + 0, none⟩ (h3 0 _ (List.getElem?_eq_getElem (by omega)))
  · obtain ⟨hi, rfl⟩ := hget i e he
    obtain ⟨r', hr', g⟩ := hF i hi
    rw [List.getElem?_map, hr'] at h
    cases h
    exact g.1.map fun v t hv => Is.lt (hv.up (by have := hN i hi; omega))
  · obtain ⟨hi, rfl⟩ := hget i e he
    obtain ⟨r', hr', g⟩ := hF i hi
    exact g.2.up (by have := hN i hi; omega)
theorem cellsC48 : Tryz.prog.cellsOf 48 = 7 := by kernel_rfl
set_option maxRecDepth 100000 in
theorem open_ak {H : Type} {enc : TypeId × Value → H} {W : World} {base : Nat} {spare : Nat → Bool} {held : Bool} (fuel : Nat) (cs : List Value) (x : DataW H × List MemPlace) (h : DataW.trod enc Tryz.prog W base spare held fuel 48 cs = some x) (hwt : ∀ y ∈ x.1.weights Tryz.prog 48, y ≤ reachBytes) :
    ∃ (e : Ak) (n : Nat), IsA (Is W n) cs.toArray e ∧ SmallW n e.v := by
  obtain ⟨xs, q, hk, hxy, hlen, hxl, hf⟩ := DataW.trod_struct Tryz.underlying48 h
  rw [cellsC48] at hlen
  obtain ⟨a0, a1, a2, a3, a4, a5, a6, rfl⟩ := lst7 hlen
  obtain ⟨y0, y1, y2, rfl⟩ := lst3 (l := xs) hxl
  have hw5 : ∀ y ∈ y2.1.weights Tryz.prog 25, y ≤ reachBytes := fun y hy => by
    apply hwt
    rw [hxy]
    simp only [DataW.weights, Tryz.underlying48]
    exact DataW.weights_mem_each (j := 2) rfl rfl y hy
  clear hwt
  have g0 := hf 0 _ rfl
  have g1 := hf 1 _ rfl
  have g2 := hf 2 _ rfl
  clear hf hxl hlen hxy h
  simp only [List.getElem?_cons_zero, List.getElem?_cons_succ] at g0 g1 g2
  obtain ⟨n0, p0, _, _⟩ := DataW.trod_int Tryz.underlying3 g0
  obtain ⟨n1, p1, _, _⟩ := DataW.trod_string Tryz.underlying9 g1
  obtain ⟨v0, v1, v2, v3, v4, n2, m2, p2, i2, sm2⟩ := open_valW q _ _ g2 hw5
  cases p0; cases p1; cases p2
  exact ⟨⟨n0, n1, n2⟩, m2, ⟨rfl, rfl, rfl, isV5 i2 rfl rfl rfl rfl rfl⟩, sm2⟩
theorem open_aks {H : Type} {enc : TypeId × Value → H} {W : World} {base : Nat} {spare : Nat → Bool} {held : Bool} (fuel : Nat) (cs : List Value) (x : DataW H × List MemPlace) (h : DataW.trod enc Tryz.prog W base spare held fuel 42 cs = some x) (hwt : ∀ y ∈ x.1.weights Tryz.prog 42, y ≤ reachBytes) :
    ∃ (a : Option Addr) (c : Nat) (l : List Ak) (n : Nat), cs = [.slice a l.length c] ∧ l.length ≤ c ∧ l.length ≤ 9223372036854775807 ∧ LkA (fun b => b < W.heap.size) (IsP (fun b => b < W.heap.size) W (n + 1)) W a l ∧ ∀ (i : Nat) e, l[i]? = some e → SmallW (n + 1) e.v := by
  have hcap : ∀ a n c, cs = [.slice a n c] → n ≤ c := fun a n c e => by
    rcases DataW.trod_slice Tryz.underlying42 h with ⟨h4, _⟩ | ⟨a', len, cap, elems, rest, q, hq, h4, _, _, hl, _⟩
    · rw [e] at h4; cases h4; exact Nat.le_refl _
    · rw [e] at h4; cases h4; exact hl
  obtain ⟨a, cap, q, rows, hcs, hmax, hr⟩ := open_rows Tryz.underlying42 cellsC48 (by decide) fuel _ _ h hwt
  have inh : Inhabited (Ak × Nat) := ⟨⟨0, ⟨#[]⟩, zE⟩, 0⟩
  have each : ∀ i, i < rows.length → ∃ u : Ak × Nat, ∃ r, rows[i]? = some r ∧ IsA (Is W u.2) r.toArray u.1 ∧ SmallW u.2 u.1.v := fun i hi => by
    obtain ⟨_, _, y, hy, hz⟩ := hr i _ (List.getElem?_eq_getElem hi)
    obtain ⟨e, n, g⟩ := open_ak _ _ _ hy hz
    exact ⟨(e, n), _, List.getElem?_eq_getElem hi, g⟩
  obtain ⟨F, hF⟩ := choose_lt each
  obtain ⟨N, hN⟩ := fuel_lt (n := rows.length) (q := fun i N => (F i).2 ≤ N) (fun _ _ _ h h' => Nat.le_trans h' h) (fun i _ => ⟨_, Nat.le_refl _⟩)
  have hl : ((List.range rows.length).map fun i => (F i).1).length = rows.length := by simp
  have hget : ∀ (i : Nat) e, ((List.range rows.length).map fun i => (F i).1)[i]? = some e → i < rows.length ∧ e = (F i).1 := fun i e h => by
    have hi : i < rows.length := by have := (List.getElem?_eq_some_iff.1 h).1; simpa using this
    rw [List.getElem?_map, List.getElem?_range hi] at h
    cases h
    exact ⟨hi, rfl⟩
  refine ⟨a, cap, (List.range rows.length).map fun i => (F i).1, N, by rw [hl]; exact hcs, by rw [hl]; exact hcap _ _ _ hcs, by rw [hl]; exact hmax, ⟨rows.map List.toArray, by simp, fun i r h => ?_, fun i r e h he => ?_⟩, fun i e he => ?_⟩
  · have hi : i < rows.length := by have := (List.getElem?_eq_some_iff.1 h).1; simpa using this
    obtain ⟨r', hr', g⟩ := hF i hi
    rw [List.getElem?_map, hr'] at h
    cases h
    obtain ⟨h1, ⟨B, o, h2, h3⟩, _⟩ := hr i _ hr'
    refine ⟨by simpa using h1, g.1.one, B, o, h2, ?_, fun j v hj => h3 j v (by simpa using hj)⟩
    exact World.block_lt_of_cell? W ⟨B, o + i * 7 + 0, none⟩ (h3 0 _ (List.getElem?_eq_getElem (by omega)))
  · obtain ⟨hi, rfl⟩ := hget i e he
    obtain ⟨r', hr', g⟩ := hF i hi
    rw [List.getElem?_map, hr'] at h
    cases h
    exact g.1.map fun v t hv => Is.lt (hv.up (by have := hN i hi; omega))
  · obtain ⟨hi, rfl⟩ := hget i e he
    obtain ⟨r', hr', g⟩ := hF i hi
    exact g.2.up (by have := hN i hi; omega)
theorem ck_exact {P : Prop} {F : Nat} {args : Array Value} {w : World} (h : Calls Tryz.prog F args w (CkP P w)) : (P → Calls Tryz.prog F args w fun e w' => e = .returned (.int .i64 0) ∧ Below w.heap.size w w') ∧ (¬ P → Calls Tryz.prog F args w fun e w' => e = .returned (.int .i64 1) ∧ Below w.heap.size w w') :=
  ⟨fun hp => h.mono fun e w' ⟨r, a, b, _, d⟩ => ⟨by rw [a, b hp], d⟩, fun hp => h.mono fun e w' ⟨r, a, _, c, d⟩ => ⟨by rw [a, c hp], d⟩⟩
theorem checks_walk (n0 : Nat) (c : Cm) (cz : Array Value) (a : Option Addr) (cap : Nat) (l : List Cm) (n1 : Nat) (w : World) (h : IsC (Is w n0) cz c) (hl : l.length ≤ 9223372036854775807) (hL : LkC (fun b => b < w.heap.size) (IsP (fun b => b < w.heap.size) w (n1 + 1)) w a l) : Calls Tryz.prog 3 #[.agg cz, .slice a l.length cap] w fun e w' => e = .returned (.bool true) ∧ Below w.heap.size w w' := by
  obtain ⟨vk, vx, vb, vs, la, ll, lc, rfl, hv⟩ := h.lit
  cases n0 with
  | zero => exact hv.elim
  | succ n0 =>
    obtain ⟨bc, h8, h9⟩ : ∃ bc, (∀ W, Below w.heap.size w W → Calls Tryz.prog 8 #[.slice a l.length cap] W fun e w' => e = .returned (.bool bc) ∧ Below W.heap.size W w') ∧ (∀ W, Below w.heap.size w W → Calls Tryz.prog 9 #[.slice a l.length cap] W fun e w' => e = .returned (.bool bc) ∧ Below W.heap.size W w') := by
      rcases Nat.eq_zero_or_pos l.length with e | e
      · rw [e]
        exact ⟨false, fun W _ => closes0_calls a cap W, fun W _ => rcloses0_calls a cap W⟩
      · obtain ⟨m, hm⟩ : ∃ m, l.length = m + 1 := ⟨l.length - 1, by omega⟩
        obtain ⟨rows, q1, q2, q3⟩ := hL
        obtain ⟨r, hr⟩ : ∃ r, rows[m]? = some r := ⟨_, List.getElem?_eq_getElem (by omega)⟩
        obtain ⟨x, hx⟩ : ∃ x, l[m]? = some x := ⟨_, List.getElem?_eq_getElem (by omega)⟩
        obtain ⟨_, _, B, o, rfl, _, hs⟩ := q2 m r hr
        obtain ⟨uk, ux, ub, us, ua, ul, uc, rfl, _⟩ := (q3 m r x hr hx).lit
        rw [hm]
        exact ⟨clo x.k, fun W hb => closes1_calls x.k x.s uk ux ub us ua ul uc x.d B o m cap (by omega) W (hs.below hb 0 _ rfl) (hs.below hb 1 _ rfl) (hs.below hb 2 _ rfl) (hs.below hb 3 _ rfl) (hs.below hb 4 _ rfl) (hs.below hb 5 _ rfl) (hs.below hb 6 _ rfl) (hs.below hb 7 _ rfl), fun W hb => rcloses1_calls x.k x.s uk ux ub us ua ul uc x.d B o m cap (by omega) W (hs.below hb 0 _ rfl) (hs.below hb 1 _ rfl) (hs.below hb 2 _ rfl) (hs.below hb 3 _ rfl) (hs.below hb 4 _ rfl) (hs.below hb 5 _ rfl) (hs.below hb 6 _ rfl) (hs.below hb 7 _ rfl)⟩
    have k6 := fun W (hb : Below w.heap.size w W) => ck_exact (ccheck_calls n0 c.v c.k c.s vk vx vb vs la ll lc c.d W (hv.below hb))
    have k7 := fun W (hb : Below w.heap.size w W) => ck_exact (rccheck_calls n0 c.v c.k c.s vk vx vb vs la ll lc c.d W (hv.below hb))
    by_cases hM : MayC (n0 + 1) ⟨c.k, c.s, c.v, c.d⟩
    · exact checks_gen c.k c.s vk vx vb vs la ll lc c.d 0 bc _ w (fun W hb => (k6 W hb).1 hM) (fun W hb => (k7 W hb).1 hM) h8 h9
    · exact checks_gen c.k c.s vk vx vb vs la ll lc c.d 1 bc _ w (fun W hb => (k6 W hb).2 hM) (fun W hb => (k7 W hb).2 hM) h8 h9
end Go.Proofs.YtcdhlklmnnmpoaaGreat
namespace Go.Proofs.YtcdhlklmnnmpoaaGreat
open Go.ChangeShapes Go.WideShapes Go.ChangeAt Go.RowKit
theorem get_take {α : Type} {l : List α} {m i : Nat} {x : α} (h : (l.take m)[i]? = some x) : l[i]? = some x := by
  rw [List.getElem?_take] at h
  split at h
  · exact h
  · cases h
/-- Events one behind the other. -/
def LkE (ok : Nat → Prop) (R : Value → Tv → Prop) (w : World) (a : Option Addr) (l : List Ev) : Prop :=
  ∃ rows : List (Array Value), rows.length = l.length ∧ RowS ok w a 13 rows ∧ ∀ (i : Nat) r e, rows[i]? = some r → l[i]? = some e → IsEv R r e
theorem LkE.below {w w' : World} {n : Nat} {a : Option Addr} {l : List Ev} (h : LkE (fun _ => True) (Is w n) w a l) (hb : Below w.heap.size w w') : LkE (fun _ => True) (Is w' n) w' a l := by
  obtain ⟨rows, h1, h2, h3⟩ := h
  exact ⟨rows, h1, h2.map (fun _ _ h => h) (fun _ _ _ hv => (hb.cell (World.block_lt_of_cell? w _ hv)).trans hv) (by decide), fun i r e hr he => (h3 i r e hr he).map fun _ _ hx => hx.below hb⟩
theorem LkA.below {w w' : World} {n : Nat} {a : Option Addr} {l : List Ak} (h : LkA (fun _ => True) (Is w n) w a l) (hb : Below w.heap.size w w') : LkA (fun _ => True) (Is w' n) w' a l := by
  obtain ⟨rows, h1, h2, h3⟩ := h
  exact ⟨rows, h1, h2.map (fun _ _ h => h) (fun _ _ _ hv => (hb.cell (World.block_lt_of_cell? w _ hv)).trans hv) (by decide), fun i r e hr he => (h3 i r e hr he).map fun _ _ hx => hx.below hb⟩
theorem LkE.take {R : Value → Tv → Prop} {w : World} {a : Option Addr} {l : List Ev} (h : LkE (fun _ => True) R w a l) (m : Nat) : LkE (fun _ => True) R w a (l.take m) := by
  obtain ⟨rows, h1, h2, h3⟩ := h
  exact ⟨rows.take m, by simp [h1], fun i r hr => h2 i r (get_take hr), fun i r e hr he => h3 i r e (get_take hr) (get_take he)⟩
theorem LkA.take {R : Value → Tv → Prop} {w : World} {a : Option Addr} {l : List Ak} (h : LkA (fun _ => True) R w a l) (m : Nat) : LkA (fun _ => True) R w a (l.take m) := by
  obtain ⟨rows, h1, h2, h3⟩ := h
  exact ⟨rows.take m, by simp [h1], fun i r hr => h2 i r (get_take hr), fun i r e hr he => h3 i r e (get_take hr) (get_take he)⟩
theorem own_rows {w : World} {lo t k : Nat} {a : Option Addr} {n c : Nat} {rows : List (Array Value)} (h : w.ownsRow lo t k (.slice a n c) rows.length (rows.flatMap Array.toList)) (hs : ∀ (i : Nat) r, rows[i]? = some r → r.size = k ∧ ∀ (j : Nat) (v : Value), r[j]? = some v → v.oneCell' = true) : RowS (fun _ => True) w a k rows := fun i r hr => by
  have h0 := h
  obtain ⟨_, ⟨e, hn0⟩ | ⟨g, cap, cur, e, _, hg, _⟩⟩ := h0
  · exfalso
    have := (List.getElem?_eq_some_iff.1 hr).1
    omega
  · injection e with e1 e2 e3
    refine ⟨(hs i r hr).1, (hs i r hr).2, g, 0, e1, trivial, fun j v hj => ?_⟩
    have hf : (rows.flatMap Array.toList)[i * k + j]? = some v := flat_get (fun i r hr => (hs i r hr).1) hr hj
    have := h.cells (g := g) (by rw [e1]; rfl) (i * k + j) v hf
    rw [add_plain] at this
    rwa [show 0 + (i * k + j) = 0 + i * k + j from by omega] at this
theorem DrI.evs {lo Bd n : Nat} {va : Value} {d : Dr} {w : World} {cs : Array Value} {vr : Value} {ea : Option Addr} {en ec : Nat} {es rs : List (Array Value)} (h : DrI lo Bd n va d w cs (.slice ea en ec) vr es rs) : LkE (fun _ => True) (Is w n) w ea d.ev := by
  have hi : ∀ (i : Nat) r, es[i]? = some r → ∃ e, d.ev[i]? = some e ∧ IsEv (Is w n) r e := fun i r hr => by
    obtain ⟨e, he⟩ : ∃ e, d.ev[i]? = some e := ⟨_, List.getElem?_eq_getElem (by have := (List.getElem?_eq_some_iff.1 hr).1; have := h.evl; omega)⟩
    exact ⟨e, he, (h.evi i r e hr he).map fun _ _ hx => hx.is⟩
  exact ⟨es, h.evl, own_rows h.evo (fun i r hr => by obtain ⟨e, _, g⟩ := hi i r hr; exact ⟨g.size, g.one⟩), fun i r e hr he => (h.evi i r e hr he).map fun _ _ hx => hx.is⟩
theorem DrI.rfs {lo Bd n : Nat} {va : Value} {d : Dr} {w : World} {cs : Array Value} {ve : Value} {ra : Option Addr} {rn rc : Nat} {es rs : List (Array Value)} (h : DrI lo Bd n va d w cs ve (.slice ra rn rc) es rs) : LkA (fun _ => True) (Is w n) w ra d.rf := by
  have hi : ∀ (i : Nat) r, rs[i]? = some r → ∃ e, d.rf[i]? = some e ∧ IsA (Is w n) r e := fun i r hr => by
    obtain ⟨e, he⟩ : ∃ e, d.rf[i]? = some e := ⟨_, List.getElem?_eq_getElem (by have := (List.getElem?_eq_some_iff.1 hr).1; have := h.rfn; omega)⟩
    exact ⟨e, he, (h.rfi i r e hr he).map fun _ _ hx => hx.is⟩
  exact ⟨rs, h.rfn, own_rows h.rfo (fun i r hr => by obtain ⟨e, _, g⟩ := hi i r hr; exact ⟨g.size, g.one⟩), fun i r e hr he => (h.rfi i r e hr he).map fun _ _ hx => hx.is⟩
set_option maxHeartbeats 4000000 in
set_option maxRecDepth 100000 in
theorem evsame_lit (n : Nat) (x : Ev) (pk px pb : Int) (ps : ByteArray) (pl : Option Addr) (pm pc : Nat) (qk qx qb : Int) (qs : ByteArray) (ql : Option Addr) (qm qc : Nat) (w : World) (hp : Is w n (.agg #[.int .i64 pk, .int .i64 px, .int .u64 pb, .string ps, .slice pl pm pc]) x.v) (hq : Is w n (.agg #[.int .i64 qk, .int .i64 qx, .int .u64 qb, .string qs, .slice ql qm qc]) x.v) :
    Calls Tryz.prog 44 #[.agg #[.int .i64 x.k, .int .i64 x.t, .int .i64 x.n, .int .i64 x.d, .string x.s, .int .i64 pk, .int .i64 px, .int .u64 pb, .string ps, .slice pl pm pc, .int .i64 x.f, .int .u64 (x.c : Int), .int .i64 x.m], .agg #[.int .i64 x.k, .int .i64 x.t, .int .i64 x.n, .int .i64 x.d, .string x.s, .int .i64 qk, .int .i64 qx, .int .u64 qb, .string qs, .slice ql qm qc, .int .i64 x.f, .int .u64 (x.c : Int), .int .i64 x.m]] w fun e w' => e = .returned (.bool true) ∧ Below w.heap.size w w' := by
  have KS : Hid (∀ W, Below w.heap.size w W → Calls Tryz.prog 22 #[(.agg #[.int .i64 pk, .int .i64 px, .int .u64 pb, .string ps, .slice pl pm pc]), (.agg #[.int .i64 qk, .int .i64 qx, .int .u64 qb, .string qs, .slice ql qm qc])] W fun e w' => e = .returned (.bool true) ∧ Below W.heap.size W w') := fun W hb => (rsame_calls n _ _ _ _ W (hp.below hb) (hq.below hb)).mono fun e w' ⟨⟨r, a, b⟩, c⟩ => ⟨by rw [a, b.2 rfl], c⟩
  clear hp hq
  go_enter Tryz.func44, Tryz.ntmps44
  go_wp2_with fail
  refine (KS.out _ (bel2 (bel1 _ _) (bel1 _ _))).mono ?_
  rintro e w1 ⟨rfl, hb⟩
  have HB : Hid (Below w.heap.size w w1) := bel2 (bel2 (bel1 _ _) (bel1 _ _)) hb
  have r0 := row_below hb (heap_alloc2_old w (.cells #[.int .i64 x.k, .int .i64 x.t, .int .i64 x.n, .int .i64 x.d, .string x.s, .int .i64 pk, .int .i64 px, .int .u64 pb, .string ps, .slice pl pm pc, .int .i64 x.f, .int .u64 (x.c : Int), .int .i64 x.m] 54) (.cells #[.int .i64 x.k, .int .i64 x.t, .int .i64 x.n, .int .i64 x.d, .string x.s, .int .i64 qk, .int .i64 qx, .int .u64 qb, .string qs, .slice ql qm qc, .int .i64 x.f, .int .u64 (x.c : Int), .int .i64 x.m] 54))
  have r1 := row_below hb (heap_alloc2_new w (.cells #[.int .i64 x.k, .int .i64 x.t, .int .i64 x.n, .int .i64 x.d, .string x.s, .int .i64 pk, .int .i64 px, .int .u64 pb, .string ps, .slice pl pm pc, .int .i64 x.f, .int .u64 (x.c : Int), .int .i64 x.m] 54) (.cells #[.int .i64 x.k, .int .i64 x.t, .int .i64 x.n, .int .i64 x.d, .string x.s, .int .i64 qk, .int .i64 qx, .int .u64 qb, .string qs, .slice ql qm qc, .int .i64 x.f, .int .u64 (x.c : Int), .int .i64 x.m] 54))
  have a10 : w1.cell? ⟨w.heap.size, 10, none⟩ = some (.int .i64 x.f) := row_cell r0 rfl
  have b10 : w1.cell? ⟨w.heap.size + 1, 10, none⟩ = some (.int .i64 x.f) := row_cell r1 rfl
  have a11 : w1.cell? ⟨w.heap.size, 11, none⟩ = some (.int .u64 (x.c : Int)) := row_cell r0 rfl
  have b11 : w1.cell? ⟨w.heap.size + 1, 11, none⟩ = some (.int .u64 (x.c : Int)) := row_cell r1 rfl
  have a12 : w1.cell? ⟨w.heap.size, 12, none⟩ = some (.int .i64 x.m) := row_cell r0 rfl
  have b12 : w1.cell? ⟨w.heap.size + 1, 12, none⟩ = some (.int .i64 x.m) := row_cell r1 rfl
  clear hb r0 r1
  go_wp2_with fail
  go_ret
  exact ⟨rfl, HB.out⟩
theorem evsame_calls (n : Nat) (x : Ev) (ra rb : Array Value) (w : World) (ha : IsEv (Is w n) ra x) (hb : IsEv (Is w n) rb x) : Calls Tryz.prog 44 #[.agg ra, .agg rb] w fun e w' => e = .returned (.bool true) ∧ Below w.heap.size w w' := by
  obtain ⟨pk, px, pb, ps, pl, pm, pc, rfl, hp⟩ := ha.lit
  obtain ⟨qk, qx, qb, qs, ql, qm, qc, rfl, hq⟩ := hb.lit
  exact evsame_lit n x pk px pb ps pl pm pc qk qx qb qs ql qm qc w hp hq
set_option maxHeartbeats 4000000 in
set_option maxRecDepth 100000 in
theorem common_calls (n : Nat) (l : List Ev) (aa ab : Option Addr) (ca cb : Nat) (w : World) (hl : l.length ≤ 1000) (ha : LkE (fun _ => True) (Is w n) w aa l) (hb : LkE (fun _ => True) (Is w n) w ab l) : Calls Tryz.prog 30 #[.slice aa l.length ca, .slice ab l.length cb] w fun e w' => e = .returned (.int .i64 (l.length : Int)) ∧ Below w.heap.size w w' := by
  have HA : Hid (LkE (fun _ => True) (Is w n) w aa l) := ha
  have HB : Hid (LkE (fun _ => True) (Is w n) w ab l) := hb
  have HL : Hid (l.length ≤ 1000) := hl
  clear ha hb hl
  generalize hN : l.length = N
  have HN : Hid (l.length = N) := hN
  clear hN
  go_enter Tryz.func30, Tryz.ntmps30
  go_wp2_with fail
  go_loopw [5] (fun i wr => ∃ j : Nat, j ≤ N ∧ i = .int .i64 (j : Int) ∧ Hid (Below w.heap.size w wr)) (fun i _ => N - (intOf i).toNat)
  case atStart => exact ⟨0, Nat.zero_le _, rfl, Below.refl _ _⟩
  case round =>
    obtain ⟨j, hj, rfl, HBw⟩ := hrel
    by_cases hlt : j < N
    · obtain ⟨x, hx⟩ : ∃ x, l[j]? = some x := ⟨_, List.getElem?_eq_getElem (by have := HN.out; omega)⟩
      obtain ⟨rowa, a1, a2, a3⟩ := HA.out
      obtain ⟨rowb, b1, b2, b3⟩ := HB.out
      obtain ⟨ra, hra⟩ : ∃ r, rowa[j]? = some r := ⟨_, List.getElem?_eq_getElem (by have := HN.out; omega)⟩
      obtain ⟨rb, hrb⟩ : ∃ r, rowb[j]? = some r := ⟨_, List.getElem?_eq_getElem (by have := HN.out; omega)⟩
      obtain ⟨za, _, Ba, oa, rfl, _, la⟩ := a2 j ra hra
      obtain ⟨zb, _, Bb, ob, rfl, _, lb⟩ := b2 j rb hrb
      have ea := a3 j ra x hra hx
      have eb := b3 j rb x hrb hx
      have KS : Hid (∀ W, Below wr.heap.size wr W → Calls Tryz.prog 44 #[.agg ra, .agg rb] W fun e w' => e = .returned (.bool true) ∧ Below W.heap.size W w') := fun W hb => evsame_calls n x ra rb W (ea.map fun _ _ h => h.below (bel2 HBw.out hb)) (eb.map fun _ _ h => h.below (bel2 HBw.out hb))
      have ia : (Tryz.prog.info? 54).map (·.size) = some ra.toList.length := rfl13 za
      have ib : (Tryz.prog.info? 54).map (·.size) = some rb.toList.length := rfl13 zb
      have ga : wr.rangeAt Ba (oa + j * 13) ra.toList := fun i v hv => cellW (lies_range la i v hv) HBw.out
      have gb : wr.rangeAt Bb (ob + j * 13) rb.toList := fun i v hv => cellW (lies_range lb i v hv) HBw.out
      have hjl : (j : Int) < (N : Int) := by omega
      have HW1 : Hid (wrap64 ((j : Int) + 1) = ((j + 1 : Nat) : Int)) := wr1 hlt (by have := HN.out; have := HL.out; omega)
      clear a1 a2 a3 b1 b2 b3 hra hrb za zb la lb ea eb hx
      go_upto_region 2 with fail
      refine wp_region_held_drew (S := (fun w' => w'.rangeAt Ba (oa + j * 13) ra.toList ∧ w'.rangeAt Bb (ob + j * 13) rb.toList)) (by kernel_rfl) ⟨ga, gb⟩ (fun hHeld => ?_)
      change wpAnyH _ _ _ _ _ _ _ _ (World.drew _)
      refine wpAnyH_take (i := 0) (oi := { dst := some 6, op := Go.Op.move (Go.Operand.tmp 5), type := 3, pos := "ref.go:82", after := #[], guard := none }) (v := ?_) rfl (by kernel_rfl) (by kernel_rfl) (by kernel_rfl) (fun _ _ _ h => h) (Or.inl ⟨by rfl, ?_⟩) hHeld ?_
      rotate_left 1
      · (intro w hSw; (try dsimp only at hSw); go_simp <;> with_reducible rfl)
      simp only [Act.put, List.setIfInBounds_toArray, List.set_cons_zero, List.set_cons_succ]
      refine wpAnyH_take (i := 1) (oi := { dst := some 7, op := Go.Op.move (Go.Operand.tmp 0), type := 44, pos := "ref.go:82", after := #[], guard := none }) (v := ?_) rfl (by kernel_rfl) (by kernel_rfl) (by kernel_rfl) (fun _ _ _ h => h) (Or.inl ⟨by rfl, ?_⟩) hHeld ?_
      rotate_left 1
      · (intro w hSw; (try dsimp only at hSw); go_simp <;> with_reducible rfl)
      simp only [Act.put, List.setIfInBounds_toArray, List.set_cons_zero, List.set_cons_succ]
      refine wpAnyH_take (i := 2) (oi := { dst := some 8, op := Go.Op.call { callee := Go.Callee.builtin Go.Builtin.len, args := #[Go.Operand.tmp 7], argTypes := #[44] }, type := 3, pos := "ref.go:82", after := #[{ on := 1, ground := Go.Ground.data }], guard := none }) (v := ?_) rfl (by kernel_rfl) (by kernel_rfl) (by kernel_rfl) (fun _ _ _ h => h) (Or.inl ⟨by rfl, ?_⟩) hHeld ?_
      rotate_left 1
      · (intro w hSw; (try dsimp only at hSw); go_simp <;> with_reducible rfl)
      simp only [Act.put, List.setIfInBounds_toArray, List.set_cons_zero, List.set_cons_succ]
      refine wpAnyH_take (i := 3) (oi := { dst := some 9, op := Go.Op.binOp Go.BinOp.lss 3 (Go.Operand.tmp 6) (Go.Operand.tmp 8) 3, type := 4, pos := "ref.go:82", after := #[{ on := 0, ground := Go.Ground.data }, { on := 2, ground := Go.Ground.data }], guard := none }) (v := ?_) rfl (by kernel_rfl) (by kernel_rfl) (by kernel_rfl) (fun _ _ _ h => h) (Or.inl ⟨by rfl, ?_⟩) hHeld ?_
      rotate_left 1
      · (intro w hSw; (try dsimp only at hSw); go_simp <;> with_reducible rfl)
      simp only [Act.put, List.setIfInBounds_toArray, List.set_cons_zero, List.set_cons_succ]
      refine wpAnyH_take (i := 4) (oi := { dst := some 10, op := Go.Op.move (Go.Operand.tmp 9), type := 4, pos := "ref.go:82", after := #[{ on := 3, ground := Go.Ground.data }], guard := none }) (v := ?_) rfl (by kernel_rfl) (by kernel_rfl) (by kernel_rfl) (fun _ _ _ h => h) (Or.inl ⟨by rfl, ?_⟩) hHeld ?_
      rotate_left 1
      · (intro w hSw; (try dsimp only at hSw); go_simp <;> with_reducible rfl)
      simp only [Act.put, List.setIfInBounds_toArray, List.set_cons_zero, List.set_cons_succ]
      refine wpAnyH_take (i := 5) (oi := { dst := some 11, op := Go.Op.move (Go.Operand.tmp 5), type := 3, pos := "ref.go:82", after := #[{ on := 4, ground := Go.Ground.guard }], guard := some (4, true) }) (v := ?_) rfl (by kernel_rfl) (by kernel_rfl) (by kernel_rfl) (fun _ _ _ h => h) (Or.inl ⟨by rfl, ?_⟩) hHeld ?_
      rotate_left 1
      · (intro w hSw; (try dsimp only at hSw); go_simp <;> with_reducible rfl)
      simp only [Act.put, List.setIfInBounds_toArray, List.set_cons_zero, List.set_cons_succ]
      refine wpAnyH_take (i := 6) (oi := { dst := some 12, op := Go.Op.move (Go.Operand.tmp 1), type := 44, pos := "ref.go:82", after := #[{ on := 4, ground := Go.Ground.guard }], guard := some (4, true) }) (v := ?_) rfl (by kernel_rfl) (by kernel_rfl) (by kernel_rfl) (fun _ _ _ h => h) (Or.inl ⟨by rfl, ?_⟩) hHeld ?_
      rotate_left 1
      · (intro w hSw; (try dsimp only at hSw); go_simp <;> with_reducible rfl)
      simp only [Act.put, List.setIfInBounds_toArray, List.set_cons_zero, List.set_cons_succ]
      refine wpAnyH_take (i := 7) (oi := { dst := some 13, op := Go.Op.call { callee := Go.Callee.builtin Go.Builtin.len, args := #[Go.Operand.tmp 12], argTypes := #[44] }, type := 3, pos := "ref.go:82", after := #[{ on := 6, ground := Go.Ground.data }, { on := 4, ground := Go.Ground.guard }], guard := some (4, true) }) (v := ?_) rfl (by kernel_rfl) (by kernel_rfl) (by kernel_rfl) (fun _ _ _ h => h) (Or.inl ⟨by rfl, ?_⟩) hHeld ?_
      rotate_left 1
      · (intro w hSw; (try dsimp only at hSw); go_simp <;> with_reducible rfl)
      simp only [Act.put, List.setIfInBounds_toArray, List.set_cons_zero, List.set_cons_succ]
      refine wpAnyH_take (i := 8) (oi := { dst := some 14, op := Go.Op.binOp Go.BinOp.lss 3 (Go.Operand.tmp 11) (Go.Operand.tmp 13) 3, type := 4, pos := "ref.go:82", after := #[{ on := 5, ground := Go.Ground.data }, { on := 7, ground := Go.Ground.data }, { on := 4, ground := Go.Ground.guard }], guard := some (4, true) }) (v := ?_) rfl (by kernel_rfl) (by kernel_rfl) (by kernel_rfl) (fun _ _ _ h => h) (Or.inl ⟨by rfl, ?_⟩) hHeld ?_
      rotate_left 1
      · (intro w hSw; (try dsimp only at hSw); go_simp <;> with_reducible rfl)
      simp only [Act.put, List.setIfInBounds_toArray, List.set_cons_zero, List.set_cons_succ]
      refine wpAnyH_take (i := 9) (oi := { dst := some 15, op := Go.Op.pick (Go.Operand.tmp 10) (Go.Operand.tmp 14) (Go.Operand.const (Go.Value.bool false)), type := 4, pos := "ref.go:82", after := #[{ on := 4, ground := Go.Ground.data }, { on := 8, ground := Go.Ground.data }], guard := none }) (v := ?_) rfl (by kernel_rfl) (by kernel_rfl) (by kernel_rfl) (fun _ _ _ h => h) (Or.inl ⟨by rfl, ?_⟩) hHeld ?_
      rotate_left 1
      · (intro w hSw; (try dsimp only at hSw); go_simp <;> with_reducible rfl)
      simp only [Act.put, List.setIfInBounds_toArray, List.set_cons_zero, List.set_cons_succ]
      refine wpAnyH_take (i := 10) (oi := { dst := some 16, op := Go.Op.move (Go.Operand.tmp 15), type := 4, pos := "ref.go:82", after := #[{ on := 9, ground := Go.Ground.data }, { on := 4, ground := Go.Ground.chain }], guard := none }) (v := ?_) rfl (by kernel_rfl) (by kernel_rfl) (by kernel_rfl) (fun _ _ _ h => h) (Or.inl ⟨by rfl, ?_⟩) hHeld ?_
      rotate_left 1
      · (intro w hSw; (try dsimp only at hSw); go_simp <;> with_reducible rfl)
      simp only [Act.put, List.setIfInBounds_toArray, List.set_cons_zero, List.set_cons_succ]
      refine wpAnyH_take (i := 11) (oi := { dst := some 17, op := Go.Op.move (Go.Operand.tmp 0), type := 44, pos := "ref.go:82", after := #[{ on := 10, ground := Go.Ground.guard }], guard := some (10, true) }) (v := ?_) rfl (by kernel_rfl) (by kernel_rfl) (by kernel_rfl) (fun _ _ _ h => h) (Or.inl ⟨by rfl, ?_⟩) hHeld ?_
      rotate_left 1
      · (intro w hSw; (try dsimp only at hSw); go_simp <;> with_reducible rfl)
      simp only [Act.put, List.setIfInBounds_toArray, List.set_cons_zero, List.set_cons_succ]
      refine wpAnyH_take (i := 12) (oi := { dst := some 18, op := Go.Op.move (Go.Operand.tmp 5), type := 3, pos := "ref.go:82", after := #[{ on := 10, ground := Go.Ground.guard }], guard := some (10, true) }) (v := ?_) rfl (by kernel_rfl) (by kernel_rfl) (by kernel_rfl) (fun _ _ _ h => h) (Or.inl ⟨by rfl, ?_⟩) hHeld ?_
      rotate_left 1
      · (intro w hSw; (try dsimp only at hSw); go_simp <;> with_reducible rfl)
      simp only [Act.put, List.setIfInBounds_toArray, List.set_cons_zero, List.set_cons_succ]
      refine wpAnyH_take (i := 13) (oi := { dst := some 19, op := Go.Op.indexAddr 44 (Go.Operand.tmp 17) (Go.Operand.tmp 18), type := 0, pos := "ref.go:82", after := #[{ on := 11, ground := Go.Ground.data }, { on := 12, ground := Go.Ground.data }, { on := 10, ground := Go.Ground.guard }], guard := some (10, true) }) (v := ?_) rfl (by kernel_rfl) (by kernel_rfl) (by kernel_rfl) (fun _ _ _ h => h) (Or.inl ⟨by rfl, ?_⟩) hHeld ?_
      rotate_left 1
      · (intro w hSw; (try dsimp only at hSw); go_simp <;> with_reducible rfl)
      simp only [Act.put, List.setIfInBounds_toArray, List.set_cons_zero, List.set_cons_succ]
      refine wpAnyH_take (i := 14) (oi := { dst := some 20, op := Go.Op.load 54 (Go.Operand.tmp 19), type := 54, pos := "ref.go:82", after := #[{ on := 13, ground := Go.Ground.data }, { on := 10, ground := Go.Ground.guard }], guard := some (10, true) }) (v := _) rfl (by kernel_rfl) (by kernel_rfl) (by kernel_rfl) (fun _ _ _ h => h) (yieldsIf_load_mid rfl 54 _ rfl Ba (oa + j * 13) rfl ra.toList _ (fun w h => h.1) Tryz.underlying54 rfl ia) hHeld ?_
      simp only [Act.put, List.setIfInBounds_toArray, List.set_cons_zero, List.set_cons_succ]
      refine wpAnyH_take (i := 15) (oi := { dst := some 21, op := Go.Op.move (Go.Operand.tmp 1), type := 44, pos := "ref.go:82", after := #[{ on := 10, ground := Go.Ground.guard }], guard := some (10, true) }) (v := ?_) rfl (by kernel_rfl) (by kernel_rfl) (by kernel_rfl) (fun _ _ _ h => h) (Or.inl ⟨by rfl, ?_⟩) hHeld ?_
      rotate_left 1
      · (intro w hSw; (try dsimp only at hSw); go_simp <;> with_reducible rfl)
      simp only [Act.put, List.setIfInBounds_toArray, List.set_cons_zero, List.set_cons_succ]
      refine wpAnyH_take (i := 16) (oi := { dst := some 22, op := Go.Op.move (Go.Operand.tmp 5), type := 3, pos := "ref.go:82", after := #[{ on := 10, ground := Go.Ground.guard }], guard := some (10, true) }) (v := ?_) rfl (by kernel_rfl) (by kernel_rfl) (by kernel_rfl) (fun _ _ _ h => h) (Or.inl ⟨by rfl, ?_⟩) hHeld ?_
      rotate_left 1
      · (intro w hSw; (try dsimp only at hSw); go_simp <;> with_reducible rfl)
      simp only [Act.put, List.setIfInBounds_toArray, List.set_cons_zero, List.set_cons_succ]
      refine wpAnyH_take (i := 17) (oi := { dst := some 23, op := Go.Op.indexAddr 44 (Go.Operand.tmp 21) (Go.Operand.tmp 22), type := 0, pos := "ref.go:82", after := #[{ on := 15, ground := Go.Ground.data }, { on := 16, ground := Go.Ground.data }, { on := 10, ground := Go.Ground.guard }], guard := some (10, true) }) (v := ?_) rfl (by kernel_rfl) (by kernel_rfl) (by kernel_rfl) (fun _ _ _ h => h) (Or.inl ⟨by rfl, ?_⟩) hHeld ?_
      rotate_left 1
      · (intro w hSw; (try dsimp only at hSw); go_simp <;> with_reducible rfl)
      simp only [Act.put, List.setIfInBounds_toArray, List.set_cons_zero, List.set_cons_succ]
      refine wpAnyH_take (i := 18) (oi := { dst := some 24, op := Go.Op.load 54 (Go.Operand.tmp 23), type := 54, pos := "ref.go:82", after := #[{ on := 17, ground := Go.Ground.data }, { on := 10, ground := Go.Ground.guard }], guard := some (10, true) }) (v := _) rfl (by kernel_rfl) (by kernel_rfl) (by kernel_rfl) (fun _ _ _ h => h) (yieldsIf_load_mid rfl 54 _ rfl Bb (ob + j * 13) rfl rb.toList _ (fun w h => h.2) Tryz.underlying54 rfl ib) hHeld ?_
      simp only [Act.put, List.setIfInBounds_toArray, List.set_cons_zero, List.set_cons_succ]
      refine wpAnyH_ready (rs := [19]) (by kernel_rfl) (by simp) ?_
      refine AllReadyH.cons (o := { dst := some 25, op := Go.Op.call { callee := Go.Callee.value (Go.Operand.func 44), args := #[Go.Operand.tmp 20, Go.Operand.tmp 24], argTypes := #[54, 54] }, type := 4, pos := "ref.go:82", after := #[{ on := 14, ground := Go.Ground.data }, { on := 18, ground := Go.Ground.data }, { on := 10, ground := Go.Ground.chain }, { on := 10, ground := Go.Ground.guard }], guard := some (10, true) }) rfl (fun K hK => ?_) AllReadyH.nil
      go_simp
      refine (KS.out _ (Below.refl _ wr).drew).mono ?_
      rintro e w1 ⟨rfl, hb1⟩
      have hb : Below wr.heap.size wr w1 := bel2 (Below.refl _ wr).drew hb1
      refine hK.out _ _ ⟨fun j v hv => cellW (ga j v hv) hb, fun j v hv => cellW (gb j v hv) hb⟩ (fun hHeld => ?_)
      clear hK K
      refine wpAnyH_take (i := 20) (oi := { dst := some 26, op := Go.Op.pick (Go.Operand.tmp 16) (Go.Operand.tmp 25) (Go.Operand.const (Go.Value.bool false)), type := 4, pos := "ref.go:82", after := #[{ on := 10, ground := Go.Ground.data }, { on := 19, ground := Go.Ground.data }], guard := none }) (v := ?_) rfl (by kernel_rfl) (by kernel_rfl) (by kernel_rfl) (fun _ _ _ h => h) (Or.inl ⟨by rfl, ?_⟩) hHeld ?_
      rotate_left 1
      · (intro w hSw; (try dsimp only at hSw); go_simp <;> with_reducible rfl)
      simp only [Act.put, List.setIfInBounds_toArray, List.set_cons_zero, List.set_cons_succ]
      refine wpAnyH_done (by kernel_rfl) ?_ _
      have HB2 : Hid (Below w.heap.size w w1) := bel2 HBw.out hb
      clear hb hb1 ga gb KS
      go_wp2_with fail
      exact ⟨⟨j + 1, hlt, by first | rw [HW1.out] | exact congrArg _ (Int.natCast_succ j).symm, HB2⟩, by first | exact meas hlt HW1.out | exact meas hlt (Int.natCast_succ j).symm⟩
    · obtain rfl : j = N := by omega
      go_upto_region 2 with fail
      refine wp_region_held_drew (S := (fun _ => True)) (by kernel_rfl) trivial (fun hHeld => ?_)
      change wpAnyH _ _ _ _ _ _ _ _ (World.drew _)
      refine wpAnyH_take (i := 0) (oi := { dst := some 6, op := Go.Op.move (Go.Operand.tmp 5), type := 3, pos := "ref.go:82", after := #[], guard := none }) (v := ?_) rfl (by kernel_rfl) (by kernel_rfl) (by kernel_rfl) (fun _ _ _ h => h) (Or.inl ⟨by rfl, ?_⟩) hHeld ?_
      rotate_left 1
      · (intro w hSw; (try dsimp only at hSw); go_simp <;> with_reducible rfl)
      simp only [Act.put, List.setIfInBounds_toArray, List.set_cons_zero, List.set_cons_succ]
      refine wpAnyH_take (i := 1) (oi := { dst := some 7, op := Go.Op.move (Go.Operand.tmp 0), type := 44, pos := "ref.go:82", after := #[], guard := none }) (v := ?_) rfl (by kernel_rfl) (by kernel_rfl) (by kernel_rfl) (fun _ _ _ h => h) (Or.inl ⟨by rfl, ?_⟩) hHeld ?_
      rotate_left 1
      · (intro w hSw; (try dsimp only at hSw); go_simp <;> with_reducible rfl)
      simp only [Act.put, List.setIfInBounds_toArray, List.set_cons_zero, List.set_cons_succ]
      refine wpAnyH_take (i := 2) (oi := { dst := some 8, op := Go.Op.call { callee := Go.Callee.builtin Go.Builtin.len, args := #[Go.Operand.tmp 7], argTypes := #[44] }, type := 3, pos := "ref.go:82", after := #[{ on := 1, ground := Go.Ground.data }], guard := none }) (v := ?_) rfl (by kernel_rfl) (by kernel_rfl) (by kernel_rfl) (fun _ _ _ h => h) (Or.inl ⟨by rfl, ?_⟩) hHeld ?_
      rotate_left 1
      · (intro w hSw; (try dsimp only at hSw); go_simp <;> with_reducible rfl)
      simp only [Act.put, List.setIfInBounds_toArray, List.set_cons_zero, List.set_cons_succ]
      refine wpAnyH_take (i := 3) (oi := { dst := some 9, op := Go.Op.binOp Go.BinOp.lss 3 (Go.Operand.tmp 6) (Go.Operand.tmp 8) 3, type := 4, pos := "ref.go:82", after := #[{ on := 0, ground := Go.Ground.data }, { on := 2, ground := Go.Ground.data }], guard := none }) (v := ?_) rfl (by kernel_rfl) (by kernel_rfl) (by kernel_rfl) (fun _ _ _ h => h) (Or.inl ⟨by rfl, ?_⟩) hHeld ?_
      rotate_left 1
      · (intro w hSw; (try dsimp only at hSw); go_simp <;> with_reducible rfl)
      simp only [Act.put, List.setIfInBounds_toArray, List.set_cons_zero, List.set_cons_succ]
      refine wpAnyH_take (i := 4) (oi := { dst := some 10, op := Go.Op.move (Go.Operand.tmp 9), type := 4, pos := "ref.go:82", after := #[{ on := 3, ground := Go.Ground.data }], guard := none }) (v := ?_) rfl (by kernel_rfl) (by kernel_rfl) (by kernel_rfl) (fun _ _ _ h => h) (Or.inl ⟨by rfl, ?_⟩) hHeld ?_
      rotate_left 1
      · (intro w hSw; (try dsimp only at hSw); go_simp <;> with_reducible rfl)
      simp only [Act.put, List.setIfInBounds_toArray, List.set_cons_zero, List.set_cons_succ]
      refine wpAnyH_take (i := 5) (oi := { dst := some 11, op := Go.Op.move (Go.Operand.tmp 5), type := 3, pos := "ref.go:82", after := #[{ on := 4, ground := Go.Ground.guard }], guard := some (4, true) }) (v := undef) rfl (by kernel_rfl) (by kernel_rfl) (by kernel_rfl) (fun _ _ _ h => h) (Or.inr ⟨by rfl, rfl⟩) hHeld ?_
      simp only [Act.put, List.setIfInBounds_toArray, List.set_cons_zero, List.set_cons_succ]
      refine wpAnyH_take (i := 6) (oi := { dst := some 12, op := Go.Op.move (Go.Operand.tmp 1), type := 44, pos := "ref.go:82", after := #[{ on := 4, ground := Go.Ground.guard }], guard := some (4, true) }) (v := undef) rfl (by kernel_rfl) (by kernel_rfl) (by kernel_rfl) (fun _ _ _ h => h) (Or.inr ⟨by rfl, rfl⟩) hHeld ?_
      simp only [Act.put, List.setIfInBounds_toArray, List.set_cons_zero, List.set_cons_succ]
      refine wpAnyH_take (i := 7) (oi := { dst := some 13, op := Go.Op.call { callee := Go.Callee.builtin Go.Builtin.len, args := #[Go.Operand.tmp 12], argTypes := #[44] }, type := 3, pos := "ref.go:82", after := #[{ on := 6, ground := Go.Ground.data }, { on := 4, ground := Go.Ground.guard }], guard := some (4, true) }) (v := undef) rfl (by kernel_rfl) (by kernel_rfl) (by kernel_rfl) (fun _ _ _ h => h) (Or.inr ⟨by rfl, rfl⟩) hHeld ?_
      simp only [Act.put, List.setIfInBounds_toArray, List.set_cons_zero, List.set_cons_succ]
      refine wpAnyH_take (i := 8) (oi := { dst := some 14, op := Go.Op.binOp Go.BinOp.lss 3 (Go.Operand.tmp 11) (Go.Operand.tmp 13) 3, type := 4, pos := "ref.go:82", after := #[{ on := 5, ground := Go.Ground.data }, { on := 7, ground := Go.Ground.data }, { on := 4, ground := Go.Ground.guard }], guard := some (4, true) }) (v := undef) rfl (by kernel_rfl) (by kernel_rfl) (by kernel_rfl) (fun _ _ _ h => h) (Or.inr ⟨by rfl, rfl⟩) hHeld ?_
      simp only [Act.put, List.setIfInBounds_toArray, List.set_cons_zero, List.set_cons_succ]
      refine wpAnyH_take (i := 9) (oi := { dst := some 15, op := Go.Op.pick (Go.Operand.tmp 10) (Go.Operand.tmp 14) (Go.Operand.const (Go.Value.bool false)), type := 4, pos := "ref.go:82", after := #[{ on := 4, ground := Go.Ground.data }, { on := 8, ground := Go.Ground.data }], guard := none }) (v := ?_) rfl (by kernel_rfl) (by kernel_rfl) (by kernel_rfl) (fun _ _ _ h => h) (Or.inl ⟨by rfl, ?_⟩) hHeld ?_
      rotate_left 1
      · (intro w hSw; (try dsimp only at hSw); go_simp <;> with_reducible rfl)
      simp only [Act.put, List.setIfInBounds_toArray, List.set_cons_zero, List.set_cons_succ]
      refine wpAnyH_take (i := 10) (oi := { dst := some 16, op := Go.Op.move (Go.Operand.tmp 15), type := 4, pos := "ref.go:82", after := #[{ on := 9, ground := Go.Ground.data }, { on := 4, ground := Go.Ground.chain }], guard := none }) (v := ?_) rfl (by kernel_rfl) (by kernel_rfl) (by kernel_rfl) (fun _ _ _ h => h) (Or.inl ⟨by rfl, ?_⟩) hHeld ?_
      rotate_left 1
      · (intro w hSw; (try dsimp only at hSw); go_simp <;> with_reducible rfl)
      simp only [Act.put, List.setIfInBounds_toArray, List.set_cons_zero, List.set_cons_succ]
      refine wpAnyH_take (i := 11) (oi := { dst := some 17, op := Go.Op.move (Go.Operand.tmp 0), type := 44, pos := "ref.go:82", after := #[{ on := 10, ground := Go.Ground.guard }], guard := some (10, true) }) (v := undef) rfl (by kernel_rfl) (by kernel_rfl) (by kernel_rfl) (fun _ _ _ h => h) (Or.inr ⟨by rfl, rfl⟩) hHeld ?_
      simp only [Act.put, List.setIfInBounds_toArray, List.set_cons_zero, List.set_cons_succ]
      refine wpAnyH_take (i := 12) (oi := { dst := some 18, op := Go.Op.move (Go.Operand.tmp 5), type := 3, pos := "ref.go:82", after := #[{ on := 10, ground := Go.Ground.guard }], guard := some (10, true) }) (v := undef) rfl (by kernel_rfl) (by kernel_rfl) (by kernel_rfl) (fun _ _ _ h => h) (Or.inr ⟨by rfl, rfl⟩) hHeld ?_
      simp only [Act.put, List.setIfInBounds_toArray, List.set_cons_zero, List.set_cons_succ]
      refine wpAnyH_take (i := 13) (oi := { dst := some 19, op := Go.Op.indexAddr 44 (Go.Operand.tmp 17) (Go.Operand.tmp 18), type := 0, pos := "ref.go:82", after := #[{ on := 11, ground := Go.Ground.data }, { on := 12, ground := Go.Ground.data }, { on := 10, ground := Go.Ground.guard }], guard := some (10, true) }) (v := undef) rfl (by kernel_rfl) (by kernel_rfl) (by kernel_rfl) (fun _ _ _ h => h) (Or.inr ⟨by rfl, rfl⟩) hHeld ?_
      simp only [Act.put, List.setIfInBounds_toArray, List.set_cons_zero, List.set_cons_succ]
      refine wpAnyH_take (i := 14) (oi := { dst := some 20, op := Go.Op.load 54 (Go.Operand.tmp 19), type := 54, pos := "ref.go:82", after := #[{ on := 13, ground := Go.Ground.data }, { on := 10, ground := Go.Ground.guard }], guard := some (10, true) }) (v := undef) rfl (by kernel_rfl) (by kernel_rfl) (by kernel_rfl) (fun _ _ _ h => h) (Or.inr ⟨by rfl, rfl⟩) hHeld ?_
      simp only [Act.put, List.setIfInBounds_toArray, List.set_cons_zero, List.set_cons_succ]
      refine wpAnyH_take (i := 15) (oi := { dst := some 21, op := Go.Op.move (Go.Operand.tmp 1), type := 44, pos := "ref.go:82", after := #[{ on := 10, ground := Go.Ground.guard }], guard := some (10, true) }) (v := undef) rfl (by kernel_rfl) (by kernel_rfl) (by kernel_rfl) (fun _ _ _ h => h) (Or.inr ⟨by rfl, rfl⟩) hHeld ?_
      simp only [Act.put, List.setIfInBounds_toArray, List.set_cons_zero, List.set_cons_succ]
      refine wpAnyH_take (i := 16) (oi := { dst := some 22, op := Go.Op.move (Go.Operand.tmp 5), type := 3, pos := "ref.go:82", after := #[{ on := 10, ground := Go.Ground.guard }], guard := some (10, true) }) (v := undef) rfl (by kernel_rfl) (by kernel_rfl) (by kernel_rfl) (fun _ _ _ h => h) (Or.inr ⟨by rfl, rfl⟩) hHeld ?_
      simp only [Act.put, List.setIfInBounds_toArray, List.set_cons_zero, List.set_cons_succ]
      refine wpAnyH_take (i := 17) (oi := { dst := some 23, op := Go.Op.indexAddr 44 (Go.Operand.tmp 21) (Go.Operand.tmp 22), type := 0, pos := "ref.go:82", after := #[{ on := 15, ground := Go.Ground.data }, { on := 16, ground := Go.Ground.data }, { on := 10, ground := Go.Ground.guard }], guard := some (10, true) }) (v := undef) rfl (by kernel_rfl) (by kernel_rfl) (by kernel_rfl) (fun _ _ _ h => h) (Or.inr ⟨by rfl, rfl⟩) hHeld ?_
      simp only [Act.put, List.setIfInBounds_toArray, List.set_cons_zero, List.set_cons_succ]
      refine wpAnyH_take (i := 18) (oi := { dst := some 24, op := Go.Op.load 54 (Go.Operand.tmp 23), type := 54, pos := "ref.go:82", after := #[{ on := 17, ground := Go.Ground.data }, { on := 10, ground := Go.Ground.guard }], guard := some (10, true) }) (v := undef) rfl (by kernel_rfl) (by kernel_rfl) (by kernel_rfl) (fun _ _ _ h => h) (Or.inr ⟨by rfl, rfl⟩) hHeld ?_
      simp only [Act.put, List.setIfInBounds_toArray, List.set_cons_zero, List.set_cons_succ]
      refine wpAnyH_take (i := 19) (oi := { dst := some 25, op := Go.Op.call { callee := Go.Callee.value (Go.Operand.func 44), args := #[Go.Operand.tmp 20, Go.Operand.tmp 24], argTypes := #[54, 54] }, type := 4, pos := "ref.go:82", after := #[{ on := 14, ground := Go.Ground.data }, { on := 18, ground := Go.Ground.data }, { on := 10, ground := Go.Ground.chain }, { on := 10, ground := Go.Ground.guard }], guard := some (10, true) }) (v := undef) rfl (by kernel_rfl) (by kernel_rfl) (by kernel_rfl) (fun _ _ _ h => h) (Or.inr ⟨by rfl, rfl⟩) hHeld ?_
      simp only [Act.put, List.setIfInBounds_toArray, List.set_cons_zero, List.set_cons_succ]
      refine wpAnyH_take (i := 20) (oi := { dst := some 26, op := Go.Op.pick (Go.Operand.tmp 16) (Go.Operand.tmp 25) (Go.Operand.const (Go.Value.bool false)), type := 4, pos := "ref.go:82", after := #[{ on := 10, ground := Go.Ground.data }, { on := 19, ground := Go.Ground.data }], guard := none }) (v := ?_) rfl (by kernel_rfl) (by kernel_rfl) (by kernel_rfl) (fun _ _ _ h => h) (Or.inl ⟨by rfl, ?_⟩) hHeld ?_
      rotate_left 1
      · (intro w hSw; (try dsimp only at hSw); go_simp <;> with_reducible rfl)
      simp only [Act.put, List.setIfInBounds_toArray, List.set_cons_zero, List.set_cons_succ]
      refine wpAnyH_done (by kernel_rfl) ?_ _
      go_wp2_with fail
      go_ret
      exact ⟨rfl, HBw.out.drew⟩
set_option maxHeartbeats 4000000 in
set_option maxRecDepth 100000 in
theorem esame_calls (n : Nat) (l : List Ev) (aa ab : Option Addr) (ca cb : Nat) (w : World) (hl : l.length ≤ 1000) (ha : LkE (fun _ => True) (Is w n) w aa l) (hb : LkE (fun _ => True) (Is w n) w ab l) : Calls Tryz.prog 14 #[.slice aa l.length ca, .slice ab l.length cb] w fun e w' => e = .returned (.bool true) ∧ Below w.heap.size w w' := by
  have KC : Hid (Calls Tryz.prog 30 #[.slice aa l.length ca, .slice ab l.length cb] w fun e w' => e = .returned (.int .i64 (l.length : Int)) ∧ Below w.heap.size w w') := common_calls n l aa ab ca cb w hl ha hb
  clear ha hb hl
  generalize l.length = N at KC
  go_enter Tryz.func14, Tryz.ntmps14
  go_wp2_with fail
  refine KC.out.mono ?_
  rintro e w1 ⟨rfl, hb⟩
  have HB : Hid (Below w.heap.size w w1) := hb
  clear hb KC
  go_wp2_with fail
  go_ret
  exact ⟨rfl, HB.out⟩
set_option maxHeartbeats 4000000 in
set_option maxRecDepth 100000 in
theorem asame_lit (n : Nat) (x : Ak) (pk px pb : Int) (ps : ByteArray) (pl : Option Addr) (pm pc : Nat) (qk qx qb : Int) (qs : ByteArray) (ql : Option Addr) (qm qc : Nat) (w : World) (hp : Is w n (.agg #[.int .i64 pk, .int .i64 px, .int .u64 pb, .string ps, .slice pl pm pc]) x.v) (hq : Is w n (.agg #[.int .i64 qk, .int .i64 qx, .int .u64 qb, .string qs, .slice ql qm qc]) x.v) :
    Calls Tryz.prog 32 #[.agg #[.int .i64 x.o, .string x.s, .int .i64 pk, .int .i64 px, .int .u64 pb, .string ps, .slice pl pm pc], .agg #[.int .i64 x.o, .string x.s, .int .i64 qk, .int .i64 qx, .int .u64 qb, .string qs, .slice ql qm qc]] w fun e w' => e = .returned (.bool true) ∧ Below w.heap.size w w' := by
  have KS : Hid (∀ W, Below w.heap.size w W → Calls Tryz.prog 22 #[(.agg #[.int .i64 pk, .int .i64 px, .int .u64 pb, .string ps, .slice pl pm pc]), (.agg #[.int .i64 qk, .int .i64 qx, .int .u64 qb, .string qs, .slice ql qm qc])] W fun e w' => e = .returned (.bool true) ∧ Below W.heap.size W w') := fun W hb => (rsame_calls n _ _ _ _ W (hp.below hb) (hq.below hb)).mono fun e w' ⟨⟨r, a, b⟩, c⟩ => ⟨by rw [a, b.2 rfl], c⟩
  clear hp hq
  go_enter Tryz.func32, Tryz.ntmps32
  go_wp2_with fail
  refine (KS.out _ (bel2 (bel1 _ _) (bel1 _ _))).mono ?_
  rintro e w1 ⟨rfl, hb⟩
  have HB : Hid (Below w.heap.size w w1) := bel2 (bel2 (bel1 _ _) (bel1 _ _)) hb
  clear hb
  go_wp2_with fail
  go_ret
  exact ⟨rfl, HB.out⟩
set_option maxHeartbeats 4000000 in
set_option maxRecDepth 100000 in
theorem eqA_calls (n : Nat) (l : List Ak) (aa ab : Option Addr) (ca cb : Nat) (w : World) (hl : l.length ≤ 1000) (ha : LkA (fun _ => True) (Is w n) w aa l) (hb : LkA (fun _ => True) (Is w n) w ab l) : Calls Tryz.prog 31 #[.slice aa l.length ca, .slice ab l.length cb, .func (.func 32) #[] #[]] w fun e w' => e = .returned (.bool true) ∧ Below w.heap.size w w' := by
  have HA : Hid (LkA (fun _ => True) (Is w n) w aa l) := ha
  have HB : Hid (LkA (fun _ => True) (Is w n) w ab l) := hb
  have HL : Hid (l.length ≤ 1000) := hl
  clear ha hb hl
  generalize hN : l.length = N
  have HN : Hid (l.length = N) := hN
  clear hN
  go_enter Tryz.func31, Tryz.ntmps31
  go_wp2_with fail
  go_loopw [7, 8, 9, 17] (fun _ _ _ i wr => ∃ j : Nat, j ≤ N ∧ i = .int .i64 (j : Int) ∧ Hid (Below w.heap.size w wr)) (fun _ _ _ i _ => N - (intOf i).toNat)
  case atStart => exact ⟨0, Nat.zero_le _, rfl, Below.refl _ _⟩
  case round =>
    obtain ⟨j, hj, rfl, HBw⟩ := hrel
    by_cases hlt : j < N
    · obtain ⟨x, hx⟩ : ∃ x, l[j]? = some x := ⟨_, List.getElem?_eq_getElem (by have := HN.out; omega)⟩
      obtain ⟨rowa, a1, a2, a3⟩ := HA.out
      obtain ⟨rowb, b1, b2, b3⟩ := HB.out
      obtain ⟨ra, hra⟩ : ∃ r, rowa[j]? = some r := ⟨_, List.getElem?_eq_getElem (by have := HN.out; omega)⟩
      obtain ⟨rb, hrb⟩ : ∃ r, rowb[j]? = some r := ⟨_, List.getElem?_eq_getElem (by have := HN.out; omega)⟩
      obtain ⟨_, _, Ba, oa, rfl, _, la⟩ := a2 j ra hra
      obtain ⟨_, _, Bb, ob, rfl, _, lb⟩ := b2 j rb hrb
      obtain ⟨pk, px, pb, ps, pl, pm, pc, rfl, hp⟩ := (a3 j ra x hra hx).lit
      obtain ⟨qk, qx, qb, qs, ql, qm, qc, rfl, hq⟩ := (b3 j rb x hrb hx).lit
      have KS : Hid (∀ W, Below wr.heap.size wr W → Calls Tryz.prog 32 #[.agg #[.int .i64 x.o, .string x.s, .int .i64 pk, .int .i64 px, .int .u64 pb, .string ps, .slice pl pm pc], .agg #[.int .i64 x.o, .string x.s, .int .i64 qk, .int .i64 qx, .int .u64 qb, .string qs, .slice ql qm qc]] W fun e w' => e = .returned (.bool true) ∧ Below W.heap.size W w') := fun W hb => asame_lit n x pk px pb ps pl pm pc qk qx qb qs ql qm qc W (hp.below (bel2 HBw.out hb)) (hq.below (bel2 HBw.out hb))
      have ga : wr.rangeAt Ba (oa + j * 7) (#[.int .i64 x.o, .string x.s, .int .i64 pk, .int .i64 px, .int .u64 pb, .string ps, .slice pl pm pc] : Array Value).toList := fun i v hv => cellW (lies_range la i v hv) HBw.out
      have gb : wr.rangeAt Bb (ob + j * 7) (#[.int .i64 x.o, .string x.s, .int .i64 qk, .int .i64 qx, .int .u64 qb, .string qs, .slice ql qm qc] : Array Value).toList := fun i v hv => cellW (lies_range lb i v hv) HBw.out
      have i48 : (Tryz.prog.info? 48).map (·.size) = some 7 := info48s zA rfl
      have ap : (#[.int .i64 x.o, .string x.s, .int .i64 pk, .int .i64 px, .int .u64 pb, .string ps, .slice pl pm pc] : Array Value).all (·.oneCell') = true := by simp [Value.oneCell']
      have aq : (#[.int .i64 x.o, .string x.s, .int .i64 qk, .int .i64 qx, .int .u64 qb, .string qs, .slice ql qm qc] : Array Value).all (·.oneCell') = true := by simp [Value.oneCell']
      have hjl : (j : Int) < (N : Int) := by omega
      have HW1 : Hid (wrap64 ((j : Int) + 1) = ((j + 1 : Nat) : Int)) := wr1 hlt (by have := HN.out; have := HL.out; omega)
      have n8 : (wr.alloc (.cells zA 48)).heap[wr.heap.size]? = some (.cells zA 48 (0, 0)) := heap_alloc_new wr _
      clear a1 a2 a3 b1 b2 b3 hra hrb la lb hp hq hx
      go_upto_region 6 with (first | refine wpList_load_mid rfl 48 _ rfl Ba (oa + j * 7) rfl (#[.int .i64 x.o, .string x.s, .int .i64 pk, .int .i64 px, .int .u64 pb, .string ps, .slice pl pm pc] : Array Value).toList _ ga Tryz.underlying48 rfl i48 ?_ | refine wpList_store_row rfl 48 _ _ rfl wr.heap.size #[.int .i64 x.o, .string x.s, .int .i64 pk, .int .i64 px, .int .u64 pb, .string ps, .slice pl pm pc] rfl rfl 48 zA n8 i48 rfl ap ?_)
      rw [World.setRow_alloc_new]
      have hb1 := bel1 wr (.cells #[.int .i64 x.o, .string x.s, .int .i64 pk, .int .i64 px, .int .u64 pb, .string ps, .slice pl pm pc] 48)
      have B1 : Hid (Below wr.heap.size wr (wr.alloc (.cells #[.int .i64 x.o, .string x.s, .int .i64 pk, .int .i64 px, .int .u64 pb, .string ps, .slice pl pm pc] 48))) := hb1
      have r8 : (wr.alloc (.cells #[.int .i64 x.o, .string x.s, .int .i64 pk, .int .i64 px, .int .u64 pb, .string ps, .slice pl pm pc] 48)).heap[wr.heap.size]? = some (.cells #[.int .i64 x.o, .string x.s, .int .i64 pk, .int .i64 px, .int .u64 pb, .string ps, .slice pl pm pc] 48 (0, 0)) := heap_alloc_new wr _
      have gb1 : (wr.alloc (.cells #[.int .i64 x.o, .string x.s, .int .i64 pk, .int .i64 px, .int .u64 pb, .string ps, .slice pl pm pc] 48)).rangeAt Bb (ob + j * 7) (#[.int .i64 x.o, .string x.s, .int .i64 qk, .int .i64 qx, .int .u64 qb, .string qs, .slice ql qm qc] : Array Value).toList := fun i v hv => cellW (gb i v hv) hb1
      clear hb1 ga gb n8
      generalize wr.alloc (.cells #[.int .i64 x.o, .string x.s, .int .i64 pk, .int .i64 px, .int .u64 pb, .string ps, .slice pl pm pc] 48) = W1 at B1 r8 gb1 ⊢
      have n9 : (W1.alloc (.cells zA 48)).heap[W1.heap.size]? = some (.cells zA 48 (0, 0)) := heap_alloc_new W1 _
      go_upto_region 7 with (first | refine wpList_load_mid rfl 48 _ rfl Bb (ob + j * 7) rfl (#[.int .i64 x.o, .string x.s, .int .i64 qk, .int .i64 qx, .int .u64 qb, .string qs, .slice ql qm qc] : Array Value).toList _ gb1 Tryz.underlying48 rfl i48 ?_ | refine wpList_store_row rfl 48 _ _ rfl W1.heap.size #[.int .i64 x.o, .string x.s, .int .i64 qk, .int .i64 qx, .int .u64 qb, .string qs, .slice ql qm qc] rfl rfl 48 zA n9 i48 rfl aq ?_)
      rw [World.setRow_alloc_new]
      have hb2 := bel1 W1 (.cells #[.int .i64 x.o, .string x.s, .int .i64 qk, .int .i64 qx, .int .u64 qb, .string qs, .slice ql qm qc] 48)
      have B2 : Hid (Below wr.heap.size wr (W1.alloc (.cells #[.int .i64 x.o, .string x.s, .int .i64 qk, .int .i64 qx, .int .u64 qb, .string qs, .slice ql qm qc] 48))) := bel2 B1.out hb2
      have s8 := row_below hb2 r8
      have s9 : (W1.alloc (.cells #[.int .i64 x.o, .string x.s, .int .i64 qk, .int .i64 qx, .int .u64 qb, .string qs, .slice ql qm qc] 48)).heap[W1.heap.size]? = some (.cells #[.int .i64 x.o, .string x.s, .int .i64 qk, .int .i64 qx, .int .u64 qb, .string qs, .slice ql qm qc] 48 (0, 0)) := heap_alloc_new W1 _
      clear hb2 r8 gb1 n9
      generalize W1.alloc (.cells #[.int .i64 x.o, .string x.s, .int .i64 qk, .int .i64 qx, .int .u64 qb, .string qs, .slice ql qm qc] 48) = W2 at B2 s8 s9 ⊢
      go_wp2_with (first | refine wpList_load_row rfl 48 _ rfl wr.heap.size rfl 48 #[.int .i64 x.o, .string x.s, .int .i64 pk, .int .i64 px, .int .u64 pb, .string ps, .slice pl pm pc] (0, 0) _ s8 Tryz.underlying48 rfl i48 ?_ | refine wpList_load_row rfl 48 _ rfl W1.heap.size rfl 48 #[.int .i64 x.o, .string x.s, .int .i64 qk, .int .i64 qx, .int .u64 qb, .string qs, .slice ql qm qc] (0, 0) _ s9 Tryz.underlying48 rfl i48 ?_)
      refine (KS.out _ B2.out).mono ?_
      rintro e w3 ⟨rfl, hb3⟩
      have HB3 : Hid (Below w.heap.size w w3) := bel2 HBw.out (bel2 B2.out hb3)
      clear hb3 s8 s9 KS
      go_wp2_with fail
      exact ⟨⟨j + 1, hlt, by first | rw [HW1.out] | exact congrArg _ (Int.natCast_succ j).symm, HB3⟩, by first | exact meas hlt HW1.out | exact meas hlt (Int.natCast_succ j).symm⟩
    · obtain rfl : j = N := by omega
      go_wp2_with fail
      go_ret
      exact ⟨rfl, HBw.out⟩
theorem sameAsks_calls (n : Nat) (l : List Ak) (aa ab : Option Addr) (ca cb : Nat) (w : World) (hl : l.length ≤ 1000) (ha : LkA (fun _ => True) (Is w n) w aa l) (hb : LkA (fun _ => True) (Is w n) w ab l) : Calls Tryz.prog 15 #[.slice aa l.length ca, .slice ab l.length cb] w fun e w' => e = .returned (.bool true) ∧ Below w.heap.size w w' := by
  have KC : Hid (Calls Tryz.prog 31 #[.slice aa l.length ca, .slice ab l.length cb, .func (.func 32) #[] #[]] w fun e w' => e = .returned (.bool true) ∧ Below w.heap.size w w') := eqA_calls n l aa ab ca cb w hl ha hb
  clear ha hb hl
  generalize l.length = N at KC
  go_enter Tryz.func15, Tryz.ntmps15
  go_wp2_with fail
  refine KC.out.mono ?_
  rintro e w1 ⟨rfl, hb⟩
  have HB : Hid (Below w.heap.size w w1) := hb
  clear hb KC
  go_wp2_with fail
  go_ret
  exact ⟨rfl, HB.out⟩
end Go.Proofs.YtcdhlklmnnmpoaaGreat
namespace Go.Proofs.YtcdhlklmnnmpoaaGreat
open Go.ChangeShapes Go.WideShapes Go.ChangeAt Go.RowKit
theorem sum_take {zs : List Nat} {j z : Nat} (h : zs[j]? = some z) : (zs.take (j + 1)).sum = (zs.take j).sum + z := by
  have hj := (List.getElem?_eq_some_iff.1 h).1
  rw [List.take_add_one, h]
  simp
theorem sum_le {zs : List Nat} (j : Nat) : (zs.take j).sum ≤ zs.sum := by
  have h := congrArg List.sum (List.take_append_drop j zs)
  rw [List.sum_append] at h
  omega
theorem wrS {p z : Nat} (h : z ≤ p) (hp : p ≤ 200) : wrap64 ((p : Int) - (z : Int)) = ((p - z : Nat) : Int) := by unfold wrap64; omega
set_option maxHeartbeats 4000000 in
set_option maxRecDepth 100000 in
theorem sizes_calls (g n : Nat) (zs : List Nat) (hn : zs.length = n) (h10 : n ≤ 10) (w : World) (h : ∀ (i : Nat) z, zs[i]? = some z → w.cell? ⟨g, i, none⟩ = some (.int .i64 (z : Int))) : Calls Tryz.prog 27 #[.int .i64 200, .slice (some ⟨g, 0, none⟩) n n] w fun e w' => e = .returned (.bool (decide (zs.sum ≤ 200))) ∧ w' = w := by
  have HN : Hid (zs.length = n) := hn
  have H10 : Hid (n ≤ 10) := h10
  have HC : Hid (∀ (i : Nat) z, zs[i]? = some z → w.cell? ⟨g, i, none⟩ = some (.int .i64 (z : Int))) := h
  have HQ1 : Hid (zs.sum ≤ 200 → decide (zs.sum ≤ 200) = true) := fun h => decide_eq_true h
  have HQ0 : Hid (¬ zs.sum ≤ 200 → decide (zs.sum ≤ 200) = false) := fun h => decide_eq_false h
  generalize decide (zs.sum ≤ 200) = bb at HQ1 HQ0 ⊢
  clear hn h10 h
  go_enter Tryz.func27, Tryz.ntmps27
  go_wp2_with fail
  go_loopw [0, 6, 9] (fun m _ i wr => ∃ j p : Nat, j ≤ n ∧ i = .int .i64 (j : Int) ∧ m = .int .i64 (p : Int) ∧ wr = w ∧ Hid ((zs.take j).sum + p = 200)) (fun _ _ i _ => n - (intOf i).toNat)
  case atStart => exact ⟨0, 200, Nat.zero_le _, rfl, rfl, rfl, by show _ = _; simp⟩
  case round =>
    obtain ⟨j, p, hj, rfl, rfl, rfl, HS⟩ := hrel
    by_cases hlt : j < n
    · obtain ⟨z, hz⟩ : ∃ z, zs[j]? = some z := ⟨_, List.getElem?_eq_getElem (by have := HN.out; omega)⟩
      have x0 := HC.out j z hz
      have Hz : Hid (zs[j]? = some z) := hz
      have hjl : (j : Int) < (n : Int) := by omega
      have HW1 : Hid (wrap64 ((j : Int) + 1) = ((j + 1 : Nat) : Int)) := wr1 hlt (by have := H10.out; omega)
      by_cases hzp : z ≤ p
      · have HZ : Hid (z ≤ p) := hzp
        have d1 : decide ((p : Int) < (z : Int)) = false := decide_eq_false (by omega)
        have d2 : decide (p < z) = false := decide_eq_false (by omega)
        have HW2 : Hid (wrap64 ((p : Int) - (z : Int)) = ((p - z : Nat) : Int)) := wrS hzp (by have := HS.out; omega)
        clear hz hzp
        go_wp2_with fail
        exact ⟨⟨j + 1, p - z, hlt, by first | rw [HW1.out] | exact congrArg _ (Int.natCast_succ j).symm, by first | rw [HW2.out] | rfl, by first | trivial | rfl, by show _ = _; rw [sum_take Hz.out]; have := HS.out; have := HZ.out; omega⟩, by first | exact meas hlt HW1.out | exact meas hlt (Int.natCast_succ j).symm⟩
      · have d1 : decide ((p : Int) < (z : Int)) = true := decide_eq_true (by omega)
        have d2 : decide (p < z) = true := decide_eq_true (by omega)
        have HB : Hid (bb = false) := HQ0.out (fun hs => by have := sum_take hz; have := sum_le (zs := zs) (j + 1); have := HS.out; omega)
        clear hz hzp
        go_wp2_with fail
        go_ret
        exact ⟨by first | (simp [HB.out]; done) | exact HB.out | exact HB.out.symm, rfl⟩
    · obtain rfl : j = n := by omega
      have HB : Hid (bb = true) := HQ1.out (by have := HS.out; rw [← HN.out, List.take_length] at this; omega)
      go_wp2_with fail
      go_ret
      exact ⟨by first | (simp [HB.out]; done) | exact HB.out | exact HB.out.symm, rfl⟩
set_option maxHeartbeats 4000000 in
set_option maxRecDepth 100000 in
theorem few_calls (cs : Array Value) (ta ua aa la : Option Addr) (tl tc ul uc na ac nl lc : Nat) (w : World) (h : cs[23]? = some (.slice ta tl tc)) (k : cs[24]? = some (.slice ua ul uc)) : Calls Tryz.prog 11 #[.agg cs, .slice aa na ac, .slice la nl lc] w fun e w' => e = .returned (.bool (decide (tl + ul + na + nl ≤ 200))) ∧ Below w.heap.size w w' := by
  have KS : Hid (∀ W g, (∀ (i : Nat) z, ([tl, ul, na, nl] : List Nat)[i]? = some z → W.cell? ⟨g, i, none⟩ = some (.int .i64 (z : Int))) → Calls Tryz.prog 27 #[.int .i64 200, .slice (some ⟨g, 0, none⟩) 4 4] W fun e w' => e = .returned (.bool (decide (tl + ul + na + nl ≤ 200))) ∧ w' = W) := fun W g hc => by
    have := sizes_calls g 4 [tl, ul, na, nl] rfl (by decide) W hc
    have e : ([tl, ul, na, nl] : List Nat).sum = tl + ul + na + nl := by simp; omega
    rwa [e] at this
  generalize decide (tl + ul + na + nl ≤ 200) = bb at KS ⊢
  go_enter Tryz.func11, Tryz.ntmps11
  go_wp2_with fail
  refine Calls.mono (KS.out _ _ ?_) ?_
  · intro i z hi
    match i, hi with
    | 0, hi => cases hi; simp
    | 1, hi => cases hi; simp
    | 2, hi => cases hi; simp
    | 3, hi => cases hi; simp
    | i + 4, hi => simp at hi
  rintro e w1 ⟨rfl, rfl⟩
  go_wp2_with fail
  go_ret
  exact ⟨rfl, bel2 (bel1 _ _) (bel1 _ _)⟩
theorem TkS.any {n : Nat} {asks : List Ak} {t : Int} {c : Cm} {d d2 : Dr} (h : TkS n asks false t c d d2) (last : Bool) : TkS n asks last t c d d2 := ⟨h.1, fun hc => (by have := (h.2.1 hc).1; cases this), h.2.2⟩
theorem RunP.init {n : Nat} {asks : List Ak} {t : Int} {l : List Cm} {m : Nat} (hm : l.length = m + 1) : ∀ {j : Nat} {d d2 : Dr}, j ≤ m → RunP n asks t l j d d2 → RunP n asks t (l.take m) j d d2
  | 0, d, d2, _, h => h
  | j + 1, d, d2, hj, ⟨d1, c, h1, h2, h3⟩ => by
    refine ⟨d1, c, RunP.init hm (by omega) h1, by rw [List.getElem?_take_of_lt (by omega)]; exact h2, ?_⟩
    rw [decide_eq_false (by omega)] at h3
    exact h3.any _
theorem RunP.at {n : Nat} {asks : List Ak} {t : Int} {l : List Cm} : ∀ {m j : Nat} {d d2 : Dr}, RunP n asks t l m d d2 → j < m → ∃ dj c d3, RunP n asks t l j d dj ∧ l[j]? = some c ∧ TkS n asks (decide (j + 1 = l.length)) t c dj d3 := by
  intro m
  induction m with
  | zero => intro j d d2 _ hj; omega
  | succ m ih =>
    intro j d d2 h hj
    obtain ⟨d1, c, h1, h2, h3⟩ := h
    by_cases e : j = m
    · subst e; exact ⟨d1, c, d2, h1, h2, h3⟩
    · exact ih h1 (by omega)
/-- A plan that is made can't fail. -/
theorem RunP.sure {n : Nat} {asks : List Ak} {t : Int} {l : List Cm} {d d2 : Dr} {code : Int} (h : RunP n asks t l l.length d d2) (hl : l.length ≤ 12) : ¬ FailR n asks t l d code := by
  rintro (h0 | ⟨j, dj, c, hr, hc, hno, _⟩)
  · omega
  · have hj := (List.getElem?_eq_some_iff.1 hc).1
    obtain ⟨d', c', d3, a, b, e⟩ := h.at hj
    have := a.det hr
    subst this
    rw [hc] at b
    cases b
    exact hno _ e
/-- What comes of one command more. -/
theorem TkS.grow {n : Nat} {asks : List Ak} {last : Bool} {t : Int} {c : Cm} {d d2 : Dr} (h : TkS n asks last t c d d2) : d2.ev.take d.ev.length = d.ev ∧ d2.rf.take d.rf.length = d.rf := by
  have h3 := h.2.2
  cases hw : wshR d.s asks d.rf c t with
  | no => rw [hw] at h3; exact h3.elim
  | rf => rw [hw] at h3; rw [show d2 = _ from h3]; simp
  | ev x => rw [hw] at h3; obtain ⟨s2, _, e⟩ := h3; rw [e]; simp
theorem IsP.up {ok : Nat → Prop} {w : World} : ∀ {n m : Nat} {v : Value} {t : Tv}, n ≤ m → IsP ok w n v t → IsP ok w m v t
  | 0, _, _, _, _, h => h.elim
  | n + 1, 0, _, _, hm, _ => by omega
  | n + 1, m + 1, v, .mk k x b s l, hm, ⟨a, c, hv, hf, hr⟩ => ⟨a, c, hv, hf, fun i t ht => by
      obtain ⟨B, o, c0, c1, c2, c3, c4, ha, ho, h5, hi⟩ := hr i t ht
      exact ⟨B, o, c0, c1, c2, c3, c4, ha, ho, h5, IsP.up (by omega) hi⟩⟩
theorem LkA.up {ok : Nat → Prop} {w : World} {n m : Nat} {a : Option Addr} {l : List Ak} (h : LkA ok (IsP ok w n) w a l) (hm : n ≤ m) : LkA ok (IsP ok w m) w a l := by
  obtain ⟨rows, h1, h2, h3⟩ := h
  exact ⟨rows, h1, h2, fun i r e hr he => (h3 i r e hr he).map fun _ _ hx => hx.up hm⟩
theorem LkC.up {ok : Nat → Prop} {w : World} {n m : Nat} {a : Option Addr} {l : List Cm} (h : LkC ok (IsP ok w n) w a l) (hm : n ≤ m) : LkC ok (IsP ok w m) w a l := by
  obtain ⟨rows, h1, h2, h3⟩ := h
  exact ⟨rows, h1, h2, fun i r e hr he => (h3 i r e hr he).map fun _ _ hx => hx.up hm⟩
theorem LkC.keep {ok ok' : Nat → Prop} {w w' : World} {n : Nat} {a : Option Addr} {l : List Cm} (hok : ∀ B, B < w.heap.size → ok B → ok' B) (hb : ∀ B, B < w.heap.size → ok B → w'.heap[B]? = w.heap[B]?) (h : LkC ok (IsP ok w n) w a l) : LkC ok' (IsP ok' w' n) w' a l := by
  obtain ⟨rows, h1, h2, h3⟩ := h
  exact ⟨rows, h1, h2.keep hok hb (by decide), fun i r e hr he => (h3 i r e hr he).map fun v t hv => hv.keep hok hb⟩
theorem LkC.take {ok : Nat → Prop} {R : Value → Tv → Prop} {w : World} {a : Option Addr} {l : List Cm} (h : LkC ok R w a l) (m : Nat) : LkC ok R w a (l.take m) := by
  obtain ⟨rows, h1, h2, h3⟩ := h
  exact ⟨rows.take m, by simp [h1], fun i r hr => h2 i r (get_take hr), fun i r e hr he => h3 i r e (get_take hr) (get_take he)⟩
/-- All that a plan wants of its arguments. -/
structure PlA (n : Nat) (s : Sta) (cs : Array Value) (aa : Option Addr) (asks : List Ak) (lb : Option Addr) (l : List Cm) (w : World) : Prop where
  rs : Rs w (n + 1) cs s
  sm : SmS (n + 1) s
  ak : LkA (fun b => b < w.heap.size) (IsP (fun b => b < w.heap.size) w (n + 1)) w aa asks
  sa : ∀ (i : Nat) a, asks[i]? = some a → SmallW (n + 1) a.v
  cm : LkC (fun b => b < w.heap.size) (IsP (fun b => b < w.heap.size) w (n + 1)) w lb l
  sc : ∀ (i : Nat) c, l[i]? = some c → SmallW (n + 1) c.v
theorem PlA.below {n : Nat} {s : Sta} {cs : Array Value} {aa : Option Addr} {asks : List Ak} {lb : Option Addr} {l : List Cm} {w w' : World} (h : PlA n s cs aa asks lb l w) (hb : Below w.heap.size w w') : PlA n s cs aa asks lb l w' :=
  ⟨h.rs.below hb, h.sm, h.ak.keep (fun _b hl _ => Nat.lt_of_lt_of_le hl hb.size) (fun b hl _ => hb.block b hl), h.sa, h.cm.keep (fun _b hl _ => Nat.lt_of_lt_of_le hl hb.size) (fun b hl _ => hb.block b hl), h.sc⟩
theorem PlA.take {n : Nat} {s : Sta} {cs : Array Value} {aa : Option Addr} {asks : List Ak} {lb : Option Addr} {l : List Cm} {w : World} (h : PlA n s cs aa asks lb l w) (m : Nat) : PlA n s cs aa asks lb (l.take m) w :=
  ⟨h.rs, h.sm, h.ak, h.sa, h.cm.take m, fun i c hc => h.sc i c (get_take hc)⟩
theorem PlA.mk' {n0 n1 n2 : Nat} {s : Sta} {cs : Array Value} {aa : Option Addr} {asks : List Ak} {lb : Option Addr} {l : List Cm} {w : World} (h0 : Rs w n0 cs s) (m0 : SmS n0 s) (h1 : LkA (fun b => b < w.heap.size) (IsP (fun b => b < w.heap.size) w (n1 + 1)) w aa asks) (m1 : ∀ (i : Nat) a, asks[i]? = some a → SmallW (n1 + 1) a.v) (h2 : LkC (fun b => b < w.heap.size) (IsP (fun b => b < w.heap.size) w (n2 + 1)) w lb l) (m2 : ∀ (i : Nat) c, l[i]? = some c → SmallW (n2 + 1) c.v) : PlA (n0 + n1 + n2) s cs aa asks lb l w :=
  ⟨IsS.map (fun _ _ h => h) (fun _ _ _ hv => hv) (fun _ _ h => h.up (by omega)) h0, ⟨m0.inp.up (by omega), m0.res.up (by omega), fun i u hu => ⟨(m0.up i u hu).1.up (by omega), (m0.up i u hu).2.up (by omega)⟩⟩, h1.up (by omega), fun i a ha => (m1 i a ha).up (by omega), h2.up (by omega), fun i c hc => (m2 i c hc).up (by omega)⟩
theorem PlA.plan {n : Nat} {s : Sta} {cs : Array Value} {aa : Option Addr} {asks : List Ak} {lb : Option Addr} {l : List Cm} {w : World} (h : PlA n s cs aa asks lb l w) (ac lc : Nat) (t : Int) (ht : s.tm.length ≤ 500) (hu : s.up.length ≤ 500) (ha : asks.length ≤ 1000) : Calls Tryz.prog 12 #[.agg cs, .slice aa asks.length ac, .slice lb l.length lc, .int .i64 t] w (PlP n s (.slice aa asks.length ac) asks l t w) := by
  by_cases hl : l.length ≤ 12
  · exact plan_calls n s aa ac asks l t cs lb lc w h.rs ⟨h.sm, ht, hu⟩ h.ak ha h.sa h.cm h.sc (small0.up (by omega)) hl
  · exact plan_long n s _ asks l t cs lb lc w (by omega)
/-- Whatever a plan answers. -/
theorem PlP.any {n : Nat} {s : Sta} {va : Value} {asks : List Ak} {l : List Cm} {t : Int} {w w' : World} {e : Ending} (h : PlP n s va asks l t w e w') : (∃ v1 v2 v3, e = .returned (.tuple #[v1, v2, v3])) ∧ Below w.heap.size w w' := by
  obtain ⟨⟨d, Bd, cs, ve, vr, es, rs, e, _⟩ | ⟨code, e, _⟩, hb⟩ := h
  · exact ⟨⟨_, _, _, e⟩, hb⟩
  · exact ⟨⟨_, _, _, e⟩, hb⟩
end Go.Proofs.YtcdhlklmnnmpoaaGreat
namespace Go.Proofs.YtcdhlklmnnmpoaaGreat
open Go.ChangeShapes Go.WideShapes Go.ChangeAt Go.RowKit
theorem eqS_eq {a b : ByteArray} (h : eqS a b = true) : a = b := tl_inj (by simpa [eqS] using h)
theorem eqS_refl (a : ByteArray) : eqS a a = true := by simp [eqS]
/-- There is an update of that name. -/
def hasU (s : Sta) (q : ByteArray) : Prop := ∃ u ∈ s.up, u.s = q
theorem hasU_iff (s : Sta) (q : ByteArray) : hasU s q ↔ 0 ≤ upAt s q := by
  unfold upAt
  constructor
  · rintro ⟨u, hu, e⟩
    rcases ixI_cases (fun d : Up => eqS d.s q) s.up with ⟨j, d, e1, _, _, _⟩ | ⟨_, e2⟩
    · omega
    · have := e2 u hu
      rw [e, eqS_refl] at this
      cases this
  · intro h
    rcases ixI_cases (fun d : Up => eqS d.s q) s.up with ⟨j, d, e1, e2, e3, _⟩ | ⟨e1, _⟩
    · exact ⟨d, List.mem_of_getElem? e2, eqS_eq e3⟩
    · omega
theorem hasU_none {s : Sta} {q : ByteArray} (h : ¬ hasU s q) : upAt s q = -1 := by
  rw [hasU_iff] at h
  unfold upAt at h ⊢
  rcases ixI_cases (fun d : Up => eqS d.s q) s.up with ⟨j, d, e1, _, _, _⟩ | ⟨e1, _⟩
  · omega
  · exact e1
theorem chg_up (s : Sta) (x : Ev) : (x.k ≠ 12 ∧ (chg s x).up = s.up) ∨ (x.k = 12 ∧ (chg s x).up = insL (fun d => gtS d.s x.s) s.up ⟨x.s, x.v, 1, zE⟩) ∨ (x.k ≠ 12 ∧ (chg s x).up = s.up.modify (waAt s x.s).toNat (fun u => { u with g := 2, o := x.v })) := by
  simp only [chg, apply_ite Sta.up, ch1, ch2, ch3, ch4, ch5, ch7, ch8, ch9, ch10, ch11, ch12, ch13, ch14, ch15, ch16, ch17, ch18, ch19, ite_self]
  by_cases h12 : x.k = 12
  · simp [h12]
  · by_cases h13 : x.k = 13
    · simp [h13]
    · simp [h12, h13]
theorem chg_names {s : Sta} {x : Ev} {q : ByteArray} (h : hasU s q) : hasU (chg s x) q := by
  obtain ⟨u, hu, e⟩ := h
  rcases chg_up s x with ⟨_, e1⟩ | ⟨_, e1⟩ | ⟨_, e1⟩
  · exact ⟨u, by rw [e1]; exact hu, e⟩
  · refine ⟨u, ?_, e⟩
    rw [e1]
    unfold insL
    rw [← List.take_append_drop (insI (fun d => gtS d.s x.s) s.up) s.up] at hu
    rcases List.mem_append.1 hu with h | h
    · exact List.mem_append.2 (.inl h)
    · exact List.mem_append.2 (.inr (List.mem_cons_of_mem _ h))
  · obtain ⟨i, hi⟩ := List.getElem?_of_mem hu
    by_cases ej : (waAt s x.s).toNat = i
    · refine ⟨{ u with g := 2, o := x.v }, List.mem_of_getElem? (i := i) ?_, e⟩
      rw [e1, List.getElem?_modify, hi]
      simp [ej]
    · refine ⟨u, List.mem_of_getElem? (i := i) ?_, e⟩
      rw [e1, List.getElem?_modify, hi]
      simp [ej]
theorem chg_acc {s : Sta} {x : Ev} (h : x.k = 12) : hasU (chg s x) x.s := by
  rcases chg_up s x with ⟨h1, _⟩ | ⟨_, e1⟩ | ⟨h1, _⟩
  · exact absurd h h1
  · refine ⟨⟨x.s, x.v, 1, zE⟩, ?_, rfl⟩
    rw [e1]
    unfold insL
    exact List.mem_append.2 (.inr List.mem_cons_self)
  · exact absurd h h1
/-- No update is both accepted and refused. -/
structure Apt (s0 : Sta) (asks : List Ak) (d : Dr) : Prop where
  g : ∀ q, hasU s0 q → hasU d.s q
  ev : ∀ e ∈ d.ev, e.k = 12 → hasU d.s e.s
  rf : ∀ a ∈ d.rf, (∃ b ∈ asks, b.s = a.s) ∧ ¬ hasU s0 a.s ∧ ∀ e ∈ d.ev, e.k = 12 → e.s ≠ a.s
theorem ekd_ne (k : Int) : ekd k ≠ 12 := by
  unfold ekd
  (repeat' split) <;> decide
theorem akAt_mem {l : List Ak} {q : ByteArray} (h : ¬ 0 ≤ akAt l q) : ∀ a ∈ l, a.s ≠ q := fun a ha e => by
  unfold akAt at h
  rcases ixI_cases (fun d : Ak => eqS d.s q) l with ⟨j, d, e1, _, _, _⟩ | ⟨_, e2⟩
  · omega
  · have := e2 a ha
    rw [e, eqS_refl] at this
    cases this
theorem wtg_some {asks rf : List Ak} {q : ByteArray} {a : Ak} (h : wtg asks rf q = some a) : (∃ b ∈ asks, b.s = q) ∧ ∀ a ∈ rf, a.s ≠ q := by
  unfold wtg at h
  split at h
  · cases h
  · rename_i hn
    have h2 := List.find?_some h
    exact ⟨⟨a, List.mem_of_find?_eq_some h, eqS_eq h2⟩, akAt_mem hn⟩
theorem Apt.step {s0 : Sta} {asks : List Ak} {n : Nat} {last : Bool} {t : Int} {c : Cm} {d d2 : Dr} (h : Apt s0 asks d) (hT : TkS n asks last t c d d2) : Apt s0 asks d2 := by
  have h3 := hT.2.2
  cases hw : wshR d.s asks d.rf c t with
  | no => rw [hw] at h3; exact h3.elim
  | rf =>
    rw [hw] at h3
    rw [show d2 = _ from h3]
    have key : (∃ b ∈ asks, b.s = c.s) ∧ ¬ hasU d.s c.s := by
      unfold wshR at hw
      split at hw
      · cases hx : wtg asks d.rf c.s with
        | none => rw [hx] at hw; cases hw
        | some a => rw [hx] at hw; cases hw
      · split at hw
        · unfold rejR at hw
          split at hw
          · rename_i hb
            simp only [Bool.and_eq_true, Bool.not_eq_true', decide_eq_false_iff_not] at hb
            obtain ⟨a, ha⟩ := Option.isSome_iff_exists.1 hb.1
            exact ⟨(wtg_some ha).1, fun hu => hb.2 ((hasU_iff _ _).1 hu)⟩
          · cases hw
        · cases hw
    refine ⟨h.g, h.ev, fun a ha => ?_⟩
    rcases List.mem_append.1 ha with ha | ha
    · exact h.rf a ha
    · simp at ha
      subst ha
      exact ⟨key.1, fun hu => key.2 (h.g _ hu), fun e he hk ee => key.2 (by have := h.ev e he hk; rw [show e.s = c.s from ee] at this; exact this)⟩
  | ev x =>
    rw [hw] at h3
    obtain ⟨s2, hst, e⟩ := h3
    have hs2 : s2 = chg d.s x := by have := hst.2.2; rwa [if_pos rfl] at this
    subst hs2
    rw [e]
    have key : x.k = 12 → ∀ a ∈ d.rf, x.s ≠ a.s := fun hk a ha ee => by
      unfold wshR at hw
      split at hw
      · cases hx : wtg asks d.rf c.s with
        | none => rw [hx] at hw; cases hw
        | some b =>
          rw [hx] at hw
          cases hw
          exact (wtg_some hx).2 a ha ee.symm
      · split at hw
        · unfold rejR at hw
          split at hw <;> cases hw
        · cases hw
          exact ekd_ne _ hk
    refine ⟨fun q hq => chg_names (h.g q hq), fun e he hk => ?_, fun a ha => ?_⟩
    · rcases List.mem_append.1 he with he | he
      · exact chg_names (h.ev e he hk)
      · simp at he
        subst he
        exact chg_acc hk
    · obtain ⟨a1, a2, a3⟩ := h.rf a ha
      refine ⟨a1, a2, fun e he hk => ?_⟩
      rcases List.mem_append.1 he with he | he
      · exact a3 e he hk
      · simp at he
        subst he
        exact key hk a ha
theorem RunP.apt {s0 : Sta} {asks : List Ak} {n : Nat} {t : Int} {l : List Cm} : ∀ {j : Nat} {d d2 : Dr}, Apt s0 asks d → RunP n asks t l j d d2 → Apt s0 asks d2
  | 0, d, d2, h, hr => by rw [show d2 = d from hr]; exact h
  | j + 1, d, d2, h, ⟨d1, c, h1, _, h3⟩ => (RunP.apt h h1).step h3
/-- What a plan answers, as far as it is asked here. -/
def PaP (n : Nat) (s : Sta) (asks : List Ak) (w : World) (e : Ending) (w' : World) : Prop :=
  (∃ (E : List Ev) (R : List Ak) (ea ra : Option Addr) (ec rc : Nat) (v : Value), e = .returned (.tuple #[.slice ea E.length ec, .slice ra R.length rc, v]) ∧ E.length ≤ 12 ∧ R.length ≤ 12 ∧ LkE (fun _ => True) (Is w' (n + 1)) w' ea E ∧ LkA (fun _ => True) (Is w' (n + 1)) w' ra R ∧ ∀ a ∈ R, (∃ b ∈ asks, b.s = a.s) ∧ ¬ hasU s a.s ∧ ∀ e ∈ E, e.k = 12 → e.s ≠ a.s) ∧ Below w.heap.size w w'
theorem PlP.pa {n : Nat} {s : Sta} {va : Value} {asks : List Ak} {l : List Cm} {t : Int} {w w' : World} {e : Ending} (h : PlP n s va asks l t w e w') : PaP n s asks w e w' := by
  obtain ⟨⟨d, Bd, cs, ve, vr, es, rs, rfl, hl, hrun, hD⟩ | ⟨code, rfl, _, _⟩, hb⟩ := h
  · obtain ⟨ea, ec, rfl⟩ := owns_shape hD.evo
    obtain ⟨ra, rc, rfl⟩ := owns_shape hD.rfo
    have hlen := hrun.len
    have hap : Apt s asks d := RunP.apt ⟨fun q h => h, fun e he => by simp at he, fun a ha => by simp at ha⟩ hrun
    simp at hlen
    exact ⟨⟨d.ev, d.rf, ea, ra, ec, rc, _, by rw [hD.evl, hD.rfn], by omega, by omega, hD.evs, hD.rfs, hap.rf⟩, hb⟩
  · exact ⟨⟨[], [], none, none, 0, 0, _, rfl, by simp, by simp, ⟨[], rfl, fun i r h => by simp at h, fun i r e h => by simp at h⟩, ⟨[], rfl, fun i r h => by simp at h, fun i r e h => by simp at h⟩, fun a ha => by simp at ha⟩, hb⟩
set_option maxHeartbeats 4000000 in
set_option maxRecDepth 100000 in
theorem rupd_none (n : Nat) (cs : Array Value) (s : Sta) (q : ByteArray) (w : World) (h : Rs w n cs s) (hl : s.up.length ≤ 1000) (hq : ¬ hasU s q) : Calls Tryz.prog 13 #[.agg cs, .string q] w (UbP false w) := by
  obtain ⟨ua, uc, us, c24, hul, hrow, hIs⟩ := h.up
  have hi2 : (Tryz.prog.info? 50).map (·.size) = some zU.size := info40s zU rfl
  have a2 : zU.all (·.oneCell') = true := by kernel_rfl
  have HQ : Hid (∀ w', Below w.heap.size w w' → UbP false w (.returned (.tuple #[.agg zU, .bool false])) w') := fun w' h2 => ⟨⟨zU, rfl, rfl, fun j v hv => Array.all_eq_true_iff_forall_mem.1 a2 v (Array.mem_of_getElem? hv)⟩, h2⟩
  generalize UbP false w = Q at HQ ⊢
  have HR : Hid (us.length = s.up.length ∧ RowS (fun _ => True) w ua 12 us ∧ ∀ (i : Nat) r u, us[i]? = some r → s.up[i]? = some u → IsU (Is w n) r u) := ⟨hul, hrow, hIs⟩
  have HN : Hid (∀ u ∈ s.up, (u.s.toList == q.toList) = false) := fun u hu => by
    cases hx : (u.s.toList == q.toList) with
    | false => rfl
    | true => exact absurd ⟨u, hu, eqS_eq hx⟩ hq
  have HLn : Hid (s.up.length ≤ 1000) := hl
  have r0 : ((w.alloc (.cells cs 41)).alloc (.cells zU 50)).heap[w.heap.size]? = some (.cells cs 41 (0, 0)) := heap_alloc2_old _ _ _
  have u0 : ((w.alloc (.cells cs 41)).alloc (.cells zU 50)).heap[w.heap.size + 1]? = some (.cells zU 50 (0, 0)) := heap_alloc2_new _ _ _
  have b0 : Hid (Below w.heap.size w ((w.alloc (.cells cs 41)).alloc (.cells zU 50))) := bel2 (bel1 _ _) (bel1 _ _)
  clear h hl hq hul hrow hIs
  generalize hN : s.up.length = N at c24
  have HNN : Hid (s.up.length = N) := hN
  clear hN
  go_enter Tryz.func13, Tryz.ntmps13
  go_upto_region 1 with fail
  change Code.wp _ _ _ _ ((w.alloc (.cells cs 41)).alloc (.cells zU 50))
  generalize (w.alloc (.cells cs 41)).alloc (.cells zU 50) = W0 at r0 u0 b0 ⊢
  have g24 : W0.cell? ⟨w.heap.size, 24, none⟩ = some (.slice ua N uc) := row_cell r0 c24
  have H0 : Hid (W0.heap[w.heap.size + 1]? = some (.cells zU 50 (0, 0))) := u0
  clear r0 u0
  go_wp2_with fail
  go_loopw [6] (fun i wr => ∃ j : Nat, j ≤ N ∧ i = .int .i64 (j : Int) ∧ wr = W0) (fun i _ => N - (intOf i).toNat)
  case atStart => exact ⟨0, Nat.zero_le _, rfl, rfl⟩
  case round =>
    obtain ⟨j, hj, rfl, rfl⟩ := hrel
    by_cases hlt : j < N
    · obtain ⟨u, hu⟩ : ∃ u, s.up[j]? = some u := ⟨_, List.getElem?_eq_getElem (by have := HNN.out; omega)⟩
      obtain ⟨r, hr⟩ : ∃ r, us[j]? = some r := ⟨_, List.getElem?_eq_getElem (by have := HNN.out; have := HR.out.1; omega)⟩
      obtain ⟨_, _, B, o, rfl, _, hs⟩ := HR.out.2.1 j r hr
      have x0 : wr.cell? ⟨B, o + j * 12, none⟩ = some (.string u.s) := cellW (hs 0 _ (HR.out.2.2 j r u hr hu).c0) b0.out
      have hne := HN.out u (List.mem_of_getElem? hu)
      have hjl : (j : Int) < (N : Int) := by omega
      have HW1 : Hid (wrap64 ((j : Int) + 1) = ((j + 1 : Nat) : Int)) := wr1 hlt (by have := HNN.out; have := HLn.out; omega)
      clear hu hr hs
      go_wp2_with fail
      exact ⟨⟨j + 1, hlt, by first | rw [HW1.out] | exact congrArg _ (Int.natCast_succ j).symm, by first | trivial | rfl⟩, by first | exact meas hlt HW1.out | exact meas hlt (Int.natCast_succ j).symm⟩
    · obtain rfl : j = N := by omega
      have u2 := H0.out
      go_wp2_with (refine wpList_store_row rfl 50 _ _ rfl (w.heap.size + 1) zU rfl rfl 50 zU u2 hi2 rfl a2 ?_)
      have k9 : (wr.setRow (w.heap.size + 1) zU).heap[w.heap.size + 1]? = some (.cells zU 50 (0, 0)) := setRow_heap wr _ _ _ _ _ u2
      have hl : (loadVar 50 ⟨w.heap.size + 1, 0, none⟩).run Tryz.prog (wr.setRow (w.heap.size + 1) zU) = .ok (.agg zU) (wr.setRow (w.heap.size + 1) zU) := run_loadVar_row _ (w.heap.size + 1) 50 50 zU (0, 0) _ k9 Tryz.underlying50 rfl hi2
      exact bodyPost_ret (v := .tuple #[.agg zU, .bool false]) (ret_cell_tmp Tryz.results13 _ rfl rfl hl) rfl (HQ.out _ (below_setRow b0.out (by omega) _))
end Go.Proofs.YtcdhlklmnnmpoaaGreat
namespace Go.Proofs.YtcdhlklmnnmpoaaGreat
open Go.ChangeShapes Go.WideShapes Go.ChangeAt Go.RowKit
theorem seen_more {asks : List Ak} {q : ByteArray} {j : Nat} {b : Ak} {bb r : Bool} (hb : asks[j]? = some b) (h : bb = true ↔ ∃ i b, i < j ∧ asks[i]? = some b ∧ b.s = q) (hr : r = true ↔ (bb = true ∨ b.s = q)) : r = true ↔ ∃ i b, i < j + 1 ∧ asks[i]? = some b ∧ b.s = q := by
  rw [hr, h]
  constructor
  · rintro (⟨i, b', h1, h2, h3⟩ | e)
    · exact ⟨i, b', by omega, h2, h3⟩
    · exact ⟨j, b, by omega, hb, e⟩
  · rintro ⟨i, b', h1, h2, h3⟩
    by_cases e : i = j
    · subst e
      rw [hb] at h2
      cases h2
      exact .inr h3
    · exact .inl ⟨i, b', by omega, h2, h3⟩
set_option maxHeartbeats 8000000 in
set_option maxRecDepth 100000 in
theorem apart_many (n : Nat) (s : Sta) (cs : Array Value) (aa : Option Addr) (asks : List Ak) (ac : Nat) (lb : Option Addr) (l : List Cm) (lc : Nat) (w : World) (h : PlA n s cs aa asks lb l w) (hf : ¬ s.tm.length + s.up.length + asks.length + l.length ≤ 200) : Calls Tryz.prog 4 #[.agg cs, .slice aa asks.length ac, .slice lb l.length lc] w fun e w' => e = .returned (.bool true) ∧ Below w.heap.size w w' := by
  obtain ⟨ta, tc, c23, _⟩ := h.rs.tm
  obtain ⟨ua, uc, us, c24, _⟩ := h.rs.up
  have hi41 := info33s cs h.rs.size
  have KF : Hid (∀ W, Calls Tryz.prog 11 #[.agg cs, .slice aa asks.length ac, .slice lb l.length lc] W fun e w' => e = .returned (.bool (decide (s.tm.length + s.up.length + asks.length + l.length ≤ 200))) ∧ Below W.heap.size W w') := fun W => few_calls cs ta ua aa lb _ tc _ uc _ ac _ lc W c23 c24
  have KA : Hid (∀ W, Calls Tryz.prog 10 #[] W fun e w' => e = .returned (.bool true) ∧ Below W.heap.size W w') := fun W => awake_calls W
  have r0 : (w.alloc (.cells cs 41)).heap[w.heap.size]? = some (.cells cs 41 (0, 0)) := heap_alloc_new w _
  have b0 : Hid (Below w.heap.size w (w.alloc (.cells cs 41))) := bel1 _ _
  rw [decide_eq_false hf] at KF
  clear h hf c23 c24
  generalize asks.length = na at KF ⊢
  generalize l.length = N at KF ⊢
  go_enter Tryz.func4, Tryz.ntmps4
  go_upto_region 1 with fail
  generalize w.alloc (.cells cs 41) = W0 at r0 b0 ⊢
  go_wp2_with (refine wpList_load_row rfl 41 _ rfl w.heap.size rfl 41 cs (0, 0) _ r0 Tryz.underlying41 rfl hi41 ?_)
  refine (KF.out _).mono ?_
  rintro e w1 ⟨rfl, hb⟩
  have b1 : Hid (Below w.heap.size w w1) := bel2 b0.out hb
  clear hb r0
  go_wp2_with fail
  refine (KA.out _).mono ?_
  rintro e w2 ⟨rfl, hb⟩
  have b2 : Hid (Below w.heap.size w w2) := bel2 b1.out hb
  clear hb
  go_wp2_with fail
  go_ret
  exact ⟨rfl, b2.out⟩
set_option maxHeartbeats 8000000 in
set_option maxRecDepth 100000 in
theorem apart_main (n : Nat) (s : Sta) (cs : Array Value) (aa : Option Addr) (asks : List Ak) (ac : Nat) (lb : Option Addr) (l : List Cm) (lc : Nat) (w : World) (h : PlA n s cs aa asks lb l w) (hf : s.tm.length + s.up.length + asks.length + l.length ≤ 200) : Calls Tryz.prog 4 #[.agg cs, .slice aa asks.length ac, .slice lb l.length lc] w fun e w' => e = .returned (.bool true) ∧ Below w.heap.size w w' := by
  obtain ⟨ta, tc, c23, _⟩ := h.rs.tm
  obtain ⟨ua, uc, us, c24, _⟩ := h.rs.up
  have hi41 := info33s cs h.rs.size
  have KF : Hid (∀ W, Calls Tryz.prog 11 #[.agg cs, .slice aa asks.length ac, .slice lb l.length lc] W fun e w' => e = .returned (.bool (decide (s.tm.length + s.up.length + asks.length + l.length ≤ 200))) ∧ Below W.heap.size W w') := fun W => few_calls cs ta ua aa lb _ tc _ uc _ ac _ lc W c23 c24
  have KA : Hid (∀ W, Calls Tryz.prog 10 #[] W fun e w' => e = .returned (.bool true) ∧ Below W.heap.size W w') := fun W => awake_calls W
  have r0 : (w.alloc (.cells cs 41)).heap[w.heap.size]? = some (.cells cs 41 (0, 0)) := heap_alloc_new w _
  have b0 : Hid (Below w.heap.size w (w.alloc (.cells cs 41))) := bel1 _ _
  rw [decide_eq_true hf] at KF
  have c3 := h.rs.c3
  have K1 : Hid (∀ W, Below w.heap.size w W → Calls Tryz.prog 12 #[.agg cs, .slice aa asks.length ac, .slice lb l.length lc, .int .i64 s.time] W (PaP n s asks W)) := fun W hb => ((h.below hb).plan ac lc s.time (by omega) (by omega) (by omega)).mono fun e w' hp => hp.pa
  have KU : Hid (∀ W q, Below w.heap.size w W → ¬ hasU s q → Calls Tryz.prog 13 #[.agg cs, .string q] W (UbP false W)) := fun W q hb hq => rupd_none (n + 1) cs s q W (h.rs.below hb) (by omega) hq
  have HNm : Hid (Nms w aa asks) := h.ak.nms
  have HAl : Hid (asks.length ≤ 200) := by show asks.length ≤ 200; omega
  clear h hf c23 c24
  generalize hna : asks.length = na at KF K1
  have HNA : Hid (asks.length = na) := hna
  clear hna
  generalize l.length = N at KF K1 ⊢
  go_enter Tryz.func4, Tryz.ntmps4
  go_upto_region 1 with fail
  generalize w.alloc (.cells cs 41) = W0 at r0 b0 ⊢
  go_wp2_with (refine wpList_load_row rfl 41 _ rfl w.heap.size rfl 41 cs (0, 0) _ r0 Tryz.underlying41 rfl hi41 ?_)
  refine (KF.out _).mono ?_
  rintro e w1 ⟨rfl, hb⟩
  have b1 : Hid (Below w.heap.size w w1) := bel2 b0.out hb
  have r1 := row_below hb r0
  have y3 : w1.cell? ⟨w.heap.size, 3, none⟩ = some (.int .i64 s.time) := row_cell r1 c3
  clear hb r0
  go_wp2_with (refine wpList_load_row rfl 41 _ rfl w.heap.size rfl 41 cs (0, 0) _ r1 Tryz.underlying41 rfl hi41 ?_)
  refine (K1.out _ b1.out).mono ?_
  rintro e w2 ⟨⟨E, R, ea, ra, ec, rc, v, rfl, lE, lR, hE, hR, hap⟩, hb⟩
  have b2 : Hid (Below w.heap.size w w2) := bel2 b1.out hb
  have HR0 : Hid (w2.heap[w.heap.size]? = some (.cells cs 41 (0, 0))) := row_below hb r1
  have HEE : Hid (LkE (fun _ => True) (Is w2 (n + 1)) w2 ea E) := hE
  have HRR : Hid (LkA (fun _ => True) (Is w2 (n + 1)) w2 ra R) := hR
  have HAP : Hid (∀ a ∈ R, (∃ b ∈ asks, b.s = a.s) ∧ ¬ hasU s a.s ∧ ∀ e ∈ E, e.k = 12 → e.s ≠ a.s) := hap
  have HLL : Hid (E.length ≤ 12 ∧ R.length ≤ 12) := ⟨lE, lR⟩
  clear hb r1 y3 lE lR hE hR hap K1 KF c3
  generalize hne : E.length = NE
  have HNE : Hid (E.length = NE) := hne
  clear hne
  generalize hnr : R.length = NR
  have HNR : Hid (R.length = NR) := hnr
  clear hnr
  go_wp2_with fail
  go_loopw [11, 12, 14, 15, 16, 18, 37] (fun _ _ _ _ _ _ i wr => ∃ j : Nat, j ≤ NR ∧ i = .int .i64 (j : Int) ∧ Hid (Below w2.heap.size w2 wr)) (fun _ _ _ _ _ _ i _ => NR - (intOf i).toNat)
  case atStart => exact ⟨0, Nat.zero_le _, rfl, Below.refl _ _⟩
  case round =>
    obtain ⟨j, hj, rfl, HBw⟩ := hrel
    by_cases hlt : j < NR
    · obtain ⟨a, ha⟩ : ∃ a, R[j]? = some a := ⟨_, List.getElem?_eq_getElem (by have := HNR.out; omega)⟩
      obtain ⟨rows, q1, q2, q3⟩ := HRR.out
      obtain ⟨r, hr⟩ : ∃ r, rows[j]? = some r := ⟨_, List.getElem?_eq_getElem (by have := HNR.out; omega)⟩
      obtain ⟨_, _, Ba, oa, rfl, _, hs⟩ := q2 j r hr
      obtain ⟨pk, px, pb, ps, pl, pm, pc, rfl, _⟩ := (q3 j r a hr ha).lit
      have ga : wr.rangeAt Ba (oa + j * 7) (#[.int .i64 a.o, .string a.s, .int .i64 pk, .int .i64 px, .int .u64 pb, .string ps, .slice pl pm pc] : Array Value).toList := fun i v hv => cellW (lies_range hs i v hv) HBw.out
      have i48 : (Tryz.prog.info? 48).map (·.size) = some 7 := info48s zA rfl
      have aA : (#[.int .i64 a.o, .string a.s, .int .i64 pk, .int .i64 px, .int .u64 pb, .string ps, .slice pl pm pc] : Array Value).all (·.oneCell') = true := by simp [Value.oneCell']
      have hjl : (j : Int) < (NR : Int) := by omega
      have HW1 : Hid (wrap64 ((j : Int) + 1) = ((j + 1 : Nat) : Int)) := wr1 hlt (by have := HNR.out; have := HLL.out; omega)
      have n8 : (wr.alloc (.cells zA 48)).heap[wr.heap.size]? = some (.cells zA 48 (0, 0)) := heap_alloc_new wr _
      have HPa := HAP.out a (List.mem_of_getElem? ha)
      have HP : Hid ((∃ b ∈ asks, b.s = a.s) ∧ ¬ hasU s a.s ∧ ∀ e ∈ E, e.k = 12 → e.s ≠ a.s) := HPa
      clear HPa q1 q2 q3 hr hs ha
      go_upto_region 7 with (first | refine wpList_load_mid rfl 48 _ rfl Ba (oa + j * 7) rfl (#[.int .i64 a.o, .string a.s, .int .i64 pk, .int .i64 px, .int .u64 pb, .string ps, .slice pl pm pc] : Array Value).toList _ ga Tryz.underlying48 rfl i48 ?_ | refine wpList_store_row rfl 48 _ _ rfl wr.heap.size #[.int .i64 a.o, .string a.s, .int .i64 pk, .int .i64 px, .int .u64 pb, .string ps, .slice pl pm pc] rfl rfl 48 zA n8 i48 rfl aA ?_)
      rw [World.setRow_alloc_new]
      have hb1 := bel1 wr (.cells #[.int .i64 a.o, .string a.s, .int .i64 pk, .int .i64 px, .int .u64 pb, .string ps, .slice pl pm pc] 48)
      have B1 : Hid (Below w2.heap.size w2 (wr.alloc (.cells #[.int .i64 a.o, .string a.s, .int .i64 pk, .int .i64 px, .int .u64 pb, .string ps, .slice pl pm pc] 48))) := bel2 HBw.out hb1
      have R11 : Hid ((wr.alloc (.cells #[.int .i64 a.o, .string a.s, .int .i64 pk, .int .i64 px, .int .u64 pb, .string ps, .slice pl pm pc] 48)).heap[wr.heap.size]? = some (.cells #[.int .i64 a.o, .string a.s, .int .i64 pk, .int .i64 px, .int .u64 pb, .string ps, .slice pl pm pc] 48 (0, 0))) := heap_alloc_new wr _
      clear hb1 ga n8 aA
      generalize wr.heap.size = g11 at R11 ⊢
      generalize wr.alloc (.cells #[.int .i64 a.o, .string a.s, .int .i64 pk, .int .i64 px, .int .u64 pb, .string ps, .slice pl pm pc] 48) = W1 at B1 R11 ⊢
      go_wp2_with fail
      go_loopw [12, 14, 43] (fun bv _ i wx => ∃ (jj : Nat) (bb : Bool), jj ≤ na ∧ i = .int .i64 (jj : Int) ∧ bv = .bool bb ∧ Hid (bb = true ↔ ∃ i b, i < jj ∧ asks[i]? = some b ∧ b.s = a.s) ∧ Hid (Below W1.heap.size W1 wx)) (fun _ _ i _ => na - (intOf i).toNat)
      case atStart => exact ⟨0, false, Nat.zero_le _, rfl, rfl, ⟨fun h => (by cases h), fun ⟨i, b, h, _⟩ => absurd h (Nat.not_lt_zero _)⟩, Below.refl _ _⟩
      case round =>
        obtain ⟨jj, bb, hjj, rfl, rfl, HS, HBx⟩ := hrel
        by_cases hltj : jj < na
        · obtain ⟨b, hb⟩ : ∃ b, asks[jj]? = some b := ⟨_, List.getElem?_eq_getElem (by have := HNA.out; omega)⟩
          obtain ⟨rows, q1, q2, q3⟩ := HNm.out
          obtain ⟨r, hr⟩ : ∃ r, rows[jj]? = some r := ⟨_, List.getElem?_eq_getElem (by have := HNA.out; omega)⟩
          obtain ⟨_, _, Bb, ob, rfl, _, hs⟩ := q2 jj r hr
          obtain ⟨qk, qx, qb, qs, ql, qm, qc, rfl, _⟩ := (q3 jj r b hr hb).lit
          have BB : Hid (Below w.heap.size w wr) := bel2 b2.out (bel2 B1.out HBx.out)
          have gb : wr.rangeAt Bb (ob + jj * 7) (#[.int .i64 b.o, .string b.s, .int .i64 qk, .int .i64 qx, .int .u64 qb, .string qs, .slice ql qm qc] : Array Value).toList := fun i v hv => cellW (lies_range hs i v hv) BB.out
          have aB : (#[.int .i64 b.o, .string b.s, .int .i64 qk, .int .i64 qx, .int .u64 qb, .string qs, .slice ql qm qc] : Array Value).all (·.oneCell') = true := by simp [Value.oneCell']
          have hjl2 : (jj : Int) < (na : Int) := by omega
          have HW2 : Hid (wrap64 ((jj : Int) + 1) = ((jj + 1 : Nat) : Int)) := wr1 hltj (by have := HNA.out; have := HAl.out; omega)
          have n9 : (wr.alloc (.cells zA 48)).heap[wr.heap.size]? = some (.cells zA 48 (0, 0)) := heap_alloc_new wr _
          have Hb : Hid (asks[jj]? = some b) := hb
          clear q1 q2 q3 hr hs hb
          go_upto_region 11 with (first | refine wpList_load_mid rfl 48 _ rfl Bb (ob + jj * 7) rfl (#[.int .i64 b.o, .string b.s, .int .i64 qk, .int .i64 qx, .int .u64 qb, .string qs, .slice ql qm qc] : Array Value).toList _ gb Tryz.underlying48 rfl i48 ?_ | refine wpList_store_row rfl 48 _ _ rfl wr.heap.size #[.int .i64 b.o, .string b.s, .int .i64 qk, .int .i64 qx, .int .u64 qb, .string qs, .slice ql qm qc] rfl rfl 48 zA n9 i48 rfl aB ?_)
          rw [World.setRow_alloc_new]
          have hb3 := bel1 wr (.cells #[.int .i64 b.o, .string b.s, .int .i64 qk, .int .i64 qx, .int .u64 qb, .string qs, .slice ql qm qc] 48)
          have HB3 : Hid (Below W1.heap.size W1 (wr.alloc (.cells #[.int .i64 b.o, .string b.s, .int .i64 qk, .int .i64 qx, .int .u64 qb, .string qs, .slice ql qm qc] 48))) := bel2 HBx.out hb3
          have x14 : (wr.alloc (.cells #[.int .i64 b.o, .string b.s, .int .i64 qk, .int .i64 qx, .int .u64 qb, .string qs, .slice ql qm qc] 48)).cell? ⟨wr.heap.size, 1, none⟩ = some (.string b.s) := row_cell (heap_alloc_new wr _) rfl
          have x11 : (wr.alloc (.cells #[.int .i64 b.o, .string b.s, .int .i64 qk, .int .i64 qx, .int .u64 qb, .string qs, .slice ql qm qc] 48)).cell? ⟨g11, 1, none⟩ = some (.string a.s) := row_cell (row_below HB3.out R11.out) rfl
          clear hb3 gb n9 aB
          generalize wr.alloc (.cells #[.int .i64 b.o, .string b.s, .int .i64 qk, .int .i64 qx, .int .u64 qb, .string qs, .slice ql qm qc] 48) = W3 at HB3 x14 x11 ⊢
          cases bb with
          | true =>
            have HS2 : Hid (true = true ↔ ∃ i b, i < jj + 1 ∧ asks[i]? = some b ∧ b.s = a.s) := seen_more Hb.out HS.out (by simp)
            clear x14 x11
            go_wp2_with fail
            exact ⟨⟨jj + 1, true, hltj, by first | rw [HW2.out] | exact congrArg _ (Int.natCast_succ jj).symm, rfl, HS2, HB3⟩, by first | exact meas hltj HW2.out | exact meas hltj (Int.natCast_succ jj).symm⟩
          | false =>
            obtain ⟨pz, hpz⟩ : ∃ pz : Bool, (a.s.toList == b.s.toList) = pz := ⟨_, rfl⟩
            have HS2 : Hid (pz = true ↔ ∃ i b, i < jj + 1 ∧ asks[i]? = some b ∧ b.s = a.s) := seen_more Hb.out HS.out (by
              rw [← hpz]
              constructor
              · intro h; exact .inr (eqS_eq h).symm
              · rintro (h | h)
                · cases h
                · rw [h]; exact eqS_refl _)
            go_wp2_with fail
            exact ⟨⟨jj + 1, pz, hltj, by first | rw [HW2.out] | exact congrArg _ (Int.natCast_succ jj).symm, by first | rfl | rw [hpz], HS2, HB3⟩, by first | exact meas hltj HW2.out | exact meas hltj (Int.natCast_succ jj).symm⟩
        · obtain rfl : jj = na := by omega
          obtain rfl : bb = true := HS.out.2 (by
            obtain ⟨b, hb, e⟩ := HP.out.1
            obtain ⟨i, hi⟩ := List.getElem?_of_mem hb
            exact ⟨i, b, by have := (List.getElem?_eq_some_iff.1 hi).1; have := HNA.out; omega, hi, e⟩)
          have BB : Hid (Below w.heap.size w wr) := bel2 b2.out (bel2 B1.out HBx.out)
          have r3 := row_below (bel2 B1.out HBx.out) HR0.out
          have R11' := row_below HBx.out R11.out
          have x11 : wr.cell? ⟨g11, 1, none⟩ = some (.string a.s) := row_cell R11' rfl
          have B2' : Hid (Below w2.heap.size w2 wr) := bel2 B1.out HBx.out
          clear HS
          go_upto_region 13 with fail
          go_wp2_with (refine wpList_load_row rfl 41 _ rfl w.heap.size rfl 41 cs (0, 0) _ r3 Tryz.underlying41 rfl hi41 ?_)
          refine (KU.out _ a.s BB.out HP.out.2.1).mono ?_
          rintro e w4 ⟨⟨us, rfl, hus, hou⟩, hb4⟩
          have hi50 := info40s us hus
          have z50 : zU.size = us.size := hus.symm
          have a50 := all_one hou
          have n4 : (w4.alloc (.cells zU 50)).heap[w4.heap.size]? = some (.cells zU 50 (0, 0)) := heap_alloc_new w4 _
          have B4 : Hid (Below w2.heap.size w2 (w4.alloc (.cells us 50))) := bel2 B2'.out (bel2 hb4 (bel1 _ _))
          have R11b : Hid ((w4.alloc (.cells us 50)).heap[g11]? = some (.cells #[.int .i64 a.o, .string a.s, .int .i64 pk, .int .i64 px, .int .u64 pb, .string ps, .slice pl pm pc] 48 (0, 0))) := row_below (bel2 hb4 (bel1 _ _)) R11'
          clear hb4 r3 R11' x11 hus hou BB
          go_upto_region 14 with (refine wpList_store_row rfl 50 _ _ rfl w4.heap.size us rfl rfl 50 zU n4 hi50 z50 a50 ?_)
          rw [World.setRow_alloc_new]
          clear n4 hi50 z50 a50
          generalize w4.alloc (.cells us 50) = W5 at B4 R11b ⊢
          go_wp2_with fail
          go_loopw [18, 70] (fun _ i wy => ∃ k : Nat, k ≤ NE ∧ i = .int .i64 (k : Int) ∧ Hid (Below W5.heap.size W5 wy)) (fun _ i _ => NE - (intOf i).toNat)
          case atStart => exact ⟨0, Nat.zero_le _, rfl, Below.refl _ _⟩
          case round =>
            obtain ⟨k, hk, rfl, HBy⟩ := hrel
            by_cases hltk : k < NE
            · obtain ⟨x, hx⟩ : ∃ x, E[k]? = some x := ⟨_, List.getElem?_eq_getElem (by have := HNE.out; omega)⟩
              obtain ⟨rows, q1, q2, q3⟩ := HEE.out
              obtain ⟨r, hr⟩ : ∃ r, rows[k]? = some r := ⟨_, List.getElem?_eq_getElem (by have := HNE.out; omega)⟩
              obtain ⟨hz, ho, Be, oe, rfl, _, hs⟩ := q2 k r hr
              have hi := q3 k r x hr hx
              have ge : wr.rangeAt Be (oe + k * 13) r.toList := fun i v hv => cellW (lies_range hs i v hv) (bel2 B4.out HBy.out)
              have i54 : (Tryz.prog.info? 54).map (·.size) = some r.toList.length := rfl13 hz
              have i54' := info46s r hz
              have z54 : zV13.size = r.size := hz.symm
              have a54 := all_one ho
              have hkl : (k : Int) < (NE : Int) := by omega
              have HW3 : Hid (wrap64 ((k : Int) + 1) = ((k + 1 : Nat) : Int)) := wr1 hltk (by have := HNE.out; have := HLL.out; omega)
              have n6 : (wr.alloc (.cells zV13 54)).heap[wr.heap.size]? = some (.cells zV13 54 (0, 0)) := heap_alloc_new wr _
              have Hc0 := hi.c0
              have Hc4 := hi.c4
              have HXn : Hid (x.k = 12 → x.s ≠ a.s) := HP.out.2.2 x (List.mem_of_getElem? hx)
              clear q1 q2 q3 hr hs hx hz ho hi
              go_upto_region 19 with (first | refine wpList_load_mid rfl 54 _ rfl Be (oe + k * 13) rfl r.toList _ ge Tryz.underlying54 rfl i54 ?_ | refine wpList_store_row rfl 54 _ _ rfl wr.heap.size r rfl rfl 54 zV13 n6 i54' z54 a54 ?_)
              rw [World.setRow_alloc_new]
              have hb7 := bel1 wr (.cells r 54)
              have HB7 : Hid (Below W5.heap.size W5 (wr.alloc (.cells r 54))) := bel2 HBy.out hb7
              have y0 : (wr.alloc (.cells r 54)).cell? ⟨wr.heap.size, 0, none⟩ = some (.int .i64 x.k) := row_cell (heap_alloc_new wr _) Hc0
              have y4 : (wr.alloc (.cells r 54)).cell? ⟨wr.heap.size, 4, none⟩ = some (.string x.s) := row_cell (heap_alloc_new wr _) Hc4
              have y11 : (wr.alloc (.cells r 54)).cell? ⟨g11, 1, none⟩ = some (.string a.s) := row_cell (row_below HB7.out R11b.out) rfl
              clear hb7 ge n6 i54 i54' z54 a54 Hc0 Hc4
              generalize wr.alloc (.cells r 54) = W7 at HB7 y0 y4 y11 ⊢
              by_cases h12 : x.k = 12
              · have hd : (x.s.toList == a.s.toList) = false := by
                  cases hq : (x.s.toList == a.s.toList) with
                  | false => rfl
                  | true => exact absurd (eqS_eq hq) (HXn.out h12)
                rw [h12] at y0
                clear h12
                go_wp2_with fail
                exact ⟨⟨k + 1, hltk, by first | rw [HW3.out] | exact congrArg _ (Int.natCast_succ k).symm, HB7⟩, by first | exact meas hltk HW3.out | exact meas hltk (Int.natCast_succ k).symm⟩
              · have hd : (x.k == 12) = false := by simpa using h12
                clear h12
                go_wp2_with fail
                exact ⟨⟨k + 1, hltk, by first | rw [HW3.out] | exact congrArg _ (Int.natCast_succ k).symm, HB7⟩, by first | exact meas hltk HW3.out | exact meas hltk (Int.natCast_succ k).symm⟩
            · obtain rfl : k = NE := by omega
              have HBz : Hid (Below w2.heap.size w2 wr) := bel2 B4.out HBy.out
              go_wp2_with fail
              exact ⟨⟨j + 1, hlt, by first | rw [HW1.out] | exact congrArg _ (Int.natCast_succ j).symm, HBz⟩, by first | exact meas hlt HW1.out | exact meas hlt (Int.natCast_succ j).symm⟩
    · obtain rfl : j = NR := by omega
      go_wp2_with fail
      refine (KA.out _).mono ?_
      rintro e w6 ⟨rfl, hb6⟩
      have B6 : Hid (Below w.heap.size w w6) := bel2 b2.out (bel2 HBw.out hb6)
      clear hb6
      go_wp2_with fail
      go_ret
      exact ⟨rfl, B6.out⟩
theorem apart_walk (n : Nat) (s : Sta) (cs : Array Value) (aa : Option Addr) (asks : List Ak) (ac : Nat) (lb : Option Addr) (l : List Cm) (lc : Nat) (w : World) (h : PlA n s cs aa asks lb l w) : Calls Tryz.prog 4 #[.agg cs, .slice aa asks.length ac, .slice lb l.length lc] w fun e w' => e = .returned (.bool true) ∧ Below w.heap.size w w' := by
  by_cases hf : s.tm.length + s.up.length + asks.length + l.length ≤ 200
  · exact apart_main n s cs aa asks ac lb l lc w h hf
  · exact apart_many n s cs aa asks ac lb l lc w h hf
end Go.Proofs.YtcdhlklmnnmpoaaGreat
namespace Go.Proofs.YtcdhlklmnnmpoaaGreat.commandApart
open Go.ChangeShapes Go.WideShapes Go.ChangeAt Go.RowKit

theorem own : ownKnob Tryz.prog.godebug = none := by kernel_rfl
theorem laidOut : laidOutB Tryz.prog = true := by kernel_rfl

theorem aggN {v : Value} {k : Nat} (h : v.cells.size = k + 2) : v = .agg v.cells := by
  cases v with
  | agg cs => rfl
  | _ => simp [Value.cells] at h
theorem oneS {v : Value} {a : Option Addr} {n c : Nat} (h : v.cells.toList = [.slice a n c]) (hv : ∃ a' n' c', v = .slice a' n' c') : v = .slice a n c := by
  obtain ⟨a', n', c', rfl⟩ := hv
  simp [Value.cells] at h
  obtain ⟨rfl, rfl, rfl⟩ := h
  rfl

set_option maxRecDepth 100000 in
theorem lifted (os : Go.Os) (started : os.Started) (H : Type) (enc : TypeId × Value → H) :
    ReturnsInHanded {} Tryz.checked os 4 .any (Rows.commandApartSpec.pre6 enc Tryz.prog Tryz.f4 Rows.commandApartRow.domain false) (Rows.commandApartSpec.post enc Tryz.prog Tryz.f4 false true false false) := by
  refine returnsInHanded_of_change_sized (C := Tryz.checked) own started (by kernel_rfl) Tryz.func4
    (ChangeSpec.witness6 (enc := enc) (C := Tryz.checked) false ⟨#[], #[.agg #[.int .i64 0, .int .i64 0, .int .i64 0, .int .i64 0, .int .i64 0, .int .i64 0, .int .i64 0, .string ⟨#[]⟩, .int .i64 0, .int .i64 0, .int .u64 0, .string ⟨#[]⟩, .slice none 0 0, .int .i64 0, .int .u64 0, .int .i64 0, .int .i64 0, .int .i64 0, .int .i64 0, .int .i64 0, .int .i64 0, .bool false, .bool false, .slice none 0 0, .slice none 0 0, .int .i64 0, .int .i64 0, .int .u64 0, .string ⟨#[]⟩, .slice none 0 0, .string ⟨#[]⟩], .slice none 0 0, .slice none 0 0], []⟩ 8 (by kernel_rfl) (by kernel_rfl) (by kernel_rfl) (by kernel_rfl)) ?_
  intro W base args ds gs before hval0 hW hcnd hsz0 _
  have hsz : (DataW.weightsEach Tryz.prog (Tryz.f4.params.toList ++ Rows.commandApartSpec.plain.varTypes Tryz.prog) (ds ++ gs)).all (· ≤ reachBytes) = true := hsz0
  have hval : ∀ (j : Nat) t v, Tryz.f4.params[j]? = some t → args[j]? = some v → Value.okWide Tryz.prog W .any base t v := hval0
  have hW' := hW
  obtain ⟨p, q, hA0, hV, rfl, hfz, hnd⟩ := hW
  have hA : DataW.TrodAll enc Tryz.prog W 0 (fun _ => true) true Tryz.f4.params.toList args.toList ds p := hA0
  rw [Tryz.params4] at hA hval hsz
  obtain ⟨v0, vs0, d0, ds0, p0, q0, hargs, rfl, rfl, h0, r0⟩ := trodAll_cons hA
  obtain ⟨v1, vs1, d1, ds1, p1, q1, rfl, rfl, rfl, h1, r1⟩ := trodAll_cons r0
  obtain ⟨v2, vs2, d2, ds2, p2, q2, rfl, rfl, rfl, h2, r2⟩ := trodAll_cons r1
  obtain ⟨rfl, rfl, rfl⟩ := trodAll_nil r2
  obtain rfl : args = #[v0, v1, v2] := by cases args; simp_all
  obtain ⟨rfl, rfl⟩ := trodVars_none hV
  have k0 := h0
  have lt0 : ∀ x ∈ p0, x.block < W.heap.size := by obtain ⟨m, hm⟩ := k0; exact DataW.trod_lt m _ _ _ hm
  obtain ⟨m0, hm0⟩ := h0
  obtain ⟨s0, n0, H0, M0, C0⟩ := open_sta m0 _ _ hm0 (fun y hy => of_decide_eq_true (List.all_eq_true.1 hsz y (DataW.weights_mem_each (j := 0) rfl rfl y hy)))
  rw [Array.toArray_toList] at H0
  have ag0 := aggN (k := 29) H0.size
  have k1 := h1
  have lt1 : ∀ x ∈ p1, x.block < W.heap.size := by obtain ⟨m, hm⟩ := k1; exact DataW.trod_lt m _ _ _ hm
  obtain ⟨m1, hm1⟩ := h1
  obtain ⟨a1, c1, l1, n1, ce1, hc1, hx1, H1, M1⟩ := open_aks m1 _ _ hm1 (fun y hy => of_decide_eq_true (List.all_eq_true.1 hsz y (DataW.weights_mem_each (j := 1) rfl rfl y hy)))
  obtain rfl := oneS ce1 (okWide_slice Tryz.underlying42 (hval 1 42 v1 rfl rfl))
  have k2 := h2
  have lt2 : ∀ x ∈ p2, x.block < W.heap.size := by obtain ⟨m, hm⟩ := k2; exact DataW.trod_lt m _ _ _ hm
  obtain ⟨m2, hm2⟩ := h2
  obtain ⟨a2, c2, l2, n2, ce2, hc2, hx2, H2, M2⟩ := open_cms m2 _ _ hm2 (fun y hy => of_decide_eq_true (List.all_eq_true.1 hsz y (DataW.weights_mem_each (j := 2) rfl rfl y hy)))
  obtain rfl := oneS ce2 (okWide_slice Tryz.underlying28 (hval 2 28 v2 rfl rfl))
  clear hA0 hval0
  have key : Calls Tryz.prog 4 #[.agg v0.cells, .slice a1 l1.length c1, .slice a2 l2.length c2] W fun e w' => e = .returned (.bool true) ∧ Below W.heap.size W w' := apart_walk _ s0 v0.cells a1 l1 c1 a2 l2 c2 W (PlA.mk' H0 M0 H1 M1 H2 M2)
  have ea : #[.agg v0.cells, .slice a1 l1.length c1, .slice a2 l2.length c2] = #[v0, .slice a1 l1.length c1, .slice a2 l2.length c2] := by rw [← ag0]
  rw [ea] at key
  refine key.mono fun e W' ⟨he, bel⟩ => ?_
  subst he
  exact ⟨_, rfl, _, _, _, [], _, [], hW', trodAll_mk1 (shut_bool Tryz.underlying4 _), (trodAll_cons_mk (Below.trod laidOut (by kernel_rfl) (of_decide_eq_true (by kernel_rfl)) k0 bel lt0) (trodAll_cons_mk (Below.trod laidOut (by kernel_rfl) (of_decide_eq_true (by kernel_rfl)) k1 bel lt1) (trodAll_cons_mk (Below.trod laidOut (by kernel_rfl) (of_decide_eq_true (by kernel_rfl)) k2 bel lt2) trodAll_mk0))), rfl, bel.frame _, fun h => by cases h⟩

theorem over : Rows.commandApartRow.holds Tryz.pinned (OpenSpec.ofChange Rows.commandApartSpec) :=
  OpenClaim.holds_of_wide 4 Tryz.f4 rfl rfl rfl rfl rfl rfl rfl ⟨rfl, rfl, rfl, rfl, rfl⟩ rfl rfl rfl rfl rfl (by kernel_rfl) Tryz.func4 (by kernel_rfl)
    (of_decide_eq_true (by kernel_rfl)) (by unfold Func.isWrapper; first | (rw [if_pos (by decide +kernel)]; kernel_rfl) | (rw [if_neg (by decide +kernel)]; exact ⟨rfl, rfl⟩))
    (fun os started H enc _ => lifted os started H enc)

theorem proved : Rows.CommandApartSaid := over
end Go.Proofs.YtcdhlklmnnmpoaaGreat.commandApart

namespace Go.Proofs.YtcdhlklmnnmpoaaGreat
theorem commandApart_holds : Rows.CommandApartSaid := commandApart.proved
end Go.Proofs.YtcdhlklmnnmpoaaGreat
