/- The reference's Check of a request. -/
import Derived.Test.YtddigndamimmpaaDoorLG
import Derived.Test.YtddigndamimmpaaDoorCB
import Derived.Test.YtddigndamimmpaaDoorLF
namespace Go.Proofs.YtddigndamimmpaaDoor
open Go.ChangeShapes Go.WideShapes Go.ChangeAt Go.RowKit
set_option maxHeartbeats 4000000 in
set_option maxRecDepth 100000 in
theorem rcheck_gen (hx : Int) (PE PN : Prop) (bU h4 h7 bP : Bool) (n : Nat) (l : List Cm) (al : List An) (k : Int) (f q m : ByteArray) (vk vx vb : Int) (vs : ByteArray) (la : Option Addr) (ll lc : Nat) (ru nu wa pf : Int) (pc : Nat) (pm : Int) (ca : Option Addr) (cn cc : Nat) (aa : Option Addr) (an ac : Nat) (w : World)
    (hFi : ∀ W, Calls Tryd.prog 11 #[.int .i64 k] W fun e w' => e = .returned (.int .i64 hx) ∧ Below W.heap.size W w')
    (hEm : hx ≠ 0 → ∀ W, Below w.heap.size w W → Calls Tryd.prog 20 #[.agg #[.int .i64 k, .string f, .string q, .string m, .int .i64 vk, .int .i64 vx, .int .u64 vb, .string vs, .slice la ll lc, .int .i64 ru, .int .i64 nu, .int .i64 wa, .int .i64 pf, .int .u64 (pc : Int), .int .i64 pm, .slice ca cn cc, .slice aa an ac]] W (FitP PE W))
    (hNm : ∀ W, Below w.heap.size w W → Calls Tryd.prog 21 #[.agg #[.int .i64 k, .string f, .string q, .string m, .int .i64 vk, .int .i64 vx, .int .u64 vb, .string vs, .slice la ll lc, .int .i64 ru, .int .i64 nu, .int .i64 wa, .int .i64 pf, .int .u64 (pc : Int), .int .i64 pm, .slice ca cn cc, .slice aa an ac]] W (FitP PN W))
    (hNu : hx ≠ 0 → ∀ W, Calls Tryd.prog 22 #[.agg #[.int .i64 k, .string f, .string q, .string m, .int .i64 vk, .int .i64 vx, .int .u64 vb, .string vs, .slice la ll lc, .int .i64 ru, .int .i64 nu, .int .i64 wa, .int .i64 pf, .int .u64 (pc : Int), .int .i64 pm, .slice ca cn cc, .slice aa an ac]] W fun e w' => e = .returned (.bool bU) ∧ Below W.heap.size W w')
    (hH4 : ∀ W, Calls Tryd.prog 23 #[.int .i64 k, .int .i64 16] W fun e w' => e = .returned (.bool h4) ∧ Below W.heap.size W w')
    (hH7 : ∀ W, Calls Tryd.prog 23 #[.int .i64 k, .int .i64 128] W fun e w' => e = .returned (.bool h7) ∧ Below W.heap.size W w')
    (hPo : ∀ W, Calls Tryd.prog 24 #[.agg #[.int .i64 pf, .int .u64 (pc : Int), .int .i64 pm]] W fun e w' => e = .returned (.int .i64 (ce bP)) ∧ Below W.heap.size W w')
    (hC : Cms w n ca l) (hA : Ans w (n + 1) aa al) (hcn : cn = l.length) (han : an = al.length) :
    Calls Tryd.prog 8 #[.agg #[.int .i64 k, .string f, .string q, .string m, .int .i64 vk, .int .i64 vx, .int .u64 vb, .string vs, .slice la ll lc, .int .i64 ru, .int .i64 nu, .int .i64 wa, .int .i64 pf, .int .u64 (pc : Int), .int .i64 pm, .slice ca cn cc, .slice aa an ac]] w (LkP ((hx ≠ 0 ∧ PE ∧ PN ∧ bU = true ∧ (h4 = true → 1 ≤ ru ∧ ru ≤ 10) ∧ (0 ≤ wa ∧ wa ≤ 1073741824)) ∧ (h7 = true → bP = true)) (cn ≤ 12 ∧ an ≤ 8) ((Cmay n l ∧ Amay (n + 1) al) ∧ (cn = 0 ∨ nu ≠ 0)) w) := by
  have HCM : Hid (Cmay n l ↔ ∀ (i : Nat) (c : Cm), l[i]? = some c → MayC (n + 1) c) := Iff.rfl
  have HAM : Hid (Amay (n + 1) al ↔ ∀ (i : Nat) (c : An), al[i]? = some c → 1 ≤ c.o ∧ May (n + 1) c.v) := Iff.rfl
  generalize Cmay n l = CM at HCM ⊢
  generalize Amay (n + 1) al = AM at HAM ⊢
  have HFi : Hid _ := hFi
  have HEm : Hid _ := hEm
  have HNm : Hid _ := hNm
  have HNu : Hid _ := hNu
  have HH4 : Hid _ := hH4
  have HH7 : Hid _ := hH7
  have HPo : Hid _ := hPo
  have HC : Hid (Cms w n ca l ∧ cn = l.length) := ⟨hC, hcn⟩
  have HA : Hid (Ans w (n + 1) aa al ∧ an = al.length) := ⟨hA, han⟩
  have HE : Hid (∀ e w', LkP ((hx ≠ 0 ∧ PE ∧ PN ∧ bU = true ∧ (h4 = true → 1 ≤ ru ∧ ru ≤ 10) ∧ (0 ≤ wa ∧ wa ≤ 1073741824)) ∧ (h7 = true → bP = true)) (cn ≤ 12 ∧ an ≤ 8) ((CM ∧ AM) ∧ (cn = 0 ∨ nu ≠ 0)) w e w' ↔ ∃ r : Int, e = .returned (.int .i64 r) ∧ (¬ ((hx ≠ 0 ∧ PE ∧ PN ∧ bU = true ∧ (h4 = true → 1 ≤ ru ∧ ru ≤ 10) ∧ (0 ≤ wa ∧ wa ≤ 1073741824)) ∧ (h7 = true → bP = true)) → r = 1) ∧ (((hx ≠ 0 ∧ PE ∧ PN ∧ bU = true ∧ (h4 = true → 1 ≤ ru ∧ ru ≤ 10) ∧ (0 ≤ wa ∧ wa ≤ 1073741824)) ∧ (h7 = true → bP = true)) → ¬ (cn ≤ 12 ∧ an ≤ 8) → r = 5) ∧ (((hx ≠ 0 ∧ PE ∧ PN ∧ bU = true ∧ (h4 = true → 1 ≤ ru ∧ ru ≤ 10) ∧ (0 ≤ wa ∧ wa ≤ 1073741824)) ∧ (h7 = true → bP = true)) → (cn ≤ 12 ∧ an ≤ 8) → ((CM ∧ AM) ∧ (cn = 0 ∨ nu ≠ 0)) → r = 0) ∧ (((hx ≠ 0 ∧ PE ∧ PN ∧ bU = true ∧ (h4 = true → 1 ≤ ru ∧ ru ≤ 10) ∧ (0 ≤ wa ∧ wa ≤ 1073741824)) ∧ (h7 = true → bP = true)) → (cn ≤ 12 ∧ an ≤ 8) → ¬ ((CM ∧ AM) ∧ (cn = 0 ∨ nu ≠ 0)) → r = 1) ∧ Below w.heap.size w w') := fun _ _ => Iff.rfl
  generalize LkP ((hx ≠ 0 ∧ PE ∧ PN ∧ bU = true ∧ (h4 = true → 1 ≤ ru ∧ ru ≤ 10) ∧ (0 ≤ wa ∧ wa ≤ 1073741824)) ∧ (h7 = true → bP = true)) (cn ≤ 12 ∧ an ≤ 8) ((CM ∧ AM) ∧ (cn = 0 ∨ nu ≠ 0)) w = Q at HE ⊢
  clear hFi hEm hNm hNu hH4 hH7 hPo hC hA hcn han
  have HB : Hid (Below w.heap.size w (w.alloc (.cells #[.int .i64 k, .string f, .string q, .string m, .int .i64 vk, .int .i64 vx, .int .u64 vb, .string vs, .slice la ll lc, .int .i64 ru, .int .i64 nu, .int .i64 wa, .int .i64 pf, .int .u64 (pc : Int), .int .i64 pm, .slice ca cn cc, .slice aa an ac] 31))) := bel1 _ _
  have HX : Hid (AtR (w.alloc (.cells #[.int .i64 k, .string f, .string q, .string m, .int .i64 vk, .int .i64 vx, .int .u64 vb, .string vs, .slice la ll lc, .int .i64 ru, .int .i64 nu, .int .i64 wa, .int .i64 pf, .int .u64 (pc : Int), .int .i64 pm, .slice ca cn cc, .slice aa an ac] 31)) w.heap.size k f q m vk vx vb vs la ll lc ru nu wa pf pc pm ca cn cc aa an ac) := AtR.box w k f q m vk vx vb vs la ll lc ru nu wa pf pc pm ca cn cc aa an ac
  have HRg : Hid (∀ W, AtR W w.heap.size k f q m vk vx vb vs la ll lc ru nu wa pf pc pm ca cn cc aa an ac → W.rangeAt w.heap.size 0 [.int .i64 k, .string f, .string q, .string m, .int .i64 vk, .int .i64 vx, .int .u64 vb, .string vs, .slice la ll lc, .int .i64 ru, .int .i64 nu, .int .i64 wa, .int .i64 pf, .int .u64 (pc : Int), .int .i64 pm, .slice ca cn cc, .slice aa an ac]) := fun W h => h.range
  have hi31 : (Tryd.prog.info? 31).map (·.size) = some ([.int .i64 k, .string f, .string q, .string m, .int .i64 vk, .int .i64 vx, .int .u64 vb, .string vs, .slice la ll lc, .int .i64 ru, .int .i64 nu, .int .i64 wa, .int .i64 pf, .int .u64 (pc : Int), .int .i64 pm, .slice ca cn cc, .slice aa an ac] : List Value).length := rq31
  generalize hW0 : w.alloc (.cells #[.int .i64 k, .string f, .string q, .string m, .int .i64 vk, .int .i64 vx, .int .u64 vb, .string vs, .slice la ll lc, .int .i64 ru, .int .i64 nu, .int .i64 wa, .int .i64 pf, .int .u64 (pc : Int), .int .i64 pm, .slice ca cn cc, .slice aa an ac] 31) = W1 at HB HX
  have H0 : Hid (w.alloc (.cells #[.int .i64 k, .string f, .string q, .string m, .int .i64 vk, .int .i64 vx, .int .u64 vb, .string vs, .slice la ll lc, .int .i64 ru, .int .i64 nu, .int .i64 wa, .int .i64 pf, .int .u64 (pc : Int), .int .i64 pm, .slice ca cn cc, .slice aa an ac] 31) = W1) := hW0
  clear hW0
  go_enter Tryd.func8, Tryd.ntmps8
  go_upto_region 1 with fail
  rw [H0.out]
  clear H0
  generalize ([.int .i64 k, .string f, .string q, .string m, .int .i64 vk, .int .i64 vx, .int .u64 vb, .string vs, .slice la ll lc, .int .i64 ru, .int .i64 nu, .int .i64 wa, .int .i64 pf, .int .u64 (pc : Int), .int .i64 pm, .slice ca cn cc, .slice aa an ac] : List Value) = L at HRg hi31 HEm HNm HNu
  have x0 := HX.out.1
  go_upto_region 2 with fail
  clear x0
  go_cut [49] (fun x wx => (∃ b : Bool, x = .bool b ∧ (b = false ↔ (hx ≠ 0 ∧ PE ∧ PN ∧ bU = true ∧ (h4 = true → 1 ≤ ru ∧ ru ≤ 10) ∧ (0 ≤ wa ∧ wa ≤ 1073741824)))) ∧ Below w.heap.size w wx ∧ AtR wx w.heap.size k f q m vk vx vb vs la ll lc ru nu wa pf pc pm ca cn cc aa an ac)
  case first =>
    go_wp2_with fail
    refine Calls.mono (HFi.out _) ?_
    rintro e y1 ⟨rfl, hb⟩
    replace HX : Hid (AtR y1 w.heap.size k f q m vk vx vb vs la ll lc ru nu wa pf pc pm ca cn cc aa an ac) := HX.out.below hb
    replace HB : Hid (Below w.heap.size w y1) := bel2 HB.out hb
    clear hb
    by_cases h0 : hx = 0
    · have e0 : (hx == 0) = true := by simpa using h0
      go_wp2_with fail
      go_meet
      exact ⟨⟨true, rfl, nofun, fun a => absurd h0 a.1⟩, HB.out, HX.out⟩
    have e0 : (hx == 0) = false := by simpa using h0
    go_wp2_with (first | (refine wpList_load_mid (by rfl) 31 _ rfl w.heap.size 0 rfl L _ (HRg.out _ HX.out) Tryd.underlying31 rfl hi31 ?_))
    refine Calls.mono (HEm.out h0 _ HB.out) ?_
    rintro e y2 ⟨⟨b2, rfl, g2⟩, hb⟩
    replace HX : Hid (AtR y2 w.heap.size k f q m vk vx vb vs la ll lc ru nu wa pf pc pm ca cn cc aa an ac) := HX.out.below hb
    replace HB : Hid (Below w.heap.size w y2) := bel2 HB.out hb
    clear hb
    cases b2
    · have N : ¬ PE := fun h => by cases g2.2 h
      go_wp2_with fail
      go_meet
      exact ⟨⟨true, rfl, nofun, fun a => absurd a.2.1 N⟩, HB.out, HX.out⟩
    have HPE : Hid PE := g2.1 rfl
    clear g2
    go_wp2_with (first | (refine wpList_load_mid (by rfl) 31 _ rfl w.heap.size 0 rfl L _ (HRg.out _ HX.out) Tryd.underlying31 rfl hi31 ?_))
    refine Calls.mono (HNm.out _ HB.out) ?_
    rintro e y3 ⟨⟨b3, rfl, g3⟩, hb⟩
    replace HX : Hid (AtR y3 w.heap.size k f q m vk vx vb vs la ll lc ru nu wa pf pc pm ca cn cc aa an ac) := HX.out.below hb
    replace HB : Hid (Below w.heap.size w y3) := bel2 HB.out hb
    clear hb
    cases b3
    · have N : ¬ PN := fun h => by cases g3.2 h
      go_wp2_with fail
      go_meet
      exact ⟨⟨true, rfl, nofun, fun a => absurd a.2.2.1 N⟩, HB.out, HX.out⟩
    have HPN : Hid PN := g3.1 rfl
    clear g3
    go_wp2_with (first | (refine wpList_load_mid (by rfl) 31 _ rfl w.heap.size 0 rfl L _ (HRg.out _ HX.out) Tryd.underlying31 rfl hi31 ?_))
    refine Calls.mono (HNu.out h0 _) ?_
    rintro e y4 ⟨rfl, hb⟩
    replace HX : Hid (AtR y4 w.heap.size k f q m vk vx vb vs la ll lc ru nu wa pf pc pm ca cn cc aa an ac) := HX.out.below hb
    replace HB : Hid (Below w.heap.size w y4) := bel2 HB.out hb
    clear hb
    cases bU
    · go_wp2_with fail
      go_meet
      exact ⟨⟨true, rfl, nofun, fun a => absurd a.2.2.2.1 (by decide)⟩, HB.out, HX.out⟩
    go_wp2_with fail
    refine Calls.mono (HH4.out _) ?_
    rintro e y5 ⟨rfl, hb⟩
    replace HX : Hid (AtR y5 w.heap.size k f q m vk vx vb vs la ll lc ru nu wa pf pc pm ca cn cc aa an ac) := HX.out.below hb
    replace HB : Hid (Below w.heap.size w y5) := bel2 HB.out hb
    clear hb
    cases h4
    · obtain ⟨x0, x1, x2, x3, x4, x5, x6, x7, x8, x9, x10, x11, x12, x13, x14, x15, x16⟩ := HX.out
      clear x0 x1 x2 x3 x4 x5 x6 x7 x8 x9 x10 x12 x13 x14 x15 x16
      by_cases w0 : 0 ≤ wa
      rotate_left
      · have f0 : decide (wa < 0) = true := decide_eq_true (by omega)
        go_wp2_with fail
        go_meet
        exact ⟨⟨true, rfl, nofun, fun a => absurd a.2.2.2.2.2.1 (Int.not_le.2 w0)⟩, HB.out, HX.out⟩
      have f0 : decide (wa < 0) = false := decide_eq_false (by omega)
      by_cases w1 : wa ≤ 1073741824
      rotate_left
      · have f1 : decide (1073741824 < wa) = true := decide_eq_true (by omega)
        go_wp2_with fail
        go_meet
        exact ⟨⟨true, rfl, nofun, fun a => absurd a.2.2.2.2.2.2 (Int.not_le.2 w1)⟩, HB.out, HX.out⟩
      have f1 : decide (1073741824 < wa) = false := decide_eq_false (by omega)
      go_wp2_with fail
      go_meet
      exact ⟨⟨false, rfl, fun _ => ⟨h0, HPE.out, HPN.out, by trivial, nofun, w0, w1⟩, fun _ => rfl⟩, HB.out, HX.out⟩
    · obtain ⟨x0, x1, x2, x3, x4, x5, x6, x7, x8, x9, x10, x11, x12, x13, x14, x15, x16⟩ := HX.out
      clear x0 x1 x2 x3 x4 x5 x6 x7 x8 x10 x11 x12 x13 x14 x15 x16
      by_cases r1 : 1 ≤ ru
      rotate_left
      · have k0 : decide (ru < 1) = true := decide_eq_true (by omega)
        go_wp2_with fail
        go_meet
        exact ⟨⟨true, rfl, nofun, fun a => absurd (a.2.2.2.2.1 (by trivial)).1 (Int.not_le.2 r1)⟩, HB.out, HX.out⟩
      have k0 : decide (ru < 1) = false := decide_eq_false (by omega)
      by_cases r2 : ru ≤ 10
      rotate_left
      · have k1 : decide (10 < ru) = true := decide_eq_true (by omega)
        go_wp2_with fail
        go_meet
        exact ⟨⟨true, rfl, nofun, fun a => absurd (a.2.2.2.2.1 (by trivial)).2 (Int.not_le.2 r2)⟩, HB.out, HX.out⟩
      have k1 : decide (10 < ru) = false := decide_eq_false (by omega)
      have x11 := HX.out.2.2.2.2.2.2.2.2.2.2.2.1
      by_cases w0 : 0 ≤ wa
      rotate_left
      · have f0 : decide (wa < 0) = true := decide_eq_true (by omega)
        go_wp2_with fail
        go_meet
        exact ⟨⟨true, rfl, nofun, fun a => absurd a.2.2.2.2.2.1 (Int.not_le.2 w0)⟩, HB.out, HX.out⟩
      have f0 : decide (wa < 0) = false := decide_eq_false (by omega)
      by_cases w1 : wa ≤ 1073741824
      rotate_left
      · have f1 : decide (1073741824 < wa) = true := decide_eq_true (by omega)
        go_wp2_with fail
        go_meet
        exact ⟨⟨true, rfl, nofun, fun a => absurd a.2.2.2.2.2.2 (Int.not_le.2 w1)⟩, HB.out, HX.out⟩
      have f1 : decide (1073741824 < wa) = false := decide_eq_false (by omega)
      go_wp2_with fail
      go_meet
      exact ⟨⟨false, rfl, fun _ => ⟨h0, HPE.out, HPN.out, by trivial, fun _ => ⟨r1, r2⟩, w0, w1⟩, fun _ => rfl⟩, HB.out, HX.out⟩
  case rest =>
  obtain ⟨⟨b, rfl, g1⟩, HB0, HX0⟩ := hcut
  replace HX : Hid (AtR wc w.heap.size k f q m vk vx vb vs la ll lc ru nu wa pf pc pm ca cn cc aa an ac) := HX0
  replace HB : Hid (Below w.heap.size w wc) := HB0
  clear HX0 HB0
  cases b
  rotate_left
  · have HN : Hid (¬ (hx ≠ 0 ∧ PE ∧ PN ∧ bU = true ∧ (h4 = true → 1 ≤ ru ∧ ru ≤ 10) ∧ (0 ≤ wa ∧ wa ≤ 1073741824))) := fun h => by cases g1.2 h
    clear g1
    go_wp2_with fail
    exact (HE.out _ _).2 ⟨1, rfl, fun _ => rfl, fun h => absurd h.1 HN.out, fun h => absurd h.1 HN.out, fun h => absurd h.1 HN.out, HB.out⟩
  have HA1 : Hid (hx ≠ 0 ∧ PE ∧ PN ∧ bU = true ∧ (h4 = true → 1 ≤ ru ∧ ru ≤ 10) ∧ (0 ≤ wa ∧ wa ≤ 1073741824)) := g1.1 rfl
  clear g1
  go_upto_region 4 with fail
  go_cut [57] (fun x wx => (∃ b : Bool, x = .bool b ∧ (b = false ↔ (h7 = true → bP = true))) ∧ Below w.heap.size w wx ∧ AtR wx w.heap.size k f q m vk vx vb vs la ll lc ru nu wa pf pc pm ca cn cc aa an ac)
  case first =>
    go_wp2_with fail
    refine Calls.mono (HH7.out _) ?_
    rintro e v1 ⟨rfl, hb⟩
    replace HX : Hid (AtR v1 w.heap.size k f q m vk vx vb vs la ll lc ru nu wa pf pc pm ca cn cc aa an ac) := HX.out.below hb
    replace HB : Hid (Below w.heap.size w v1) := bel2 HB.out hb
    clear hb
    cases h7
    · go_wp2_with fail
      go_meet
      exact ⟨⟨false, rfl, fun _ => nofun, fun _ => rfl⟩, HB.out, HX.out⟩
    obtain ⟨x0, x1, x2, x3, x4, x5, x6, x7, x8, x9, x10, x11, x12, x13, x14, x15, x16⟩ := HX.out
    clear x0 x1 x2 x3 x4 x5 x6 x7 x8 x9 x10 x11 x15 x16
    go_wp2_with fail
    refine Calls.mono (HPo.out _) ?_
    rintro e v2 ⟨rfl, hb⟩
    replace HX : Hid (AtR v2 w.heap.size k f q m vk vx vb vs la ll lc ru nu wa pf pc pm ca cn cc aa an ac) := HX.out.below hb
    replace HB : Hid (Below w.heap.size w v2) := bel2 HB.out hb
    clear hb x12 x13 x14
    cases bP
    · simp only [ce, Bool.false_eq_true, if_false]
      go_wp2_with fail
      go_meet
      exact ⟨⟨true, rfl, nofun, fun a => by cases a (by trivial)⟩, HB.out, HX.out⟩
    · simp only [ce, if_true]
      go_wp2_with fail
      go_meet
      exact ⟨⟨false, rfl, fun _ _ => by trivial, fun _ => rfl⟩, HB.out, HX.out⟩
  case rest =>
  obtain ⟨⟨b, rfl, g2⟩, HB0, HX0⟩ := hcut
  replace HX : Hid (AtR wc w.heap.size k f q m vk vx vb vs la ll lc ru nu wa pf pc pm ca cn cc aa an ac) := HX0
  replace HB : Hid (Below w.heap.size w wc) := HB0
  clear HX0 HB0
  cases b
  rotate_left
  · have HN : Hid (¬ (h7 = true → bP = true)) := fun h => by cases g2.2 h
    clear g2
    go_wp2_with fail
    exact (HE.out _ _).2 ⟨1, rfl, fun _ => rfl, fun h => absurd h.2 HN.out, fun h => absurd h.2 HN.out, fun h => absurd h.2 HN.out, HB.out⟩
  have HP1 : Hid ((hx ≠ 0 ∧ PE ∧ PN ∧ bU = true ∧ (h4 = true → 1 ≤ ru ∧ ru ≤ 10) ∧ (0 ≤ wa ∧ wa ≤ 1073741824)) ∧ (h7 = true → bP = true)) := ⟨HA1.out, g2.1 rfl⟩
  clear g2
  by_cases h12 : 12 < cn
  · have f1 : decide (12 < (cn : Int)) = true := decide_eq_true (by omega)
    obtain ⟨x0, x1, x2, x3, x4, x5, x6, x7, x8, x9, x10, x11, x12, x13, x14, x15, x16⟩ := HX.out
    clear x0 x1 x2 x3 x4 x5 x6 x7 x8 x9 x10 x11 x12 x13 x14
    go_wp2_with fail
    exact (HE.out _ _).2 ⟨5, rfl, fun h => absurd HP1.out h, fun _ _ => rfl, fun _ h => absurd h.1 (by omega), fun _ h => absurd h.1 (by omega), HB.out⟩
  have f1 : decide (12 < (cn : Int)) = false := decide_eq_false (by omega)
  by_cases h8 : 8 < an
  · have f2 : decide (8 < (an : Int)) = true := decide_eq_true (by omega)
    obtain ⟨x0, x1, x2, x3, x4, x5, x6, x7, x8, x9, x10, x11, x12, x13, x14, x15, x16⟩ := HX.out
    clear x0 x1 x2 x3 x4 x5 x6 x7 x8 x9 x10 x11 x12 x13 x14
    go_wp2_with fail
    exact (HE.out _ _).2 ⟨5, rfl, fun h => absurd HP1.out h, fun _ _ => rfl, fun _ h => absurd h.2 (by omega), fun _ h => absurd h.2 (by omega), HB.out⟩
  have f2 : decide (8 < (an : Int)) = false := decide_eq_false (by omega)
  have HP2 : Hid (cn ≤ 12 ∧ an ≤ 8) := ⟨Nat.not_lt.1 h12, Nat.not_lt.1 h8⟩
  obtain ⟨x0, x1, x2, x3, x4, x5, x6, x7, x8, x9, x10, x11, x12, x13, x14, x15, x16⟩ := HX.out
  clear x0 x1 x2 x3 x4 x5 x6 x7 x8 x9 x10 x11 x12 x13 x14
  go_wp2_with fail
  clear x15 x16 f1 f2 h12 h8
  go_loopw [4] (fun i wr => ∃ j : Nat, j ≤ cn ∧ i = .int .i64 (j : Int) ∧ Hid (∀ (i : Nat) (c : Cm), i < j → l[i]? = some c → MayC (n + 1) c) ∧ Hid (Below wc.heap.size wc wr)) (fun i _ => cn - (intOf i).toNat)
  case atStart => exact ⟨0, Nat.zero_le _, rfl, fun i t hi => absurd hi (Nat.not_lt_zero i), Below.refl _ _⟩
  case round =>
    obtain ⟨j, hj, rfl, HEj, HBr⟩ := hrel
    have x15 := cellB HX.out.2.2.2.2.2.2.2.2.2.2.2.2.2.2.2.1 HBr.out
    by_cases hlt : j < cn
    · have HT : Hid (j < l.length) := by have := HC.out.2; show _ < _; omega
      have HBw : Hid (Below w.heap.size w wr) := bel2 HB.out HBr.out
      obtain ⟨B, o, vk', vx', vb', vs', la', ll', lc', rfl, y0, y1, y2, y3, y4, y5, y6, y7, hv⟩ := HC.out.1.below HBw.out j _ (List.getElem?_eq_getElem HT.out)
      have HK : Hid (Calls Tryd.prog 25 _ wr _) := rccheck_calls n (l[j]'HT.out).v (l[j]'HT.out).k (l[j]'HT.out).s vk' vx' vb' vs' la' ll' lc' (l[j]'HT.out).d wr hv
      have HG : Hid (l[j]? = some (l[j]'HT.out)) := List.getElem?_eq_getElem HT.out
      generalize hMJ : MayC (n + 1) ⟨(l[j]'HT.out).k, (l[j]'HT.out).s, (l[j]'HT.out).v, (l[j]'HT.out).d⟩ = MJ at HK
      have HMJ : Hid (MayC (n + 1) (l[j]'HT.out) = MJ) := hMJ
      clear hMJ
      generalize (l[j]'HT.out) = cj at HK HG HMJ y0 y1 y7
      have HW : Hid (wrap64 ((j : Int) + 1) = ((j + 1 : Nat) : Int)) := wr1 hlt (by have := HP2.out; omega)
      have hjl : (j : Int) < (cn : Int) := by omega
      clear hv
      go_wp2_with fail
      refine Calls.mono HK.out ?_
      rintro e u1 ⟨r, rfl, r1, r2, hb1⟩
      have HB1 : Hid (Below wc.heap.size wc u1) := bel2 HBr.out hb1
      clear hb1 y0 y1 y2 y3 y4 y5 y6 y7 x15
      by_cases hm : MJ
      · obtain rfl := r1 hm
        clear r2 r1
        go_wp2_with fail
        refine ⟨⟨j + 1, hlt, by first | rfl | rw [HW.out], fun i t hi ht => ?_, HB1⟩, by first | exact meas hlt rfl | exact meas hlt HW.out⟩
        by_cases hij : i = j
        · subst hij
          rw [HG.out] at ht
          cases ht
          rw [HMJ.out]
          exact hm
        · exact HEj.out i t (by omega) ht
      · obtain rfl := r2 hm
        have HN : Hid (¬ CM) := fun q => hm (HMJ.out ▸ HCM.out.1 q j _ HG.out)
        clear r2 r1
        go_wp2_with fail
        exact (HE.out _ _).2 ⟨1, rfl, fun _ => rfl, fun _ h => absurd HP2.out h, fun _ _ h => absurd h.1.1 HN.out, fun _ _ _ => rfl, bel2 HB.out HB1.out⟩
    · obtain rfl : j = cn := by omega
      have HQ : Hid CM := HCM.out.2 fun i t ht => HEj.out i t (by have := (List.getElem?_eq_some_iff.1 ht).1; have := HC.out.2; omega) ht
      clear hlt hj HEj
      go_wp2_with fail
      clear x15
      generalize wr = wz at HBr ⊢
      go_loopw [5] (fun i ws => ∃ p : Nat, p ≤ an ∧ i = .int .i64 (p : Int) ∧ Hid (∀ (i : Nat) (c : An), i < p → al[i]? = some c → 1 ≤ c.o ∧ May (n + 1) c.v) ∧ Hid (Below wz.heap.size wz ws)) (fun i _ => an - (intOf i).toNat)
      case atStart => exact ⟨0, Nat.zero_le _, rfl, fun i t hi => absurd hi (Nat.not_lt_zero i), Below.refl _ _⟩
      case round =>
        obtain ⟨p, hp, rfl, HEp, HBs⟩ := hrel
        have HBx : Hid (Below wc.heap.size wc wr) := bel2 HBr.out HBs.out
        have x16 := cellB HX.out.2.2.2.2.2.2.2.2.2.2.2.2.2.2.2.2 HBx.out
        by_cases hlt : p < an
        · have HT : Hid (p < al.length) := by have := HA.out.2; show _ < _; omega
          have HBw : Hid (Below w.heap.size w wr) := bel2 HB.out HBx.out
          obtain ⟨B, o, vk', vx', vb', vs', la', ll', lc', rfl, y0, y1, y2, y3, y4, y5, hv⟩ := HA.out.1.below HBw.out p _ (List.getElem?_eq_getElem HT.out)
          have HK : Hid (Calls Tryd.prog 26 _ wr _) := rcheck_calls (n + 1) (.agg #[.int .i64 vk', .int .i64 vx', .int .u64 vb', .string vs', .slice la' ll' lc']) (al[p]'HT.out).v wr hv
          have HG : Hid (al[p]? = some (al[p]'HT.out)) := List.getElem?_eq_getElem HT.out
          generalize hMJ : May (n + 1) (al[p]'HT.out).v = MJ at HK
          have HMJ : Hid (May (n + 1) (al[p]'HT.out).v = MJ) := hMJ
          clear hMJ
          generalize (al[p]'HT.out) = cj at HK HG HMJ y0
          have HW : Hid (wrap64 ((p : Int) + 1) = ((p + 1 : Nat) : Int)) := wr1 hlt (by have := HP2.out; omega)
          have hjl : (p : Int) < (an : Int) := by omega
          clear hv
          by_cases h1 : 1 ≤ cj.o
          rotate_left
          · have d1 : decide (cj.o < 1) = true := decide_eq_true (by omega)
            have HN : Hid (¬ AM) := fun q => h1 (HAM.out.1 q p _ HG.out).1
            generalize cj.o = oj at y0 d1
            clear h1
            go_wp2_with fail
            exact (HE.out _ _).2 ⟨1, rfl, fun _ => rfl, fun _ h => absurd HP2.out h, fun _ _ h => absurd h.1.2 HN.out, fun _ _ _ => rfl, HBw.out⟩
          have d1 : decide (cj.o < 1) = false := decide_eq_false (by omega)
          have H1 : Hid (1 ≤ cj.o) := h1
          clear h1
          generalize hoj : cj.o = oj at y0 d1
          clear hoj
          go_wp2_with fail
          refine Calls.mono HK.out ?_
          rintro e u1 ⟨⟨r, rfl, r1, r2⟩, hb1⟩
          have HB1 : Hid (Below wz.heap.size wz u1) := bel2 HBs.out hb1
          have HB2 : Hid (Below w.heap.size w u1) := bel2 HBw.out hb1
          clear hb1 y0 y1 y2 y3 y4 y5 d1 x16
          by_cases hm : MJ
          · obtain rfl := r1 hm
            clear r2 r1
            go_wp2_with fail
            refine ⟨⟨p + 1, hlt, by first | rfl | rw [HW.out], fun i t hi ht => ?_, HB1⟩, by first | exact meas hlt rfl | exact meas hlt HW.out⟩
            by_cases hij : i = p
            · subst hij
              rw [HG.out] at ht
              cases ht
              exact ⟨H1.out, by rw [HMJ.out]; exact hm⟩
            · exact HEp.out i t (by omega) ht
          · obtain rfl := r2 hm
            have HN : Hid (¬ AM) := fun q => hm (HMJ.out ▸ (HAM.out.1 q p _ HG.out).2)
            clear r2 r1
            go_wp2_with fail
            exact (HE.out _ _).2 ⟨1, rfl, fun _ => rfl, fun _ h => absurd HP2.out h, fun _ _ h => absurd h.1.2 HN.out, fun _ _ _ => rfl, HB2.out⟩
        · obtain rfl : p = an := by omega
          have HR : Hid AM := HAM.out.2 fun i t ht => HEp.out i t (by have := (List.getElem?_eq_some_iff.1 ht).1; have := HA.out.2; omega) ht
          have HBw : Hid (Below w.heap.size w wr) := bel2 HB.out HBx.out
          have x15 := cellB HX.out.2.2.2.2.2.2.2.2.2.2.2.2.2.2.2.1 HBx.out
          have x10 := cellB HX.out.2.2.2.2.2.2.2.2.2.2.1 HBx.out
          clear hlt hp HEp
          by_cases z : j = 0
          · have g0 : decide (0 < (j : Int)) = false := decide_eq_false (by omega)
            have g1 : decide (0 < j) = false := decide_eq_false (by omega)
            have HZ : Hid (j = 0) := z
            clear z
            go_wp2_with fail
            exact (HE.out _ _).2 ⟨0, rfl, fun h => absurd HP1.out h, fun _ h => absurd HP2.out h, fun _ _ _ => rfl, fun _ _ h => absurd ⟨⟨HQ.out, HR.out⟩, .inl HZ.out⟩ h, HBw.out⟩
          have g0 : decide (0 < (j : Int)) = true := decide_eq_true (by omega)
          have g1 : decide (0 < j) = true := decide_eq_true (by omega)
          have HZ : Hid (¬ j = 0) := z
          clear z
          by_cases hnu : nu = 0
          · have HN0 : Hid (nu = 0) := hnu
            have e0 : (nu == 0) = true := by simpa using hnu
            clear hnu
            go_wp2_with fail
            exact (HE.out _ _).2 ⟨1, rfl, fun _ => rfl, fun _ h => absurd HP2.out h, fun _ _ h => (h.2.elim HZ.out (fun q => q HN0.out)).elim, fun _ _ _ => rfl, HBw.out⟩
          · have HN0 : Hid (¬ nu = 0) := hnu
            have e0 : (nu == 0) = false := by simpa using hnu
            clear hnu
            go_wp2_with fail
            exact (HE.out _ _).2 ⟨0, rfl, fun h => absurd HP1.out h, fun _ h => absurd HP2.out h, fun _ _ _ => rfl, fun _ _ h => absurd ⟨⟨HQ.out, HR.out⟩, .inr HN0.out⟩ h, HBw.out⟩
end Go.Proofs.YtddigndamimmpaaDoor
