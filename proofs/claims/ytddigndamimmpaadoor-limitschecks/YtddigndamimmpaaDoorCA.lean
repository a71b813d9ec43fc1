/- A command as data; which commands may be: parts, isKind, nameFits, valueFits, delayFits, Check, closes. -/
import Derived.Test.YtddigndamimmpaaDoorGA
import Derived.Deep.DeepCutAuto
namespace Go.Proofs.YtddigndamimmpaaDoor
open Go.ChangeShapes Go.WideShapes Go.ChangeAt Go.RowKit
/-- A command. -/
structure Cm where
  k : Int
  s : ByteArray
  v : Tv
  d : Int
def cNm (k : Int) : Bool := k == 1 || k == 2 || k == 4 || k == 5 || k == 6
def cVl (k : Int) : Bool := k == 3 || k == 5 || k == 6 || k == 7
def cnf (k : Int) (s : ByteArray) : Bool := if cNm k then nmB s else if k == 8 then decide (s.size ≤ 200) else s.toList.isEmpty
def cvf (n : Nat) (k : Int) (t : Tv) : Prop := (cVl k = true ∧ May n t) ∨ (cVl k = false ∧ t = zE)
def cdf (k d : Int) : Bool := if k == 1 then wi d 0 1073741824 else d == 0
/-- A command that may be. -/
def MayC (n : Nat) (c : Cm) : Prop := wi c.k 1 9 = true ∧ cnf c.k c.s = true ∧ cvf n c.k c.v ∧ cdf c.k c.d = true
/-- Does it close? -/
def clo (k : Int) : Bool := k == 7 || k == 8 || k == 9
theorem cparts_1 (w : World) : Calls Tryd.prog 51 #[.int .i64 1] w fun e w' => e = .returned (.int .i64 9) ∧ w' = w := by
  go_enter Tryd.func51, Tryd.ntmps51
  go_wp2
  go_ret
  exact ⟨rfl, rfl⟩
theorem cparts_2 (w : World) : Calls Tryd.prog 51 #[.int .i64 2] w fun e w' => e = .returned (.int .i64 1) ∧ w' = w := by
  go_enter Tryd.func51, Tryd.ntmps51
  go_wp2
  go_ret
  exact ⟨rfl, rfl⟩
theorem cparts_4 (w : World) : Calls Tryd.prog 51 #[.int .i64 4] w fun e w' => e = .returned (.int .i64 1) ∧ w' = w := by
  go_enter Tryd.func51, Tryd.ntmps51
  go_wp2
  go_ret
  exact ⟨rfl, rfl⟩
theorem cparts_5 (w : World) : Calls Tryd.prog 51 #[.int .i64 5] w fun e w' => e = .returned (.int .i64 5) ∧ w' = w := by
  go_enter Tryd.func51, Tryd.ntmps51
  go_wp2
  go_ret
  exact ⟨rfl, rfl⟩
theorem cparts_6 (w : World) : Calls Tryd.prog 51 #[.int .i64 6] w fun e w' => e = .returned (.int .i64 5) ∧ w' = w := by
  go_enter Tryd.func51, Tryd.ntmps51
  go_wp2
  go_ret
  exact ⟨rfl, rfl⟩
theorem cparts_3 (w : World) : Calls Tryd.prog 51 #[.int .i64 3] w fun e w' => e = .returned (.int .i64 4) ∧ w' = w := by
  go_enter Tryd.func51, Tryd.ntmps51
  go_wp2
  go_ret
  exact ⟨rfl, rfl⟩
theorem cparts_7 (w : World) : Calls Tryd.prog 51 #[.int .i64 7] w fun e w' => e = .returned (.int .i64 4) ∧ w' = w := by
  go_enter Tryd.func51, Tryd.ntmps51
  go_wp2
  go_ret
  exact ⟨rfl, rfl⟩
theorem cparts_8 (w : World) : Calls Tryd.prog 51 #[.int .i64 8] w fun e w' => e = .returned (.int .i64 2) ∧ w' = w := by
  go_enter Tryd.func51, Tryd.ntmps51
  go_wp2
  go_ret
  exact ⟨rfl, rfl⟩
theorem cparts_no (k : Int) (h1 : k ≠ 1) (h2 : k ≠ 2) (h4 : k ≠ 4) (h5 : k ≠ 5) (h6 : k ≠ 6) (h3 : k ≠ 3) (h7 : k ≠ 7) (h8 : k ≠ 8) (w : World) : Calls Tryd.prog 51 #[.int .i64 k] w fun e w' => e = .returned (.int .i64 0) ∧ w' = w := by
  have d1 : (k == 1) = false := by simpa using h1
  have d2 : (k == 2) = false := by simpa using h2
  have d4 : (k == 4) = false := by simpa using h4
  have d5 : (k == 5) = false := by simpa using h5
  have d6 : (k == 6) = false := by simpa using h6
  have d3 : (k == 3) = false := by simpa using h3
  have d7 : (k == 7) = false := by simpa using h7
  have d8 : (k == 8) = false := by simpa using h8
  clear h1 h2 h4 h5 h6 h3 h7 h8
  go_enter Tryd.func51, Tryd.ntmps51
  go_wp2
  go_ret
  exact ⟨rfl, rfl⟩
theorem cisKind_calls (n : Int) (w : World) : Calls Tryd.prog 52 #[.int .i64 n] w fun e w' => e = .returned (.bool (wi n 1 9)) ∧ w' = w := by
  by_cases h1 : 1 ≤ n
  · have d1 : decide (1 ≤ n) = true := decide_eq_true h1
    go_enter Tryd.func52, Tryd.ntmps52
    go_wp2
    go_ret
    exact ⟨by simp [wi, h1], rfl⟩
  · have d1 : decide (1 ≤ n) = false := decide_eq_false h1
    clear h1
    go_enter Tryd.func52, Tryd.ntmps52
    go_wp2
    go_ret
    exact ⟨by simp [wi, d1], rfl⟩
theorem cname_name (p : Int) (s : ByteArray) (h1 : bits BinOp.and IntKind.i64 p 1 = 1) (w : World) : Calls Tryd.prog 53 #[.string s, .int .i64 p] w fun e w' => e = .returned (.bool (nmB s)) ∧ w' = w := by
  go_enter Tryd.func53, Tryd.ntmps53
  go_wp2_with fail
  refine (name_calls s _).mono ?_
  rintro e w' ⟨rfl, rfl⟩
  go_wp2_with fail
  go_ret
  exact ⟨rfl, rfl⟩
theorem cname_text (p : Int) (s : ByteArray) (h1 : bits BinOp.and IntKind.i64 p 1 = 0) (h2 : bits BinOp.and IntKind.i64 p 2 = 2) (w : World) : Calls Tryd.prog 53 #[.string s, .int .i64 p] w fun e w' => e = .returned (.bool (decide (s.size ≤ 200))) ∧ w' = w := by
  go_enter Tryd.func53, Tryd.ntmps53
  go_wp2_with fail
  refine (text40_calls s _).mono ?_
  rintro e w' ⟨rfl, rfl⟩
  go_wp2_with fail
  go_ret
  exact ⟨rfl, rfl⟩
theorem cname_none (p : Int) (s : ByteArray) (h1 : bits BinOp.and IntKind.i64 p 1 = 0) (h2 : bits BinOp.and IntKind.i64 p 2 = 0) (w : World) : Calls Tryd.prog 53 #[.string s, .int .i64 p] w fun e w' => e = .returned (.bool s.toList.isEmpty) ∧ w' = w := by
  go_enter Tryd.func53, Tryd.ntmps53
  go_wp2_with fail
  go_ret
  cases hs : s.toList <;> simp
theorem cval_yes (n : Nat) (t : Tv) (p : Int) (h4 : bits BinOp.and IntKind.i64 p 4 = 4) (vk vx vb : Int) (vs : ByteArray) (la : Option Addr) (ll lc : Nat) (w : World) (h : Is w (n + 1) (.agg #[.int .i64 vk, .int .i64 vx, .int .u64 vb, .string vs, .slice la ll lc]) t) : Calls Tryd.prog 54 #[(.agg #[.int .i64 vk, .int .i64 vx, .int .u64 vb, .string vs, .slice la ll lc]), .int .i64 p] w (FitP (May (n + 1) t) w) := by
  have RC : Hid (∀ W, Below w.heap.size w W → _) := fun W hB => check_calls (n + 1) (.agg #[.int .i64 vk, .int .i64 vx, .int .u64 vb, .string vs, .slice la ll lc]) t W (h.below hB)
  have HQ : Hid (∀ b w', (b = true ↔ May (n + 1) t) → Below w.heap.size w w' → FitP (May (n + 1) t) w (.returned (.bool b)) w') := fun b w' h1 h2 => ⟨⟨b, rfl, h1⟩, h2⟩
  generalize FitP (May (n + 1) t) w = Q at HQ ⊢
  clear h
  go_enter Tryd.func54, Tryd.ntmps54
  go_wp2_with fail
  refine (RC.out _ (bel1 _ _)).mono ?_
  rintro e w1 ⟨⟨r, rfl, r1, r2⟩, hb⟩
  have HR : Hid ((May (n + 1) t → r = 0) ∧ (¬ May (n + 1) t → r = 1)) := ⟨r1, r2⟩
  have HB : Hid (Below w.heap.size w w1) := bel2 (bel1 _ _) hb
  clear r1 r2 hb
  go_wp2_with fail
  refine HQ.out _ _ ?_ HB.out
  by_cases hm : May (n + 1) t
  · have := HR.out.1 hm; simp [hm, this]
  · have := HR.out.2 hm; simp [hm, this]
theorem cval_no (n : Nat) (t : Tv) (p : Int) (h4 : bits BinOp.and IntKind.i64 p 4 = 0) (vk vx vb : Int) (vs : ByteArray) (la : Option Addr) (ll lc : Nat) (w : World) (h : Is w (n + 1) (.agg #[.int .i64 vk, .int .i64 vx, .int .u64 vb, .string vs, .slice la ll lc]) t) : Calls Tryd.prog 54 #[(.agg #[.int .i64 vk, .int .i64 vx, .int .u64 vb, .string vs, .slice la ll lc]), .int .i64 p] w (FitP (t = zE) w) := by
  have SC : Hid (∀ W, Below w.heap.size w W → _) := fun W hB => same_calls (n + 1) (.agg #[.int .i64 vk, .int .i64 vx, .int .u64 vb, .string vs, .slice la ll lc]) t (.agg #[.int .i64 0, .int .i64 0, .int .u64 0, .string ⟨#[]⟩, .slice none 0 0]) zE W (h.below hB) (zE_is W n)
  have HQ : Hid (∀ b w', (b = true ↔ t = zE) → Below w.heap.size w w' → FitP (t = zE) w (.returned (.bool b)) w') := fun b w' h1 h2 => ⟨⟨b, rfl, h1⟩, h2⟩
  generalize FitP (t = zE) w = Q at HQ ⊢
  clear h
  go_enter Tryd.func54, Tryd.ntmps54
  go_wp2_with fail
  refine (SC.out _ (bel1 _ _)).mono ?_
  rintro e w1 ⟨⟨r, rfl, r1⟩, hb⟩
  have HR : Hid (r = true ↔ t = zE) := r1
  have HB : Hid (Below w.heap.size w w1) := bel2 (bel1 _ _) hb
  clear r1 hb
  go_wp2_with fail
  exact HQ.out _ _ HR.out HB.out
theorem cdel_yes (p d : Int) (h8 : bits BinOp.and IntKind.i64 p 8 = 8) (w : World) : Calls Tryd.prog 55 #[.int .i64 d, .int .i64 p] w fun e w' => e = .returned (.bool (wi d 0 1073741824)) ∧ w' = w := by
  by_cases h1 : 0 ≤ d
  · have d1 : decide (0 ≤ d) = true := decide_eq_true h1
    go_enter Tryd.func55, Tryd.ntmps55
    go_wp2_with fail
    go_ret
    exact ⟨by simp [wi, h1], rfl⟩
  · have d1 : decide (0 ≤ d) = false := decide_eq_false h1
    have e1 : wi d 0 1073741824 = false := by simp [wi, d1]
    rw [e1]
    clear h1 e1
    go_enter Tryd.func55, Tryd.ntmps55
    go_wp2_with fail
    go_ret
    exact ⟨rfl, rfl⟩
theorem cdel_no (p d : Int) (h8 : bits BinOp.and IntKind.i64 p 8 = 0) (w : World) : Calls Tryd.prog 55 #[.int .i64 d, .int .i64 p] w fun e w' => e = .returned (.bool (d == 0)) ∧ w' = w := by
  go_enter Tryd.func55, Tryd.ntmps55
  go_wp2_with fail
  go_ret
  exact ⟨rfl, rfl⟩
/-- The eight cells of a command in block B. -/
def At8 (w : World) (B : Nat) (c0 c1 c2 c3 c4 c5 c6 c7 : Value) : Prop := w.cell? ⟨B, 0, none⟩ = some c0 ∧ w.cell? ⟨B, 1, none⟩ = some c1 ∧ w.cell? ⟨B, 2, none⟩ = some c2 ∧ w.cell? ⟨B, 3, none⟩ = some c3 ∧ w.cell? ⟨B, 4, none⟩ = some c4 ∧ w.cell? ⟨B, 5, none⟩ = some c5 ∧ w.cell? ⟨B, 6, none⟩ = some c6 ∧ w.cell? ⟨B, 7, none⟩ = some c7
theorem At8.below {w w' : World} {B : Nat} {c0 c1 c2 c3 c4 c5 c6 c7 : Value} (h : At8 w B c0 c1 c2 c3 c4 c5 c6 c7) (hb : Below w.heap.size w w') : At8 w' B c0 c1 c2 c3 c4 c5 c6 c7 := by
  obtain ⟨x0, x1, x2, x3, x4, x5, x6, x7⟩ := h
  exact ⟨cellB x0 hb, cellB x1 hb, cellB x2 hb, cellB x3 hb, cellB x4 hb, cellB x5 hb, cellB x6 hb, cellB x7 hb⟩
theorem At8.box (w : World) (c0 c1 c2 c3 c4 c5 c6 c7 : Value) : At8 (w.alloc (.cells #[c0, c1, c2, c3, c4, c5, c6, c7] 49)) w.heap.size c0 c1 c2 c3 c4 c5 c6 c7 := by
  refine ⟨?_, ?_, ?_, ?_, ?_, ?_, ?_, ?_⟩ <;> simp
set_option maxHeartbeats 2000000 in
set_option maxRecDepth 100000 in
theorem ccheck_gen (p : Int) (bK bN bD : Bool) (PV : Prop) (k : Int) (s : ByteArray) (vk vx vb : Int) (vs : ByteArray) (la : Option Addr) (ll lc : Nat) (d : Int) (w : World)
    (h1 : ∀ W, Calls Tryd.prog 51 #[.int .i64 k] W fun e w' => e = .returned (.int .i64 p) ∧ w' = W)
    (h2 : ∀ W, Calls Tryd.prog 52 #[.int .i64 k] W fun e w' => e = .returned (.bool bK) ∧ w' = W)
    (h3 : ∀ W, Calls Tryd.prog 53 #[.string s, .int .i64 p] W fun e w' => e = .returned (.bool bN) ∧ w' = W)
    (h4 : ∀ W, Below w.heap.size w W → Calls Tryd.prog 54 #[(.agg #[.int .i64 vk, .int .i64 vx, .int .u64 vb, .string vs, .slice la ll lc]), .int .i64 p] W (FitP PV W))
    (h5 : ∀ W, Calls Tryd.prog 55 #[.int .i64 d, .int .i64 p] W fun e w' => e = .returned (.bool bD) ∧ w' = W) :
    Calls Tryd.prog 34 #[.agg #[.int .i64 k, .string s, .int .i64 vk, .int .i64 vx, .int .u64 vb, .string vs, .slice la ll lc, .int .i64 d]] w (CkP (bK = true ∧ bN = true ∧ PV ∧ bD = true) w) := by
  have H1 : Hid (∀ W, Calls Tryd.prog 51 #[.int .i64 k] W fun e w' => e = .returned (.int .i64 p) ∧ w' = W) := h1
  have H2 : Hid (∀ W, Calls Tryd.prog 52 #[.int .i64 k] W fun e w' => e = .returned (.bool bK) ∧ w' = W) := h2
  have H3 : Hid (∀ W, Calls Tryd.prog 53 #[.string s, .int .i64 p] W fun e w' => e = .returned (.bool bN) ∧ w' = W) := h3
  have H4 : Hid (∀ W, Below w.heap.size w W → Calls Tryd.prog 54 #[(.agg #[.int .i64 vk, .int .i64 vx, .int .u64 vb, .string vs, .slice la ll lc]), .int .i64 p] W (FitP PV W)) := h4
  have H5 : Hid (∀ W, Calls Tryd.prog 55 #[.int .i64 d, .int .i64 p] W fun e w' => e = .returned (.bool bD) ∧ w' = W) := h5
  have HF : Hid (∀ r w', ((bK = true ∧ bN = true ∧ PV ∧ bD = true) → r = 0) → (¬ (bK = true ∧ bN = true ∧ PV ∧ bD = true) → r = 1) → Below w.heap.size w w' → CkP (bK = true ∧ bN = true ∧ PV ∧ bD = true) w (.returned (.int .i64 r)) w') := fun r w' h1 h2 h3 => ⟨r, rfl, h1, h2, h3⟩
  generalize CkP (bK = true ∧ bN = true ∧ PV ∧ bD = true) w = Q at HF ⊢
  have HX0 := At8.box w (.int .i64 k) (.string s) (.int .i64 vk) (.int .i64 vx) (.int .u64 vb) (.string vs) (.slice la ll lc) (.int .i64 d)
  clear h1 h2 h3 h4 h5
  go_enter Tryd.func34, Tryd.ntmps34
  go_upto_region 1 with fail
  have HB : Hid (Below w.heap.size w (w.alloc (.cells #[.int .i64 k, .string s, .int .i64 vk, .int .i64 vx, .int .u64 vb, .string vs, .slice la ll lc, .int .i64 d] 49))) := bel1 _ _
  generalize (w.alloc (.cells #[.int .i64 k, .string s, .int .i64 vk, .int .i64 vx, .int .u64 vb, .string vs, .slice la ll lc, .int .i64 d] 49)) = W0 at HB HX0 ⊢
  obtain ⟨x0, x1, x2, x3, x4, x5, x6, x7⟩ := HX0
  go_wp2_with fail
  refine (H1.out _).mono ?_
  rintro e w1 ⟨rfl, e1⟩
  obtain rfl := e1.symm
  clear e1
  go_wp2_with fail
  refine (H2.out _).mono ?_
  rintro e w1 ⟨rfl, e1⟩
  obtain rfl := e1.symm
  clear e1
  cases bK with
  | false =>
    go_wp2_with fail
    exact HF.out 1 _ (fun h => by simp at h) (fun _ => rfl) HB.out
  | true =>
    go_wp2_with fail
    refine (H3.out _).mono ?_
    rintro e w1 ⟨rfl, e1⟩
    obtain rfl := e1.symm
    clear e1
    cases bN with
    | false =>
      go_wp2_with fail
      exact HF.out 1 _ (fun h => by simp at h) (fun _ => rfl) HB.out
    | true =>
      go_wp2_with fail
      refine (H4.out _ HB.out).mono ?_
      rintro e w1 ⟨⟨b, rfl, hbP⟩, hb⟩
      have HP : Hid (b = true ↔ PV) := hbP
      have y7 := cellB x7 hb
      have HB1 : Hid (Below w.heap.size w w1) := bel2 HB.out hb
      clear hbP x0 x1 x2 x3 x4 x5 x6 x7 hb
      cases b with
      | false =>
        go_wp2_with fail
        exact HF.out 1 _ (fun h => by have := HP.out.2 h.2.2.1; cases this) (fun _ => rfl) HB1.out
      | true =>
        have HPV : Hid PV := HP.out.1 rfl
        clear HP
        go_wp2_with fail
        refine (H5.out _).mono ?_
        rintro e w2 ⟨rfl, e1⟩
        obtain rfl := e1.symm
        clear e1
        cases bD with
        | false =>
          go_wp2_with fail
          exact HF.out 1 _ (fun h => by simp at h) (fun _ => rfl) HB1.out
        | true =>
          go_wp2_with fail
          exact HF.out 0 _ (fun _ => rfl) (fun h => absurd (by simpa using HPV.out) h) HB1.out
theorem CkP.of {P P' : Prop} {w w' : World} {e : Ending} (h : P ↔ P') (hc : CkP P w e w') : CkP P' w e w' := by
  obtain ⟨r, a, b, c, d⟩ := hc
  exact ⟨r, a, fun x => b (h.2 x), fun x => c fun y => x (h.1 y), d⟩
theorem ccheck_calls (n : Nat) (tv : Tv) (k : Int) (s : ByteArray) (vk vx vb : Int) (vs : ByteArray) (la : Option Addr) (ll lc : Nat) (d : Int) (w : World) (h : Is w (n + 1) (.agg #[.int .i64 vk, .int .i64 vx, .int .u64 vb, .string vs, .slice la ll lc]) tv) : Calls Tryd.prog 34 #[.agg #[.int .i64 k, .string s, .int .i64 vk, .int .i64 vx, .int .u64 vb, .string vs, .slice la ll lc, .int .i64 d]] w (CkP (MayC (n + 1) ⟨k, s, tv, d⟩) w) := by
  by_cases h1 : k = 1
  · subst h1
    refine (ccheck_gen 9 _ _ _ _ 1 s vk vx vb vs la ll lc d w (fun W => cparts_1 W) (fun W => cisKind_calls 1 W) (fun W => cname_name 9 s (by decide +kernel) W) (fun W hB => cval_no n tv 9 (by decide +kernel) vk vx vb vs la ll lc W (h.below hB)) (fun W => cdel_yes 9 d (by decide +kernel) W)).mono fun e w' hc => hc.of ?_
    simp [MayC, cnf, cvf, cdf, cNm, cVl]
  by_cases h2 : k = 2
  · subst h2
    refine (ccheck_gen 1 _ _ _ _ 2 s vk vx vb vs la ll lc d w (fun W => cparts_2 W) (fun W => cisKind_calls 2 W) (fun W => cname_name 1 s (by decide +kernel) W) (fun W hB => cval_no n tv 1 (by decide +kernel) vk vx vb vs la ll lc W (h.below hB)) (fun W => cdel_no 1 d (by decide +kernel) W)).mono fun e w' hc => hc.of ?_
    simp [MayC, cnf, cvf, cdf, cNm, cVl]
  by_cases h4 : k = 4
  · subst h4
    refine (ccheck_gen 1 _ _ _ _ 4 s vk vx vb vs la ll lc d w (fun W => cparts_4 W) (fun W => cisKind_calls 4 W) (fun W => cname_name 1 s (by decide +kernel) W) (fun W hB => cval_no n tv 1 (by decide +kernel) vk vx vb vs la ll lc W (h.below hB)) (fun W => cdel_no 1 d (by decide +kernel) W)).mono fun e w' hc => hc.of ?_
    simp [MayC, cnf, cvf, cdf, cNm, cVl]
  by_cases h5 : k = 5
  · subst h5
    refine (ccheck_gen 5 _ _ _ _ 5 s vk vx vb vs la ll lc d w (fun W => cparts_5 W) (fun W => cisKind_calls 5 W) (fun W => cname_name 5 s (by decide +kernel) W) (fun W hB => cval_yes n tv 5 (by decide +kernel) vk vx vb vs la ll lc W (h.below hB)) (fun W => cdel_no 5 d (by decide +kernel) W)).mono fun e w' hc => hc.of ?_
    simp [MayC, cnf, cvf, cdf, cNm, cVl]
  by_cases h6 : k = 6
  · subst h6
    refine (ccheck_gen 5 _ _ _ _ 6 s vk vx vb vs la ll lc d w (fun W => cparts_6 W) (fun W => cisKind_calls 6 W) (fun W => cname_name 5 s (by decide +kernel) W) (fun W hB => cval_yes n tv 5 (by decide +kernel) vk vx vb vs la ll lc W (h.below hB)) (fun W => cdel_no 5 d (by decide +kernel) W)).mono fun e w' hc => hc.of ?_
    simp [MayC, cnf, cvf, cdf, cNm, cVl]
  by_cases h3 : k = 3
  · subst h3
    refine (ccheck_gen 4 _ _ _ _ 3 s vk vx vb vs la ll lc d w (fun W => cparts_3 W) (fun W => cisKind_calls 3 W) (fun W => cname_none 4 s (by decide +kernel) (by decide +kernel) W) (fun W hB => cval_yes n tv 4 (by decide +kernel) vk vx vb vs la ll lc W (h.below hB)) (fun W => cdel_no 4 d (by decide +kernel) W)).mono fun e w' hc => hc.of ?_
    simp [MayC, cnf, cvf, cdf, cNm, cVl]
  by_cases h7 : k = 7
  · subst h7
    refine (ccheck_gen 4 _ _ _ _ 7 s vk vx vb vs la ll lc d w (fun W => cparts_7 W) (fun W => cisKind_calls 7 W) (fun W => cname_none 4 s (by decide +kernel) (by decide +kernel) W) (fun W hB => cval_yes n tv 4 (by decide +kernel) vk vx vb vs la ll lc W (h.below hB)) (fun W => cdel_no 4 d (by decide +kernel) W)).mono fun e w' hc => hc.of ?_
    simp [MayC, cnf, cvf, cdf, cNm, cVl]
  by_cases h8 : k = 8
  · subst h8
    refine (ccheck_gen 2 _ _ _ _ 8 s vk vx vb vs la ll lc d w (fun W => cparts_8 W) (fun W => cisKind_calls 8 W) (fun W => cname_text 2 s (by decide +kernel) (by decide +kernel) W) (fun W hB => cval_no n tv 2 (by decide +kernel) vk vx vb vs la ll lc W (h.below hB)) (fun W => cdel_no 2 d (by decide +kernel) W)).mono fun e w' hc => hc.of ?_
    simp [MayC, cnf, cvf, cdf, cNm, cVl]
  refine (ccheck_gen 0 _ _ _ _ k s vk vx vb vs la ll lc d w (fun W => cparts_no k h1 h2 h4 h5 h6 h3 h7 h8 W) (fun W => cisKind_calls k W) (fun W => cname_none 0 s (by decide +kernel) (by decide +kernel) W) (fun W hB => cval_no n tv 0 (by decide +kernel) vk vx vb vs la ll lc W (h.below hB)) (fun W => cdel_no 0 d (by decide +kernel) W)).mono fun e w' hc => hc.of ?_
  simp [MayC, cnf, cvf, cdf, cNm, cVl, h1, h2, h4, h5, h6, h3, h7, h8]
end Go.Proofs.YtddigndamimmpaaDoor
