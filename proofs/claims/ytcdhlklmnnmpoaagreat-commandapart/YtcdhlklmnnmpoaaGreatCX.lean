/- Commands as data: Check, asks, wishes, drafts, add. -/
import Derived.Test.YtcdhlklmnnmpoaaGreatGA
import Derived.Deep.DeepCutAuto
import Derived.Test.YtcdhlklmnnmpoaaGreatUX
import Derived.Deep.MidRow
import Derived.Lib.AppendZeros
import Derived.Laws.AppendOwnNone
namespace Go.Proofs.YtcdhlklmnnmpoaaGreat
open Go.ChangeShapes Go.WideShapes Go.ChangeAt Go.RowKit
/-- A command. -/
structure Cm where
  k : Int
  s : ByteArray
  v : Tv
  d : Int
def cNm (k : Int) : Bool := k == 1 || k == 2 || k == 4 || k == 5 || k == 6
def cVl (k : Int) : Bool := k == 3 || k == 5 || k == 6 || k == 7
def cnf (k : Int) (s : ByteArray) : Bool := if cNm k then nmB s else if k == 8 then decide (s.size ≤ 200) else s.toList.isEmpty
def cvf (n : Nat) (k : Int) (t : Tv) : Prop := (cVl k = true ∧ May n t) ∨ (cVl k = false ∧ t = zE)
def cdf (k d : Int) : Bool := if k == 1 then wi d 0 1073741824 else d == 0
/-- A command that may be. -/
def MayC (n : Nat) (c : Cm) : Prop := wi c.k 1 9 = true ∧ cnf c.k c.s = true ∧ cvf n c.k c.v ∧ cdf c.k c.d = true
/-- Does it close? -/
def clo (k : Int) : Bool := k == 7 || k == 8 || k == 9
theorem cparts_1 (w : World) : Calls Tryz.prog 16 #[.int .i64 1] w fun e w' => e = .returned (.int .i64 9) ∧ w' = w := by
  go_enter Tryz.func16, Tryz.ntmps16
  go_wp2
  go_ret
  exact ⟨rfl, rfl⟩
theorem cparts_2 (w : World) : Calls Tryz.prog 16 #[.int .i64 2] w fun e w' => e = .returned (.int .i64 1) ∧ w' = w := by
  go_enter Tryz.func16, Tryz.ntmps16
  go_wp2
  go_ret
  exact ⟨rfl, rfl⟩
theorem cparts_4 (w : World) : Calls Tryz.prog 16 #[.int .i64 4] w fun e w' => e = .returned (.int .i64 1) ∧ w' = w := by
  go_enter Tryz.func16, Tryz.ntmps16
  go_wp2
  go_ret
  exact ⟨rfl, rfl⟩
theorem cparts_5 (w : World) : Calls Tryz.prog 16 #[.int .i64 5] w fun e w' => e = .returned (.int .i64 5) ∧ w' = w := by
  go_enter Tryz.func16, Tryz.ntmps16
  go_wp2
  go_ret
  exact ⟨rfl, rfl⟩
theorem cparts_6 (w : World) : Calls Tryz.prog 16 #[.int .i64 6] w fun e w' => e = .returned (.int .i64 5) ∧ w' = w := by
  go_enter Tryz.func16, Tryz.ntmps16
  go_wp2
  go_ret
  exact ⟨rfl, rfl⟩
theorem cparts_3 (w : World) : Calls Tryz.prog 16 #[.int .i64 3] w fun e w' => e = .returned (.int .i64 4) ∧ w' = w := by
  go_enter Tryz.func16, Tryz.ntmps16
  go_wp2
  go_ret
  exact ⟨rfl, rfl⟩
theorem cparts_7 (w : World) : Calls Tryz.prog 16 #[.int .i64 7] w fun e w' => e = .returned (.int .i64 4) ∧ w' = w := by
  go_enter Tryz.func16, Tryz.ntmps16
  go_wp2
  go_ret
  exact ⟨rfl, rfl⟩
theorem cparts_8 (w : World) : Calls Tryz.prog 16 #[.int .i64 8] w fun e w' => e = .returned (.int .i64 2) ∧ w' = w := by
  go_enter Tryz.func16, Tryz.ntmps16
  go_wp2
  go_ret
  exact ⟨rfl, rfl⟩
theorem cparts_no (k : Int) (h1 : k ≠ 1) (h2 : k ≠ 2) (h4 : k ≠ 4) (h5 : k ≠ 5) (h6 : k ≠ 6) (h3 : k ≠ 3) (h7 : k ≠ 7) (h8 : k ≠ 8) (w : World) : Calls Tryz.prog 16 #[.int .i64 k] w fun e w' => e = .returned (.int .i64 0) ∧ w' = w := by
  have d1 : (k == 1) = false := by simpa using h1
  have d2 : (k == 2) = false := by simpa using h2
  have d4 : (k == 4) = false := by simpa using h4
  have d5 : (k == 5) = false := by simpa using h5
  have d6 : (k == 6) = false := by simpa using h6
  have d3 : (k == 3) = false := by simpa using h3
  have d7 : (k == 7) = false := by simpa using h7
  have d8 : (k == 8) = false := by simpa using h8
  clear h1 h2 h4 h5 h6 h3 h7 h8
  go_enter Tryz.func16, Tryz.ntmps16
  go_wp2
  go_ret
  exact ⟨rfl, rfl⟩
theorem cisKind_calls (n : Int) (w : World) : Calls Tryz.prog 17 #[.int .i64 n] w fun e w' => e = .returned (.bool (wi n 1 9)) ∧ w' = w := by
  by_cases h1 : 1 ≤ n
  · have d1 : decide (1 ≤ n) = true := decide_eq_true h1
    go_enter Tryz.func17, Tryz.ntmps17
    go_wp2
    go_ret
    exact ⟨by simp [wi, h1], rfl⟩
  · have d1 : decide (1 ≤ n) = false := decide_eq_false h1
    clear h1
    go_enter Tryz.func17, Tryz.ntmps17
    go_wp2
    go_ret
    exact ⟨by simp [wi, d1], rfl⟩
theorem cname_name (p : Int) (s : ByteArray) (h1 : bits BinOp.and IntKind.i64 p 1 = 1) (w : World) : Calls Tryz.prog 18 #[.string s, .int .i64 p] w fun e w' => e = .returned (.bool (nmB s)) ∧ w' = w := by
  go_enter Tryz.func18, Tryz.ntmps18
  go_wp2_with fail
  refine (name_calls s _).mono ?_
  rintro e w' ⟨rfl, rfl⟩
  go_wp2_with fail
  go_ret
  exact ⟨rfl, rfl⟩
theorem cname_text (p : Int) (s : ByteArray) (h1 : bits BinOp.and IntKind.i64 p 1 = 0) (h2 : bits BinOp.and IntKind.i64 p 2 = 2) (w : World) : Calls Tryz.prog 18 #[.string s, .int .i64 p] w fun e w' => e = .returned (.bool (decide (s.size ≤ 200))) ∧ w' = w := by
  go_enter Tryz.func18, Tryz.ntmps18
  go_wp2_with fail
  refine (text40_calls s _).mono ?_
  rintro e w' ⟨rfl, rfl⟩
  go_wp2_with fail
  go_ret
  exact ⟨rfl, rfl⟩
theorem cname_none (p : Int) (s : ByteArray) (h1 : bits BinOp.and IntKind.i64 p 1 = 0) (h2 : bits BinOp.and IntKind.i64 p 2 = 0) (w : World) : Calls Tryz.prog 18 #[.string s, .int .i64 p] w fun e w' => e = .returned (.bool s.toList.isEmpty) ∧ w' = w := by
  go_enter Tryz.func18, Tryz.ntmps18
  go_wp2_with fail
  go_ret
  cases hs : s.toList <;> simp
theorem cval_yes (n : Nat) (t : Tv) (p : Int) (h4 : bits BinOp.and IntKind.i64 p 4 = 4) (vk vx vb : Int) (vs : ByteArray) (la : Option Addr) (ll lc : Nat) (w : World) (h : Is w (n + 1) (.agg #[.int .i64 vk, .int .i64 vx, .int .u64 vb, .string vs, .slice la ll lc]) t) : Calls Tryz.prog 19 #[(.agg #[.int .i64 vk, .int .i64 vx, .int .u64 vb, .string vs, .slice la ll lc]), .int .i64 p] w (FitP (May (n + 1) t) w) := by
  have RC : Hid (∀ W, Below w.heap.size w W → _) := fun W hB => check_calls (n + 1) (.agg #[.int .i64 vk, .int .i64 vx, .int .u64 vb, .string vs, .slice la ll lc]) t W (h.below hB)
  have HQ : Hid (∀ b w', (b = true ↔ May (n + 1) t) → Below w.heap.size w w' → FitP (May (n + 1) t) w (.returned (.bool b)) w') := fun b w' h1 h2 => ⟨⟨b, rfl, h1⟩, h2⟩
  generalize FitP (May (n + 1) t) w = Q at HQ ⊢
  clear h
  go_enter Tryz.func19, Tryz.ntmps19
  go_wp2_with fail
  refine (RC.out _ (bel1 _ _)).mono ?_
  rintro e w1 ⟨⟨r, rfl, r1, r2⟩, hb⟩
  have HR : Hid ((May (n + 1) t → r = 0) ∧ (¬ May (n + 1) t → r = 1)) := ⟨r1, r2⟩
  have HB : Hid (Below w.heap.size w w1) := bel2 (bel1 _ _) hb
  clear r1 r2 hb
  go_wp2_with fail
  refine HQ.out _ _ ?_ HB.out
  by_cases hm : May (n + 1) t
  · have := HR.out.1 hm; simp [hm, this]
  · have := HR.out.2 hm; simp [hm, this]
theorem cval_no (n : Nat) (t : Tv) (p : Int) (h4 : bits BinOp.and IntKind.i64 p 4 = 0) (vk vx vb : Int) (vs : ByteArray) (la : Option Addr) (ll lc : Nat) (w : World) (h : Is w (n + 1) (.agg #[.int .i64 vk, .int .i64 vx, .int .u64 vb, .string vs, .slice la ll lc]) t) : Calls Tryz.prog 19 #[(.agg #[.int .i64 vk, .int .i64 vx, .int .u64 vb, .string vs, .slice la ll lc]), .int .i64 p] w (FitP (t = zE) w) := by
  have SC : Hid (∀ W, Below w.heap.size w W → _) := fun W hB => same_calls (n + 1) (.agg #[.int .i64 vk, .int .i64 vx, .int .u64 vb, .string vs, .slice la ll lc]) t (.agg #[.int .i64 0, .int .i64 0, .int .u64 0, .string ⟨#[]⟩, .slice none 0 0]) zE W (h.below hB) (zE_is W n)
  have HQ : Hid (∀ b w', (b = true ↔ t = zE) → Below w.heap.size w w' → FitP (t = zE) w (.returned (.bool b)) w') := fun b w' h1 h2 => ⟨⟨b, rfl, h1⟩, h2⟩
  generalize FitP (t = zE) w = Q at HQ ⊢
  clear h
  go_enter Tryz.func19, Tryz.ntmps19
  go_wp2_with fail
  refine (SC.out _ (bel1 _ _)).mono ?_
  rintro e w1 ⟨⟨r, rfl, r1⟩, hb⟩
  have HR : Hid (r = true ↔ t = zE) := r1
  have HB : Hid (Below w.heap.size w w1) := bel2 (bel1 _ _) hb
  clear r1 hb
  go_wp2_with fail
  exact HQ.out _ _ HR.out HB.out
theorem cdel_yes (p d : Int) (h8 : bits BinOp.and IntKind.i64 p 8 = 8) (w : World) : Calls Tryz.prog 20 #[.int .i64 d, .int .i64 p] w fun e w' => e = .returned (.bool (wi d 0 1073741824)) ∧ w' = w := by
  by_cases h1 : 0 ≤ d
  · have d1 : decide (0 ≤ d) = true := decide_eq_true h1
    go_enter Tryz.func20, Tryz.ntmps20
    go_wp2_with fail
    go_ret
    exact ⟨by simp [wi, h1], rfl⟩
  · have d1 : decide (0 ≤ d) = false := decide_eq_false h1
    have e1 : wi d 0 1073741824 = false := by simp [wi, d1]
    rw [e1]
    clear h1 e1
    go_enter Tryz.func20, Tryz.ntmps20
    go_wp2_with fail
    go_ret
    exact ⟨rfl, rfl⟩
theorem cdel_no (p d : Int) (h8 : bits BinOp.and IntKind.i64 p 8 = 0) (w : World) : Calls Tryz.prog 20 #[.int .i64 d, .int .i64 p] w fun e w' => e = .returned (.bool (d == 0)) ∧ w' = w := by
  go_enter Tryz.func20, Tryz.ntmps20
  go_wp2_with fail
  go_ret
  exact ⟨rfl, rfl⟩
/-- The eight cells of a command in block B. -/
def At8 (w : World) (B : Nat) (c0 c1 c2 c3 c4 c5 c6 c7 : Value) : Prop := w.cell? ⟨B, 0, none⟩ = some c0 ∧ w.cell? ⟨B, 1, none⟩ = some c1 ∧ w.cell? ⟨B, 2, none⟩ = some c2 ∧ w.cell? ⟨B, 3, none⟩ = some c3 ∧ w.cell? ⟨B, 4, none⟩ = some c4 ∧ w.cell? ⟨B, 5, none⟩ = some c5 ∧ w.cell? ⟨B, 6, none⟩ = some c6 ∧ w.cell? ⟨B, 7, none⟩ = some c7
theorem At8.below {w w' : World} {B : Nat} {c0 c1 c2 c3 c4 c5 c6 c7 : Value} (h : At8 w B c0 c1 c2 c3 c4 c5 c6 c7) (hb : Below w.heap.size w w') : At8 w' B c0 c1 c2 c3 c4 c5 c6 c7 := by
  obtain ⟨x0, x1, x2, x3, x4, x5, x6, x7⟩ := h
  exact ⟨cellB x0 hb, cellB x1 hb, cellB x2 hb, cellB x3 hb, cellB x4 hb, cellB x5 hb, cellB x6 hb, cellB x7 hb⟩
theorem At8.box (w : World) (c0 c1 c2 c3 c4 c5 c6 c7 : Value) : At8 (w.alloc (.cells #[c0, c1, c2, c3, c4, c5, c6, c7] 27)) w.heap.size c0 c1 c2 c3 c4 c5 c6 c7 := by
  refine ⟨?_, ?_, ?_, ?_, ?_, ?_, ?_, ?_⟩ <;> simp
set_option maxHeartbeats 2000000 in
set_option maxRecDepth 100000 in
theorem ccheck_gen (p : Int) (bK bN bD : Bool) (PV : Prop) (k : Int) (s : ByteArray) (vk vx vb : Int) (vs : ByteArray) (la : Option Addr) (ll lc : Nat) (d : Int) (w : World)
    (h1 : ∀ W, Calls Tryz.prog 16 #[.int .i64 k] W fun e w' => e = .returned (.int .i64 p) ∧ w' = W)
    (h2 : ∀ W, Calls Tryz.prog 17 #[.int .i64 k] W fun e w' => e = .returned (.bool bK) ∧ w' = W)
    (h3 : ∀ W, Calls Tryz.prog 18 #[.string s, .int .i64 p] W fun e w' => e = .returned (.bool bN) ∧ w' = W)
    (h4 : ∀ W, Below w.heap.size w W → Calls Tryz.prog 19 #[(.agg #[.int .i64 vk, .int .i64 vx, .int .u64 vb, .string vs, .slice la ll lc]), .int .i64 p] W (FitP PV W))
    (h5 : ∀ W, Calls Tryz.prog 20 #[.int .i64 d, .int .i64 p] W fun e w' => e = .returned (.bool bD) ∧ w' = W) :
    Calls Tryz.prog 6 #[.agg #[.int .i64 k, .string s, .int .i64 vk, .int .i64 vx, .int .u64 vb, .string vs, .slice la ll lc, .int .i64 d]] w (CkP (bK = true ∧ bN = true ∧ PV ∧ bD = true) w) := by
  have H1 : Hid (∀ W, Calls Tryz.prog 16 #[.int .i64 k] W fun e w' => e = .returned (.int .i64 p) ∧ w' = W) := h1
  have H2 : Hid (∀ W, Calls Tryz.prog 17 #[.int .i64 k] W fun e w' => e = .returned (.bool bK) ∧ w' = W) := h2
  have H3 : Hid (∀ W, Calls Tryz.prog 18 #[.string s, .int .i64 p] W fun e w' => e = .returned (.bool bN) ∧ w' = W) := h3
  have H4 : Hid (∀ W, Below w.heap.size w W → Calls Tryz.prog 19 #[(.agg #[.int .i64 vk, .int .i64 vx, .int .u64 vb, .string vs, .slice la ll lc]), .int .i64 p] W (FitP PV W)) := h4
  have H5 : Hid (∀ W, Calls Tryz.prog 20 #[.int .i64 d, .int .i64 p] W fun e w' => e = .returned (.bool bD) ∧ w' = W) := h5
  have HF : Hid (∀ r w', ((bK = true ∧ bN = true ∧ PV ∧ bD = true) → r = 0) → (¬ (bK = true ∧ bN = true ∧ PV ∧ bD = true) → r = 1) → Below w.heap.size w w' → CkP (bK = true ∧ bN = true ∧ PV ∧ bD = true) w (.returned (.int .i64 r)) w') := fun r w' h1 h2 h3 => ⟨r, rfl, h1, h2, h3⟩
  generalize CkP (bK = true ∧ bN = true ∧ PV ∧ bD = true) w = Q at HF ⊢
  have HX0 := At8.box w (.int .i64 k) (.string s) (.int .i64 vk) (.int .i64 vx) (.int .u64 vb) (.string vs) (.slice la ll lc) (.int .i64 d)
  clear h1 h2 h3 h4 h5
  go_enter Tryz.func6, Tryz.ntmps6
  go_upto_region 1 with fail
  have HB : Hid (Below w.heap.size w (w.alloc (.cells #[.int .i64 k, .string s, .int .i64 vk, .int .i64 vx, .int .u64 vb, .string vs, .slice la ll lc, .int .i64 d] 27))) := bel1 _ _
  generalize (w.alloc (.cells #[.int .i64 k, .string s, .int .i64 vk, .int .i64 vx, .int .u64 vb, .string vs, .slice la ll lc, .int .i64 d] 27)) = W0 at HB HX0 ⊢
  obtain ⟨x0, x1, x2, x3, x4, x5, x6, x7⟩ := HX0
  go_wp2_with fail
  refine (H1.out _).mono ?_
  rintro e w1 ⟨rfl, e1⟩
  obtain rfl := e1.symm
  clear e1
  go_wp2_with fail
  refine (H2.out _).mono ?_
  rintro e w1 ⟨rfl, e1⟩
  obtain rfl := e1.symm
  clear e1
  cases bK with
  | false =>
    go_wp2_with fail
    exact HF.out 1 _ (fun h => by simp at h) (fun _ => rfl) HB.out
  | true =>
    go_wp2_with fail
    refine (H3.out _).mono ?_
    rintro e w1 ⟨rfl, e1⟩
    obtain rfl := e1.symm
    clear e1
    cases bN with
    | false =>
      go_wp2_with fail
      exact HF.out 1 _ (fun h => by simp at h) (fun _ => rfl) HB.out
    | true =>
      go_wp2_with fail
      refine (H4.out _ HB.out).mono ?_
      rintro e w1 ⟨⟨b, rfl, hbP⟩, hb⟩
      have HP : Hid (b = true ↔ PV) := hbP
      have y7 := cellB x7 hb
      have HB1 : Hid (Below w.heap.size w w1) := bel2 HB.out hb
      clear hbP x0 x1 x2 x3 x4 x5 x6 x7 hb
      cases b with
      | false =>
        go_wp2_with fail
        exact HF.out 1 _ (fun h => by have := HP.out.2 h.2.2.1; cases this) (fun _ => rfl) HB1.out
      | true =>
        have HPV : Hid PV := HP.out.1 rfl
        clear HP
        go_wp2_with fail
        refine (H5.out _).mono ?_
        rintro e w2 ⟨rfl, e1⟩
        obtain rfl := e1.symm
        clear e1
        cases bD with
        | false =>
          go_wp2_with fail
          exact HF.out 1 _ (fun h => by simp at h) (fun _ => rfl) HB1.out
        | true =>
          go_wp2_with fail
          exact HF.out 0 _ (fun _ => rfl) (fun h => absurd (by simpa using HPV.out) h) HB1.out
theorem CkP.of {P P' : Prop} {w w' : World} {e : Ending} (h : P ↔ P') (hc : CkP P w e w') : CkP P' w e w' := by
  obtain ⟨r, a, b, c, d⟩ := hc
  exact ⟨r, a, fun x => b (h.2 x), fun x => c fun y => x (h.1 y), d⟩
theorem ccheck_calls (n : Nat) (tv : Tv) (k : Int) (s : ByteArray) (vk vx vb : Int) (vs : ByteArray) (la : Option Addr) (ll lc : Nat) (d : Int) (w : World) (h : Is w (n + 1) (.agg #[.int .i64 vk, .int .i64 vx, .int .u64 vb, .string vs, .slice la ll lc]) tv) : Calls Tryz.prog 6 #[.agg #[.int .i64 k, .string s, .int .i64 vk, .int .i64 vx, .int .u64 vb, .string vs, .slice la ll lc, .int .i64 d]] w (CkP (MayC (n + 1) ⟨k, s, tv, d⟩) w) := by
  by_cases h1 : k = 1
  · subst h1
    refine (ccheck_gen 9 _ _ _ _ 1 s vk vx vb vs la ll lc d w (fun W => cparts_1 W) (fun W => cisKind_calls 1 W) (fun W => cname_name 9 s (by decide +kernel) W) (fun W hB => cval_no n tv 9 (by decide +kernel) vk vx vb vs la ll lc W (h.below hB)) (fun W => cdel_yes 9 d (by decide +kernel) W)).mono fun e w' hc => hc.of ?_
    simp [MayC, cnf, cvf, cdf, cNm, cVl]
  by_cases h2 : k = 2
  · subst h2
    refine (ccheck_gen 1 _ _ _ _ 2 s vk vx vb vs la ll lc d w (fun W => cparts_2 W) (fun W => cisKind_calls 2 W) (fun W => cname_name 1 s (by decide +kernel) W) (fun W hB => cval_no n tv 1 (by decide +kernel) vk vx vb vs la ll lc W (h.below hB)) (fun W => cdel_no 1 d (by decide +kernel) W)).mono fun e w' hc => hc.of ?_
    simp [MayC, cnf, cvf, cdf, cNm, cVl]
  by_cases h4 : k = 4
  · subst h4
    refine (ccheck_gen 1 _ _ _ _ 4 s vk vx vb vs la ll lc d w (fun W => cparts_4 W) (fun W => cisKind_calls 4 W) (fun W => cname_name 1 s (by decide +kernel) W) (fun W hB => cval_no n tv 1 (by decide +kernel) vk vx vb vs la ll lc W (h.below hB)) (fun W => cdel_no 1 d (by decide +kernel) W)).mono fun e w' hc => hc.of ?_
    simp [MayC, cnf, cvf, cdf, cNm, cVl]
  by_cases h5 : k = 5
  · subst h5
    refine (ccheck_gen 5 _ _ _ _ 5 s vk vx vb vs la ll lc d w (fun W => cparts_5 W) (fun W => cisKind_calls 5 W) (fun W => cname_name 5 s (by decide +kernel) W) (fun W hB => cval_yes n tv 5 (by decide +kernel) vk vx vb vs la ll lc W (h.below hB)) (fun W => cdel_no 5 d (by decide +kernel) W)).mono fun e w' hc => hc.of ?_
    simp [MayC, cnf, cvf, cdf, cNm, cVl]
  by_cases h6 : k = 6
  · subst h6
    refine (ccheck_gen 5 _ _ _ _ 6 s vk vx vb vs la ll lc d w (fun W => cparts_6 W) (fun W => cisKind_calls 6 W) (fun W => cname_name 5 s (by decide +kernel) W) (fun W hB => cval_yes n tv 5 (by decide +kernel) vk vx vb vs la ll lc W (h.below hB)) (fun W => cdel_no 5 d (by decide +kernel) W)).mono fun e w' hc => hc.of ?_
    simp [MayC, cnf, cvf, cdf, cNm, cVl]
  by_cases h3 : k = 3
  · subst h3
    refine (ccheck_gen 4 _ _ _ _ 3 s vk vx vb vs la ll lc d w (fun W => cparts_3 W) (fun W => cisKind_calls 3 W) (fun W => cname_none 4 s (by decide +kernel) (by decide +kernel) W) (fun W hB => cval_yes n tv 4 (by decide +kernel) vk vx vb vs la ll lc W (h.below hB)) (fun W => cdel_no 4 d (by decide +kernel) W)).mono fun e w' hc => hc.of ?_
    simp [MayC, cnf, cvf, cdf, cNm, cVl]
  by_cases h7 : k = 7
  · subst h7
    refine (ccheck_gen 4 _ _ _ _ 7 s vk vx vb vs la ll lc d w (fun W => cparts_7 W) (fun W => cisKind_calls 7 W) (fun W => cname_none 4 s (by decide +kernel) (by decide +kernel) W) (fun W hB => cval_yes n tv 4 (by decide +kernel) vk vx vb vs la ll lc W (h.below hB)) (fun W => cdel_no 4 d (by decide +kernel) W)).mono fun e w' hc => hc.of ?_
    simp [MayC, cnf, cvf, cdf, cNm, cVl]
  by_cases h8 : k = 8
  · subst h8
    refine (ccheck_gen 2 _ _ _ _ 8 s vk vx vb vs la ll lc d w (fun W => cparts_8 W) (fun W => cisKind_calls 8 W) (fun W => cname_text 2 s (by decide +kernel) (by decide +kernel) W) (fun W hB => cval_no n tv 2 (by decide +kernel) vk vx vb vs la ll lc W (h.below hB)) (fun W => cdel_no 2 d (by decide +kernel) W)).mono fun e w' hc => hc.of ?_
    simp [MayC, cnf, cvf, cdf, cNm, cVl]
  refine (ccheck_gen 0 _ _ _ _ k s vk vx vb vs la ll lc d w (fun W => cparts_no k h1 h2 h4 h5 h6 h3 h7 h8 W) (fun W => cisKind_calls k W) (fun W => cname_none 0 s (by decide +kernel) (by decide +kernel) W) (fun W hB => cval_no n tv 0 (by decide +kernel) vk vx vb vs la ll lc W (h.below hB)) (fun W => cdel_no 0 d (by decide +kernel) W)).mono fun e w' hc => hc.of ?_
  simp [MayC, cnf, cvf, cdf, cNm, cVl, h1, h2, h4, h5, h6, h3, h7, h8]
theorem closes_calls (k : Int) (s : ByteArray) (vk vx vb : Int) (vs : ByteArray) (la : Option Addr) (ll lc : Nat) (d : Int) (w : World) : Calls Tryz.prog 25 #[.agg #[.int .i64 k, .string s, .int .i64 vk, .int .i64 vx, .int .u64 vb, .string vs, .slice la ll lc, .int .i64 d]] w fun e w' => e = .returned (.bool (clo k)) ∧ Below w.heap.size w w' := by
  unfold clo
  by_cases h7 : k = 7
  · subst h7
    go_enter Tryz.func25, Tryz.ntmps25
    go_wp2_with fail
    go_ret
    exact ⟨rfl, bel1 _ _⟩
  by_cases h8 : k = 8
  · subst h8
    clear h7
    go_enter Tryz.func25, Tryz.ntmps25
    go_wp2_with fail
    go_ret
    exact ⟨rfl, bel1 _ _⟩
  by_cases h9 : k = 9
  · subst h9
    clear h7 h8
    go_enter Tryz.func25, Tryz.ntmps25
    go_wp2_with fail
    go_ret
    exact ⟨rfl, bel1 _ _⟩
  have d7 : (k == 7) = false := by simpa using h7
  have d8 : (k == 8) = false := by simpa using h8
  have d9 : (k == 9) = false := by simpa using h9
  rw [d7, d8, d9]
  clear h7 h8 h9
  go_enter Tryz.func25, Tryz.ntmps25
  go_wp2_with fail
  go_ret
  exact ⟨rfl, bel1 _ _⟩
theorem rcloses_calls (k : Int) (s : ByteArray) (vk vx vb : Int) (vs : ByteArray) (la : Option Addr) (ll lc : Nat) (d : Int) (w : World) : Calls Tryz.prog 26 #[.agg #[.int .i64 k, .string s, .int .i64 vk, .int .i64 vx, .int .u64 vb, .string vs, .slice la ll lc, .int .i64 d]] w fun e w' => e = .returned (.bool (clo k)) ∧ Below w.heap.size w w' := by
  unfold clo
  by_cases h7 : k = 7
  · subst h7
    go_enter Tryz.func26, Tryz.ntmps26
    go_wp2_with fail
    go_ret
    exact ⟨rfl, bel1 _ _⟩
  by_cases h8 : k = 8
  · subst h8
    clear h7
    go_enter Tryz.func26, Tryz.ntmps26
    go_wp2_with fail
    go_ret
    exact ⟨rfl, bel1 _ _⟩
  have d7 : (k == 7) = false := by simpa using h7
  have d8 : (k == 8) = false := by simpa using h8
  rw [d7, d8]
  clear h7 h8
  go_enter Tryz.func26, Tryz.ntmps26
  go_wp2_with fail
  go_ret
  exact ⟨by simp, bel1 _ _⟩
end Go.Proofs.YtcdhlklmnnmpoaaGreat
namespace Go.Proofs.YtcdhlklmnnmpoaaGreat
open Go.ChangeShapes Go.WideShapes Go.ChangeAt Go.RowKit
/-- An ask. -/
structure Ak where
  o : Int
  s : ByteArray
  v : Tv
/-- Seven cells are an ask. -/
structure IsA (R : Value → Tv → Prop) (az : Array Value) (a : Ak) : Prop where
  size : az.size = 7
  c0 : az[0]? = some (.int .i64 a.o)
  c1 : az[1]? = some (.string a.s)
  v : V5 R az 2 a.v
theorem IsA.map {R R' : Value → Tv → Prop} {az : Array Value} {a : Ak} (hR : ∀ v t, R v t → R' v t) (h : IsA R az a) : IsA R' az a := { h with v := h.v.map fun v => hR v _ }
theorem arr7 {α : Type} (xs : Array α) (h : xs.size = 7) : ∃ c0 c1 c2 c3 c4 c5 c6, xs = #[c0, c1, c2, c3, c4, c5, c6] := by
  obtain ⟨l⟩ := xs
  match l, h with
  | [c0, c1, c2, c3, c4, c5, c6], _ => exact ⟨c0, c1, c2, c3, c4, c5, c6, rfl⟩
theorem IsA.lit {R : Value → Tv → Prop} {az : Array Value} {d : Ak} (h : IsA R az d) : ∃ k x b t l m c, az = #[.int .i64 d.o, .string d.s, .int .i64 k, .int .i64 x, .int .u64 b, .string t, .slice l m c] ∧ R (.agg #[.int .i64 k, .int .i64 x, .int .u64 b, .string t, .slice l m c]) d.v := by
  obtain ⟨k, x, b, t, l, m, c, v0, v1, v2, v3, v4, v5⟩ := h.v
  refine ⟨k, x, b, t, l, m, c, ?_, v5⟩
  obtain ⟨e0, e1, e2, e3, e4, e5, e6, rfl⟩ := arr7 az h.size
  have h0 := h.c0
  have h1 := h.c1
  simp at h0 h1 v0 v1 v2 v3 v4
  subst h0 h1 v0 v1 v2 v3 v4
  rfl
theorem IsA.one {R : Value → Tv → Prop} {az : Array Value} {d : Ak} (h : IsA R az d) (j : Nat) (v : Value) (hv : az[j]? = some v) : v.oneCell' = true := by
  obtain ⟨k, x, b, t, l, m, c, rfl, _⟩ := h.lit
  have hj : j < 7 := (Array.getElem?_eq_some_iff.1 hv).1
  match j, hj, hv with
  | 0, _, hv => simp at hv; subst hv; rfl
  | 1, _, hv => simp at hv; subst hv; rfl
  | 2, _, hv => simp at hv; subst hv; rfl
  | 3, _, hv => simp at hv; subst hv; rfl
  | 4, _, hv => simp at hv; subst hv; rfl
  | 5, _, hv => simp at hv; subst hv; rfl
  | 6, _, hv => simp at hv; subst hv; rfl
/-- Asks one behind the other. -/
def LkA (ok : Nat → Prop) (R : Value → Tv → Prop) (w : World) (a : Option Addr) (l : List Ak) : Prop :=
  ∃ rows : List (Array Value), rows.length = l.length ∧ RowS ok w a 7 rows ∧ ∀ (i : Nat) r e, rows[i]? = some r → l[i]? = some e → IsA R r e
theorem LkA.keep {ok ok' : Nat → Prop} {w w' : World} {n : Nat} {a : Option Addr} {l : List Ak} (hok : ∀ B, B < w.heap.size → ok B → ok' B) (hb : ∀ B, B < w.heap.size → ok B → w'.heap[B]? = w.heap[B]?) (h : LkA ok (IsP ok w n) w a l) : LkA ok' (IsP ok' w' n) w' a l := by
  obtain ⟨rows, h1, h2, h3⟩ := h
  exact ⟨rows, h1, h2.keep hok hb (by decide), fun i r e hr he => (h3 i r e hr he).map fun v t hv => hv.keep hok hb⟩
/-- Only the names are looked at. -/
def Nms (w : World) (a : Option Addr) (l : List Ak) : Prop := LkA (fun _ => True) (fun _ _ => True) w a l
theorem LkA.nms {ok : Nat → Prop} {R : Value → Tv → Prop} {w : World} {a : Option Addr} {l : List Ak} (h : LkA ok R w a l) : Nms w a l := by
  obtain ⟨rows, h1, h2, h3⟩ := h
  exact ⟨rows, h1, h2.map (fun _ _ _ => trivial) (fun _ _ _ hv => hv) (by decide), fun i r e hr he => (h3 i r e hr he).map fun _ _ _ => trivial⟩
theorem Nms.below {w w' : World} {a : Option Addr} {l : List Ak} (h : Nms w a l) (hb : Below w.heap.size w w') : Nms w' a l := by
  obtain ⟨rows, h1, h2, h3⟩ := h
  exact ⟨rows, h1, h2.map (fun _ _ _ => trivial) (fun _ _ _ hv => (hb.cell (World.block_lt_of_cell? w _ hv)).trans hv) (by decide), h3⟩
/-- Where the first ask of a name is; -1: none. -/
def akAt (l : List Ak) (q : ByteArray) : Int := ixI (fun d => eqS d.s q) l
set_option maxHeartbeats 1000000 in
theorem aeq_calls (d : Ak) (k x b : Int) (t : ByteArray) (l : Option Addr) (m c : Nat) (q : ByteArray) (g : Nat) (w : World) (hg : w.cell? ⟨g, 0, none⟩ = some (.string q)) :
    Calls Tryz.prog 148 #[.agg #[.int .i64 d.o, .string d.s, .int .i64 k, .int .i64 x, .int .u64 b, .string t, .slice l m c], .pointer (some ⟨g, 0, none⟩)] w fun e w' => e = .returned (.bool (eqS d.s q)) ∧ Below w.heap.size w w' := by
  have hb := bel1 w (.cells #[.int .i64 d.o, .string d.s, .int .i64 k, .int .i64 x, .int .u64 b, .string t, .slice l m c] 48)
  have hg1 := cell_below hg hb
  have HB : Hid (Below w.heap.size w _) := hb
  clear hb hg
  go_enter Tryz.func148, Tryz.ntmps148
  go_wp2_with fail
  go_ret
  exact ⟨by first | rfl | simp, HB.out⟩
set_option maxHeartbeats 2000000 in
set_option maxRecDepth 100000 in
theorem ixA_calls (q : ByteArray) (ds : List Ak) (a : Option Addr) (n c : Nat) (hn : ds.length = n) (hs : n ≤ 1000) (g : Nat) (w : World) (h : Nms w a ds) (hg : w.cell? ⟨g, 0, none⟩ = some (.string q)) :
    Calls Tryz.prog 147 #[.slice a n c, .func (.func 148) #[] #[.pointer (some ⟨g, 0, none⟩)]] w (IxP (akAt ds q) w) := by
  have HI : Hid (Nms w a ds) := h
  have HN : Hid (ds.length = n) := hn
  have HS : Hid (n ≤ 1000) := hs
  have HP : Hid (∀ W, Below w.heap.size w W → ∀ (d : Ak) (k x b : Int) (t : ByteArray) (l : Option Addr) (m c : Nat), Calls Tryz.prog 148 #[.agg #[.int .i64 d.o, .string d.s, .int .i64 k, .int .i64 x, .int .u64 b, .string t, .slice l m c], .pointer (some ⟨g, 0, none⟩)] W fun e w' => e = .returned (.bool (eqS d.s q)) ∧ Below W.heap.size W w') := fun W hB d k x b t l m c => aeq_calls d k x b t l m c q g W (cell_below hg hB)
  have HQ1 : Hid (∀ (j : Nat) (d : Ak) w', ds[j]? = some d → eqS d.s q = true → (∀ i d, i < j → ds[i]? = some d → eqS d.s q = false) → Below w.heap.size w w' → IxP (akAt ds q) w (.returned (.int .i64 (j : Int))) w') := fun j z w' h1 h2 h3 h4 => ⟨by unfold akAt; rw [ixI_some h1 h2 h3], h4⟩
  have HQ2 : Hid (∀ w', (∀ d ∈ ds, eqS d.s q = false) → Below w.heap.size w w' → IxP (akAt ds q) w (.returned (.int .i64 (-1))) w') := fun w' h1 h4 => ⟨by unfold akAt; rw [ixI_none h1], h4⟩
  generalize IxP (akAt ds q) w = Q at HQ1 HQ2 ⊢
  clear h hn hs hg
  go_enter Tryz.func147, Tryz.ntmps147
  go_wp2_with fail
  go_loopw [5, 8] (fun _ i wr => ∃ j : Nat, j ≤ n ∧ i = .int .i64 (j : Int) ∧ Hid (∀ i d, i < j → ds[i]? = some d → eqS d.s q = false) ∧ Hid (Below w.heap.size w wr)) (fun _ i _ => n - (intOf i).toNat)
  case atStart => exact ⟨0, Nat.zero_le _, rfl, fun q z hq => absurd hq (Nat.not_lt_zero _), Below.refl _ _⟩
  case round =>
    obtain ⟨j, hj, rfl, HF, HB⟩ := hrel
    by_cases hlt : j < n
    · have hjl : (j : Int) < (n : Int) := by omega
      have hj9 : (j : Int) < 1000 := by have := HS.out; omega
      obtain ⟨d, hd⟩ : ∃ d, ds[j]? = some d := ⟨_, List.getElem?_eq_getElem (by have := HN.out; omega)⟩
      obtain ⟨rows, q1, q2, q3⟩ := HI.out
      obtain ⟨r, hr⟩ : ∃ r, rows[j]? = some r := ⟨_, List.getElem?_eq_getElem (by have := HN.out; omega)⟩
      obtain ⟨_, _, B, o, rfl, _, hl⟩ := q2 j r hr
      obtain ⟨k, x, b, t, la, m, ca, rfl, _⟩ := (q3 j r d hr hd).lit
      have hl2 := hl.below HB.out
      have e0 : wr.cell? ⟨B, o + j * 7, none⟩ = some (.int .i64 d.o) := hl2 0 _ rfl
      have e1 : wr.cell? ⟨B, o + j * 7 + 1, none⟩ = some (.string d.s) := hl2 1 _ rfl
      have e2 : wr.cell? ⟨B, o + j * 7 + 2, none⟩ = some (.int .i64 k) := hl2 2 _ rfl
      have e3 : wr.cell? ⟨B, o + j * 7 + 3, none⟩ = some (.int .i64 x) := hl2 3 _ rfl
      have e4 : wr.cell? ⟨B, o + j * 7 + 4, none⟩ = some (.int .u64 b) := hl2 4 _ rfl
      have e5 : wr.cell? ⟨B, o + j * 7 + 5, none⟩ = some (.string t) := hl2 5 _ rfl
      have e6 : wr.cell? ⟨B, o + j * 7 + 6, none⟩ = some (.slice la m ca) := hl2 6 _ rfl
      have HZ : Hid (ds[j]? = some d) := hd
      have HC : Hid (Calls Tryz.prog 148 #[.agg #[.int .i64 d.o, .string d.s, .int .i64 k, .int .i64 x, .int .u64 b, .string t, .slice la m ca], .pointer (some ⟨g, 0, none⟩)] wr fun e w' => e = .returned (.bool (eqS d.s q)) ∧ Below wr.heap.size wr w') := HP.out wr HB.out d k x b t la m ca
      obtain ⟨pz, hpz⟩ : ∃ pz, pz = eqS d.s q := ⟨_, rfl⟩
      rw [← hpz] at HC
      have HZP : Hid (pz = eqS d.s q) := hpz
      have HW : Hid (wrap64 ((j : Int) + 1) = ((j + 1 : Nat) : Int)) := wr1 hlt (by have := HS.out; omega)
      clear hd hpz hl hl2 q1 q2 q3 hr
      go_wp2_with fail
      refine HC.out.mono ?_
      rintro e w1 ⟨rfl, hb⟩
      have HB1 : Hid (Below w.heap.size w w1) := bel2 HB.out hb
      clear hb e0 e1 e2 e3 e4 e5 e6
      cases pz with
      | true =>
        go_wp2_with fail
        exact HQ1.out j d _ HZ.out HZP.out.symm HF.out HB1.out
      | false =>
        have HF2 : Hid (∀ i d, i < j + 1 → ds[i]? = some d → eqS d.s q = false) := fun i z' hq hz' => by
          by_cases e : i = j
          · subst e; rw [HZ.out] at hz'; injection hz' with hz'; rw [← hz']; exact HZP.out.symm
          · exact HF.out i z' (by omega) hz'
        go_wp2_with fail
        exact ⟨⟨j + 1, hlt, by first | rw [HW.out] | exact congrArg _ (Int.natCast_succ j).symm, HF2, HB1⟩, by first | exact meas hlt HW.out | exact meas hlt (Int.natCast_succ j).symm⟩
    · obtain rfl : j = n := by omega
      go_wp2_with fail
      refine HQ2.out _ (fun z hz => ?_) HB.out
      obtain ⟨i, hi⟩ := List.getElem?_of_mem hz
      exact HF.out i z (by have := (List.getElem?_eq_some_iff.1 hi).1; have := HN.out; omega) hi
theorem askAt_calls (q : ByteArray) (ds : List Ak) (a : Option Addr) (c : Nat) (hs : ds.length ≤ 1000) (w : World) (h : Nms w a ds) : Calls Tryz.prog 146 #[.slice a ds.length c, .string q] w (IxP (akAt ds q) w) := by
  have hB := bel1 w (.cells #[.string q] 9)
  have K : Hid (Calls Tryz.prog _ _ _ _) := ixA_calls q ds a _ c rfl hs w.heap.size (w.alloc (.cells #[.string q] 9)) (h.below hB) (row_cell (heap_alloc_last w _) rfl)
  have HQ : Hid (∀ w', Below w.heap.size w w' → IxP (akAt ds q) w (.returned (.int .i64 (akAt ds q))) w') := fun w' h => ⟨rfl, h⟩
  have HJ : Hid (∀ e w', IxP (akAt ds q) (w.alloc (.cells #[.string q] 9)) e w' → e = .returned (.int .i64 (akAt ds q)) ∧ Below w.heap.size w w') := fun e w' h => ⟨h.1, bel2 hB h.2⟩
  generalize IxP (akAt ds q) (w.alloc (.cells #[.string q] 9)) = Q1 at K HJ
  generalize IxP (akAt ds q) w = Q at HQ ⊢
  generalize akAt ds q = z at HQ HJ
  generalize ds.length = n at K ⊢
  clear h hB hs
  go_enter Tryz.func146, Tryz.ntmps146
  go_wp2_with fail
  refine K.out.mono ?_
  intro e w1 h1
  obtain ⟨rfl, hb⟩ := HJ.out _ _ h1
  have HB : Hid (Below w.heap.size w w1) := hb
  clear h1 hb
  go_wp2_with fail
  exact HQ.out _ HB.out
/-- The ask of a name that a worker may yet decide on. -/
def wtg (asks rf : List Ak) (q : ByteArray) : Option Ak := if 0 ≤ akAt rf q then none else asks.find? fun d => eqS d.s q
theorem akAt_find {l : List Ak} {q : ByteArray} : (∃ (j : Nat) (d : Ak), akAt l q = (j : Int) ∧ l[j]? = some d ∧ l.find? (fun d => eqS d.s q) = some d) ∨ (akAt l q = -1 ∧ l.find? (fun d => eqS d.s q) = none) := by
  induction l with
  | nil => exact .inr ⟨rfl, rfl⟩
  | cons x l ih =>
    by_cases hx : eqS x.s q = true
    · exact .inl ⟨0, x, by simp [akAt, ixI, hx], rfl, by simp [hx]⟩
    · have hx : eqS x.s q = false := by simpa using hx
      rcases ih with ⟨j, d, h1, h2, h3⟩ | ⟨h1, h2⟩
      · unfold akAt at h1
        have h5 : ¬ ((j : Int) < 0) := by omega
        exact .inl ⟨j + 1, d, by simp [akAt, ixI, hx, h1, h5], h2, by simp [hx, h3]⟩
      · unfold akAt at h1
        exact .inr ⟨by simp [akAt, ixI, hx, h1], by simp [hx, h2]⟩
end Go.Proofs.YtcdhlklmnnmpoaaGreat
namespace Go.Proofs.YtcdhlklmnnmpoaaGreat
open Go.ChangeShapes Go.WideShapes Go.ChangeAt Go.RowKit
/-- What Update says, whatever it gives. -/
def UbP (b : Bool) (w : World) (e : Ending) (w' : World) : Prop := (∃ us, e = .returned (.tuple #[.agg us, .bool b]) ∧ us.size = 12 ∧ ∀ (j : Nat) (v : Value), us[j]? = some v → v.oneCell' = true) ∧ Below w.heap.size w w'
set_option maxHeartbeats 4000000 in
set_option maxRecDepth 100000 in
theorem upd_found (n : Nat) (cs : Array Value) (s : Sta) (q : ByteArray) (j : Nat) (v : Up) (w : World) (h : Rs w n cs s) (hl : s.up.length ≤ 1000) (hj : upAt s q = (j : Int)) (hv : s.up[j]? = some v) (s1 : SmallW n v.v) (s2 : SmallW n v.o) :
    Calls Tryz.prog 150 #[.agg cs, .string q] w (UbP true w) := by
  have hi33 := info33s cs h.size
  obtain ⟨ua, uc, us, c24, hul, hrow, hIs⟩ := h.up
  have KU : Hid (∀ W, Below w.heap.size w W → Calls Tryz.prog 96 #[.agg cs, .string q] W (IxP (j : Int) W)) := fun W hb => by
    have := updateAt_calls n cs s q W (h.below hb) hl
    rwa [hj] at this
  have hjl : j < s.up.length := (List.getElem?_eq_some_iff.1 hv).1
  obtain ⟨r, hr⟩ : ∃ r, us[j]? = some r := ⟨_, List.getElem?_eq_getElem (by omega)⟩
  obtain ⟨z1, _, B, o, rfl, _, l0⟩ := hrow j r hr
  have i1 := hIs j r v hr hv
  have hjn : (j : Int) < (s.up.length : Int) := by omega
  have hd : decide ((j : Int) < 0) = false := decide_eq_false (by omega)
  have KC : Hid (∀ W, Below w.heap.size w W → Calls Tryz.prog 78 #[.agg r] W (CuP n W v)) := fun W hb => cloneUpdate_calls n r v W (i1.map fun v t h => h.below hb) s1 s2
  have hi1 : (Tryz.prog.info? 50).map (·.size) = some r.toList.length := by rw [Array.length_toList]; exact info40s r z1
  have HL1 : Hid (w.rangeAt B (o + j * 12) r.toList) := lies_range l0
  have HQ : Hid (∀ us' w', IsU (fun _ _ => True) us' v → Below w.heap.size w w' → UbP true w (.returned (.tuple #[.agg us', .bool true])) w') := fun us' w' h1 h2 => ⟨⟨us', rfl, h1.size, h1.one⟩, h2⟩
  generalize UbP true w = Q at HQ ⊢
  have r0 : ((w.alloc (.cells cs 41)).alloc (.cells zU 50)).heap[w.heap.size]? = some (.cells cs 41 (0, 0)) := heap_alloc2_old _ _ _
  have u0 : ((w.alloc (.cells cs 41)).alloc (.cells zU 50)).heap[w.heap.size + 1]? = some (.cells zU 50 (0, 0)) := heap_alloc2_new _ _ _
  clear h hl hj hv s1 s2 hIs z1 i1 hjl l0 hr hrow hul
  generalize s.up.length = m at c24 hjn ⊢
  go_enter Tryz.func150, Tryz.ntmps150
  go_wp2_with (refine wpList_load_rowG rfl 41 _ rfl w.heap.size rfl 41 cs (0, 0) _ r0 Tryz.underlying41 rfl hi33 ?_)
  refine (KU.out _ (bel2 (bel1 _ _) (bel1 _ _))).mono ?_
  rintro e w1 ⟨rfl, hb⟩
  have HB1 : Hid (Below w.heap.size w w1) := bel2 (bel2 (bel1 _ _) (bel1 _ _)) hb
  have g24 : w1.cell? ⟨w.heap.size, 24, none⟩ = some (.slice (some ⟨B, o, none⟩) m uc) := row_cell (row_below hb r0) c24
  have u1 : w1.heap[w.heap.size + 1]? = some (.cells zU 50 (0, 0)) := row_below hb u0
  have l2 : w1.rangeAt B (o + j * 12) r.toList := fun i v hv => cellW (HL1.out i v hv) HB1.out
  clear hb r0 u0 KU hi33 c24
  go_wp2_with (refine wpList_load_mid rfl 50 _ rfl B (o + j * 12) rfl r.toList _ l2 Tryz.underlying50 rfl hi1 ?_)
  refine (KC.out _ HB1.out).mono ?_
  rintro e w2 ⟨⟨us', rfl, hu⟩, hb⟩
  have HB2 : Hid (Below w.heap.size w w2) := bel2 HB1.out hb
  have u2 : w2.heap[w.heap.size + 1]? = some (.cells zU 50 (0, 0)) := row_below hb u1
  have hi2 := info40s us' hu.size
  have o2 : zU.size = us'.size := hu.size.symm
  have a2 := all_one hu.one
  have HU : Hid (IsU (fun _ _ => True) us' v) := hu.map fun _ _ _ => trivial
  clear hb u1 l2 g24 KC hu hi1 HB1
  go_wp2_with (refine wpList_store_row rfl 50 _ _ rfl (w.heap.size + 1) us' rfl rfl 50 zU u2 hi2 o2 a2 ?_)
  have k9 : (w2.setRow (w.heap.size + 1) us').heap[w.heap.size + 1]? = some (.cells us' 50 (0, 0)) := setRow_heap w2 _ _ _ _ _ u2
  have hl : (loadVar 50 ⟨w.heap.size + 1, 0, none⟩).run Tryz.prog (w2.setRow (w.heap.size + 1) us') = .ok (.agg us') (w2.setRow (w.heap.size + 1) us') := run_loadVar_row _ (w.heap.size + 1) 50 50 us' (0, 0) _ k9 Tryz.underlying50 rfl hi2
  exact bodyPost_ret (v := .tuple #[.agg us', .bool true]) (ret_cell_tmp Tryz.results150 _ rfl rfl hl) rfl (HQ.out us' _ HU.out (below_setRow HB2.out (by omega) _))
set_option maxHeartbeats 4000000 in
set_option maxRecDepth 100000 in
theorem upd_none (n : Nat) (cs : Array Value) (s : Sta) (q : ByteArray) (w : World) (h : Rs w n cs s) (hl : s.up.length ≤ 1000) (hj : upAt s q = -1) :
    Calls Tryz.prog 150 #[.agg cs, .string q] w (UbP false w) := by
  have hi33 := info33s cs h.size
  have KU : Hid (∀ W, Below w.heap.size w W → Calls Tryz.prog 96 #[.agg cs, .string q] W (IxP (-1) W)) := fun W hb => by
    have := updateAt_calls n cs s q W (h.below hb) hl
    rwa [hj] at this
  have hi2 : (Tryz.prog.info? 50).map (·.size) = some zU.size := info40s zU rfl
  have a2 : zU.all (·.oneCell') = true := by kernel_rfl
  have HQ : Hid (∀ w', Below w.heap.size w w' → UbP false w (.returned (.tuple #[.agg zU, .bool false])) w') := fun w' h2 => ⟨⟨zU, rfl, rfl, fun j v hv => by
    have := Array.all_eq_true_iff_forall_mem.1 a2 v (Array.mem_of_getElem? hv)
    exact this⟩, h2⟩
  generalize UbP false w = Q at HQ ⊢
  have r0 : ((w.alloc (.cells cs 41)).alloc (.cells zU 50)).heap[w.heap.size]? = some (.cells cs 41 (0, 0)) := heap_alloc2_old _ _ _
  have u0 : ((w.alloc (.cells cs 41)).alloc (.cells zU 50)).heap[w.heap.size + 1]? = some (.cells zU 50 (0, 0)) := heap_alloc2_new _ _ _
  clear h hl hj
  go_enter Tryz.func150, Tryz.ntmps150
  go_wp2_with (refine wpList_load_rowG rfl 41 _ rfl w.heap.size rfl 41 cs (0, 0) _ r0 Tryz.underlying41 rfl hi33 ?_)
  refine (KU.out _ (bel2 (bel1 _ _) (bel1 _ _))).mono ?_
  rintro e w1 ⟨rfl, hb⟩
  have HB1 : Hid (Below w.heap.size w w1) := bel2 (bel2 (bel1 _ _) (bel1 _ _)) hb
  have u2 : w1.heap[w.heap.size + 1]? = some (.cells zU 50 (0, 0)) := row_below hb u0
  clear hb r0 u0 KU hi33
  go_wp2_with (refine wpList_store_row rfl 50 _ _ rfl (w.heap.size + 1) zU rfl rfl 50 zU u2 hi2 rfl a2 ?_)
  have k9 : (w1.setRow (w.heap.size + 1) zU).heap[w.heap.size + 1]? = some (.cells zU 50 (0, 0)) := setRow_heap w1 _ _ _ _ _ u2
  have hl : (loadVar 50 ⟨w.heap.size + 1, 0, none⟩).run Tryz.prog (w1.setRow (w.heap.size + 1) zU) = .ok (.agg zU) (w1.setRow (w.heap.size + 1) zU) := run_loadVar_row _ (w.heap.size + 1) 50 50 zU (0, 0) _ k9 Tryz.underlying50 rfl hi2
  exact bodyPost_ret (v := .tuple #[.agg zU, .bool false]) (ret_cell_tmp Tryz.results150 _ rfl rfl hl) rfl (HQ.out _ (below_setRow HB1.out (by omega) _))
theorem upd_calls (n : Nat) (cs : Array Value) (s : Sta) (q : ByteArray) (w : World) (h : Rs w n cs s) (hl : s.up.length ≤ 1000) (hs : SmS n s) : Calls Tryz.prog 150 #[.agg cs, .string q] w (UbP (decide (0 ≤ upAt s q)) w) := by
  rcases ixI_cases (fun d => eqS d.s q) s.up with ⟨j, v, h1, h2, _, _⟩ | ⟨h1, _⟩
  · have h1 : upAt s q = (j : Int) := h1
    rw [h1, decide_eq_true (by omega)]
    exact upd_found n cs s q j v w h hl h1 h2 (hs.up j v h2).1 (hs.up j v h2).2
  · have h1 : upAt s q = -1 := h1
    rw [h1, decide_eq_false (by omega)]
    exact upd_none n cs s q w h hl h1
/-- A draft's cells. -/
def drf (cs : Array Value) (va ve vr : Value) : Array Value := cs ++ #[va, ve, vr]
theorem drf_size {cs : Array Value} (h : cs.size = 31) (va ve vr : Value) : (drf cs va ve vr).size = 34 := by simp [drf, h]
theorem drf_st {cs : Array Value} (_h : cs.size = 31) (va ve vr : Value) {j : Nat} {v : Value} (hv : cs[j]? = some v) : (drf cs va ve vr)[j]? = some v := by
  have := (Array.getElem?_eq_some_iff.1 hv).1
  rw [drf, Array.getElem?_append_left this, hv]
theorem drf_31 {cs : Array Value} (h : cs.size = 31) (va ve vr : Value) : (drf cs va ve vr)[31]? = some va := by simp [drf, h]
theorem drf_32 {cs : Array Value} (h : cs.size = 31) (va ve vr : Value) : (drf cs va ve vr)[32]? = some ve := by simp [drf, h]
theorem drf_33 {cs : Array Value} (h : cs.size = 31) (va ve vr : Value) : (drf cs va ve vr)[33]? = some vr := by simp [drf, h]
theorem info68s (ds : Array Value) (h : ds.size = 34) : (Tryz.prog.info? 68).map (·.size) = some ds.size := by rw [h]; kernel_rfl
theorem info48s (az : Array Value) (h : az.size = 7) : (Tryz.prog.info? 48).map (·.size) = some az.size := by rw [h]; kernel_rfl
/-- An ask of nothing. -/
def zA : Array Value := #[.int .i64 0, .string ⟨#[]⟩, .int .i64 0, .int .i64 0, .int .u64 0, .string ⟨#[]⟩, .slice none 0 0]
/-- What waiting tells. -/
def WtP (R : Value → Tv → Prop) (r : Option Ak) (w : World) (e : Ending) (w' : World) : Prop := (∃ az, e = .returned (.tuple #[.agg az, .bool r.isSome]) ∧ az.size = 7 ∧ (∀ (j : Nat) (v : Value), az[j]? = some v → v.oneCell' = true) ∧ ∀ d, r = some d → IsA R az d) ∧ Below w.heap.size w w'
theorem zA_one (j : Nat) (v : Value) (hv : zA[j]? = some v) : v.oneCell' = true := by
  have a2 : zA.all (·.oneCell') = true := by kernel_rfl
  exact Array.all_eq_true_iff_forall_mem.1 a2 v (Array.mem_of_getElem? hv)
set_option maxHeartbeats 4000000 in
set_option maxRecDepth 100000 in
theorem waiting_no1 (R : Value → Tv → Prop) (q : ByteArray) (asks rf : List Ak) (cs : Array Value) (hc : cs.size = 31) (aa ra : Option Addr) (ac rc : Nat) (ve : Value) (w : World) (ha : Nms w aa asks) (la : asks.length ≤ 1000) (hz : akAt asks q = -1) :
    Calls Tryz.prog 144 #[.agg (drf cs (.slice aa asks.length ac) ve (.slice ra rf.length rc)), .string q] w (WtP R none w) := by
  have K1 : Hid (∀ W, Below w.heap.size w W → Calls Tryz.prog 146 #[.slice aa asks.length ac, .string q] W (IxP (-1) W)) := fun W hb => by
    have := askAt_calls q asks aa ac la W (ha.below hb)
    rwa [hz] at this
  have d31 := drf_31 hc (.slice aa asks.length ac) ve (.slice ra rf.length rc)
  have hi2 : (Tryz.prog.info? 48).map (·.size) = some zA.size := info48s zA rfl
  have a2 : zA.all (·.oneCell') = true := by kernel_rfl
  have HQ : Hid (∀ w', Below w.heap.size w w' → WtP R none w (.returned (.tuple #[.agg zA, .bool false])) w') := fun w' h2 => ⟨⟨zA, rfl, rfl, zA_one, fun d h => by cases h⟩, h2⟩
  generalize WtP R none w = Q at HQ ⊢
  generalize drf cs (.slice aa asks.length ac) ve (.slice ra rf.length rc) = ds at d31 ⊢
  generalize asks.length = na at K1 d31
  have r0 : ((w.alloc (.cells ds 68)).alloc (.cells zA 48)).heap[w.heap.size]? = some (.cells ds 68 (0, 0)) := heap_alloc2_old _ _ _
  have u0 : ((w.alloc (.cells ds 68)).alloc (.cells zA 48)).heap[w.heap.size + 1]? = some (.cells zA 48 (0, 0)) := heap_alloc2_new _ _ _
  have g31 : ((w.alloc (.cells ds 68)).alloc (.cells zA 48)).cell? ⟨w.heap.size, 31, none⟩ = some (.slice aa na ac) := row_cell r0 d31
  clear ha la hz hc
  go_enter Tryz.func144, Tryz.ntmps144
  go_wp2_with fail
  refine (K1.out _ (bel2 (bel1 _ _) (bel1 _ _))).mono ?_
  rintro e w1 ⟨rfl, hb⟩
  have HB1 : Hid (Below w.heap.size w w1) := bel2 (bel2 (bel1 _ _) (bel1 _ _)) hb
  have u2 : w1.heap[w.heap.size + 1]? = some (.cells zA 48 (0, 0)) := row_below hb u0
  clear hb r0 u0 K1 g31
  go_wp2_with (refine wpList_store_row rfl 48 _ _ rfl (w.heap.size + 1) zA rfl rfl 48 zA u2 hi2 rfl a2 ?_)
  have k9 : (w1.setRow (w.heap.size + 1) zA).heap[w.heap.size + 1]? = some (.cells zA 48 (0, 0)) := setRow_heap w1 _ _ _ _ _ u2
  have hl : (loadVar 48 ⟨w.heap.size + 1, 0, none⟩).run Tryz.prog (w1.setRow (w.heap.size + 1) zA) = .ok (.agg zA) (w1.setRow (w.heap.size + 1) zA) := run_loadVar_row _ (w.heap.size + 1) 48 48 zA (0, 0) _ k9 Tryz.underlying48 rfl hi2
  exact bodyPost_ret (v := .tuple #[.agg zA, .bool false]) (ret_cell_tmp Tryz.results144 _ rfl rfl hl) rfl (HQ.out _ (below_setRow HB1.out (by omega) _))
set_option maxHeartbeats 4000000 in
set_option maxRecDepth 100000 in
theorem waiting_yes (R : Value → Tv → Prop) (q : ByteArray) (asks rf : List Ak) (cs : Array Value) (hc : cs.size = 31) (aa ra : Option Addr) (ac rc : Nat) (ve : Value) (w : World) (hA : LkA (fun _ => True) R w aa asks) (hr : Nms w ra rf) (la : asks.length ≤ 1000) (lr : rf.length ≤ 1000) (j : Nat) (d : Ak) (hz : akAt asks q = (j : Int)) (hd : asks[j]? = some d) (hy : akAt rf q = -1) :
    Calls Tryz.prog 144 #[.agg (drf cs (.slice aa asks.length ac) ve (.slice ra rf.length rc)), .string q] w (WtP R (some d) w) := by
  have K1 : Hid (∀ W, Below w.heap.size w W → Calls Tryz.prog 146 #[.slice aa asks.length ac, .string q] W (IxP (j : Int) W)) := fun W hb => by
    have := askAt_calls q asks aa ac la W (hA.nms.below hb)
    rwa [hz] at this
  have K2 : Hid (∀ W, Below w.heap.size w W → Calls Tryz.prog 146 #[.slice ra rf.length rc, .string q] W (IxP (-1) W)) := fun W hb => by
    have := askAt_calls q rf ra rc lr W (hr.below hb)
    rwa [hy] at this
  have d31 := drf_31 hc (.slice aa asks.length ac) ve (.slice ra rf.length rc)
  have d33 := drf_33 hc (.slice aa asks.length ac) ve (.slice ra rf.length rc)
  have hjl : j < asks.length := (List.getElem?_eq_some_iff.1 hd).1
  have hjn : (j : Int) < (asks.length : Int) := by omega
  have hd0 : decide ((j : Int) < 0) = false := decide_eq_false (by omega)
  obtain ⟨rows, q1, q2, q3⟩ := hA
  obtain ⟨r, hrr⟩ : ∃ r, rows[j]? = some r := ⟨_, List.getElem?_eq_getElem (by omega)⟩
  obtain ⟨z1, o1, B, o, rfl, _, l0⟩ := q2 j r hrr
  have i1 := q3 j r d hrr hd
  have HQ : Hid (∀ w', Below w.heap.size w w' → WtP R (some d) w (.returned (.tuple #[.agg r, .bool true])) w') := fun w' h2 => ⟨⟨r, rfl, z1, o1, fun d' h => by cases h; exact i1⟩, h2⟩
  have hi1 : (Tryz.prog.info? 48).map (·.size) = some r.toList.length := by rw [Array.length_toList]; exact info48s r z1
  have hi2 := info48s r z1
  have o2 : zA.size = r.size := z1.symm
  have a2 := all_one o1
  generalize WtP R (some d) w = Q at HQ ⊢
  have HL1 : Hid (w.rangeAt B (o + j * 7) r.toList) := lies_range l0
  generalize drf cs (.slice (some ⟨B, o, none⟩) asks.length ac) ve (.slice ra rf.length rc) = ds at d31 d33 ⊢
  clear hr la lr hz hd hy hc q1 q2 q3 hrr z1 o1 i1 l0 hjl
  generalize asks.length = na at K1 d31 hjn
  generalize rf.length = nr at K2 d33
  have r0 : ((w.alloc (.cells ds 68)).alloc (.cells zA 48)).heap[w.heap.size]? = some (.cells ds 68 (0, 0)) := heap_alloc2_old _ _ _
  have u0 : ((w.alloc (.cells ds 68)).alloc (.cells zA 48)).heap[w.heap.size + 1]? = some (.cells zA 48 (0, 0)) := heap_alloc2_new _ _ _
  have g31 : ((w.alloc (.cells ds 68)).alloc (.cells zA 48)).cell? ⟨w.heap.size, 31, none⟩ = some (.slice (some ⟨B, o, none⟩) na ac) := row_cell r0 d31
  go_enter Tryz.func144, Tryz.ntmps144
  go_wp2_with fail
  refine (K1.out _ (bel2 (bel1 _ _) (bel1 _ _))).mono ?_
  rintro e w1 ⟨rfl, hb⟩
  have HB1 : Hid (Below w.heap.size w w1) := bel2 (bel2 (bel1 _ _) (bel1 _ _)) hb
  have u1 : w1.heap[w.heap.size + 1]? = some (.cells zA 48 (0, 0)) := row_below hb u0
  have r1 := row_below hb r0
  have g33 : w1.cell? ⟨w.heap.size, 33, none⟩ = some (.slice ra nr rc) := row_cell r1 d33
  clear hb r0 u0 K1 g31
  go_wp2_with fail
  refine (K2.out _ HB1.out).mono ?_
  rintro e w2 ⟨rfl, hb⟩
  have HB2 : Hid (Below w.heap.size w w2) := bel2 HB1.out hb
  have u2 : w2.heap[w.heap.size + 1]? = some (.cells zA 48 (0, 0)) := row_below hb u1
  have g31 : w2.cell? ⟨w.heap.size, 31, none⟩ = some (.slice (some ⟨B, o, none⟩) na ac) := row_cell (row_below hb r1) d31
  have l2 : w2.rangeAt B (o + j * 7) r.toList := fun i v hv => cellW (HL1.out i v hv) HB2.out
  clear hb r1 u1 K2 g33
  go_wp2_with (first | refine wpList_load_mid rfl 48 _ rfl B (o + j * 7) rfl r.toList _ l2 Tryz.underlying48 rfl hi1 ?_ | refine wpList_store_row rfl 48 _ _ rfl (w.heap.size + 1) r rfl rfl 48 zA u2 hi2 o2 a2 ?_)
  have k9 : (w2.setRow (w.heap.size + 1) r).heap[w.heap.size + 1]? = some (.cells r 48 (0, 0)) := setRow_heap w2 _ _ _ _ _ u2
  have hl : (loadVar 48 ⟨w.heap.size + 1, 0, none⟩).run Tryz.prog (w2.setRow (w.heap.size + 1) r) = .ok (.agg r) (w2.setRow (w.heap.size + 1) r) := run_loadVar_row _ (w.heap.size + 1) 48 48 r (0, 0) _ k9 Tryz.underlying48 rfl hi2
  exact bodyPost_ret (v := .tuple #[.agg r, .bool true]) (ret_cell_tmp Tryz.results144 _ rfl rfl hl) rfl (HQ.out _ (below_setRow HB2.out (by omega) _))
set_option maxHeartbeats 4000000 in
set_option maxRecDepth 100000 in
theorem waiting_no2 (R : Value → Tv → Prop) (q : ByteArray) (asks rf : List Ak) (cs : Array Value) (hc : cs.size = 31) (aa ra : Option Addr) (ac rc : Nat) (ve : Value) (w : World) (hA : LkA (fun _ => True) R w aa asks) (hr : Nms w ra rf) (la : asks.length ≤ 1000) (lr : rf.length ≤ 1000) (j : Nat) (d : Ak) (hz : akAt asks q = (j : Int)) (hd : asks[j]? = some d) (i : Nat) (hy : akAt rf q = (i : Int)) :
    Calls Tryz.prog 144 #[.agg (drf cs (.slice aa asks.length ac) ve (.slice ra rf.length rc)), .string q] w (WtP R (none) w) := by
  have K1 : Hid (∀ W, Below w.heap.size w W → Calls Tryz.prog 146 #[.slice aa asks.length ac, .string q] W (IxP (j : Int) W)) := fun W hb => by
    have := askAt_calls q asks aa ac la W (hA.nms.below hb)
    rwa [hz] at this
  have K2 : Hid (∀ W, Below w.heap.size w W → Calls Tryz.prog 146 #[.slice ra rf.length rc, .string q] W (IxP ((i : Int)) W)) := fun W hb => by
    have := askAt_calls q rf ra rc lr W (hr.below hb)
    rwa [hy] at this
  have d31 := drf_31 hc (.slice aa asks.length ac) ve (.slice ra rf.length rc)
  have d33 := drf_33 hc (.slice aa asks.length ac) ve (.slice ra rf.length rc)
  have hjl : j < asks.length := (List.getElem?_eq_some_iff.1 hd).1
  have hjn : (j : Int) < (asks.length : Int) := by omega
  have hd0 : decide ((j : Int) < 0) = false := decide_eq_false (by omega)
  obtain ⟨rows, q1, q2, q3⟩ := hA
  obtain ⟨r, hrr⟩ : ∃ r, rows[j]? = some r := ⟨_, List.getElem?_eq_getElem (by omega)⟩
  obtain ⟨z1, o1, B, o, rfl, _, l0⟩ := q2 j r hrr
  have i1 := q3 j r d hrr hd
  have HQ : Hid (∀ w', Below w.heap.size w w' → WtP R none w (.returned (.tuple #[.agg zA, .bool false])) w') := fun w' h2 => ⟨⟨zA, rfl, rfl, zA_one, fun d h => by cases h⟩, h2⟩
  have hi2 : (Tryz.prog.info? 48).map (·.size) = some zA.size := info48s zA rfl
  have a2 : zA.all (·.oneCell') = true := by kernel_rfl
  have hi0 : decide ((0 : Int) ≤ (i : Int)) = true := decide_eq_true (by omega)
  generalize WtP R none w = Q at HQ ⊢
  have HL1 : Hid (w.rangeAt B (o + j * 7) r.toList) := lies_range l0
  generalize drf cs (.slice (some ⟨B, o, none⟩) asks.length ac) ve (.slice ra rf.length rc) = ds at d31 d33 ⊢
  clear hr la lr hz hd hy hc q1 q2 q3 hrr z1 o1 i1 l0 hjl
  generalize asks.length = na at K1 d31 hjn
  generalize rf.length = nr at K2 d33
  have r0 : ((w.alloc (.cells ds 68)).alloc (.cells zA 48)).heap[w.heap.size]? = some (.cells ds 68 (0, 0)) := heap_alloc2_old _ _ _
  have u0 : ((w.alloc (.cells ds 68)).alloc (.cells zA 48)).heap[w.heap.size + 1]? = some (.cells zA 48 (0, 0)) := heap_alloc2_new _ _ _
  have g31 : ((w.alloc (.cells ds 68)).alloc (.cells zA 48)).cell? ⟨w.heap.size, 31, none⟩ = some (.slice (some ⟨B, o, none⟩) na ac) := row_cell r0 d31
  go_enter Tryz.func144, Tryz.ntmps144
  go_wp2_with fail
  refine (K1.out _ (bel2 (bel1 _ _) (bel1 _ _))).mono ?_
  rintro e w1 ⟨rfl, hb⟩
  have HB1 : Hid (Below w.heap.size w w1) := bel2 (bel2 (bel1 _ _) (bel1 _ _)) hb
  have u1 : w1.heap[w.heap.size + 1]? = some (.cells zA 48 (0, 0)) := row_below hb u0
  have r1 := row_below hb r0
  have g33 : w1.cell? ⟨w.heap.size, 33, none⟩ = some (.slice ra nr rc) := row_cell r1 d33
  clear hb r0 u0 K1 g31
  go_wp2_with fail
  refine (K2.out _ HB1.out).mono ?_
  rintro e w2 ⟨rfl, hb⟩
  have HB2 : Hid (Below w.heap.size w w2) := bel2 HB1.out hb
  have u2 : w2.heap[w.heap.size + 1]? = some (.cells zA 48 (0, 0)) := row_below hb u1
  have g31 : w2.cell? ⟨w.heap.size, 31, none⟩ = some (.slice (some ⟨B, o, none⟩) na ac) := row_cell (row_below hb r1) d31
  have l2 : w2.rangeAt B (o + j * 7) r.toList := fun i v hv => cellW (HL1.out i v hv) HB2.out
  clear hb r1 u1 K2 g33
  go_wp2_with (refine wpList_store_row rfl 48 _ _ rfl (w.heap.size + 1) zA rfl rfl 48 zA u2 hi2 rfl a2 ?_)
  have k9 : (w2.setRow (w.heap.size + 1) zA).heap[w.heap.size + 1]? = some (.cells zA 48 (0, 0)) := setRow_heap w2 _ _ _ _ _ u2
  have hl : (loadVar 48 ⟨w.heap.size + 1, 0, none⟩).run Tryz.prog (w2.setRow (w.heap.size + 1) zA) = .ok (.agg zA) (w2.setRow (w.heap.size + 1) zA) := run_loadVar_row _ (w.heap.size + 1) 48 48 zA (0, 0) _ k9 Tryz.underlying48 rfl hi2
  exact bodyPost_ret (v := .tuple #[.agg zA, .bool false]) (ret_cell_tmp Tryz.results144 _ rfl rfl hl) rfl (HQ.out _ (below_setRow HB2.out (by omega) _))
theorem waiting_calls (R : Value → Tv → Prop) (q : ByteArray) (asks rf : List Ak) (cs : Array Value) (hc : cs.size = 31) (aa ra : Option Addr) (ac rc : Nat) (ve : Value) (w : World) (hA : LkA (fun _ => True) R w aa asks) (hr : Nms w ra rf) (la : asks.length ≤ 1000) (lr : rf.length ≤ 1000) :
    Calls Tryz.prog 144 #[.agg (drf cs (.slice aa asks.length ac) ve (.slice ra rf.length rc)), .string q] w (WtP R (wtg asks rf q) w) := by
  unfold wtg
  rcases akAt_find (l := asks) (q := q) with ⟨j, d, h1, h2, h3⟩ | ⟨h1, h3⟩
  · rcases akAt_find (l := rf) (q := q) with ⟨i, d', g1, g2, g3⟩ | ⟨g1, g3⟩
    · rw [g1, if_pos (by omega)]
      exact waiting_no2 R q asks rf cs hc aa ra ac rc ve w hA hr la lr j d h1 h2 i g1
    · rw [g1, if_neg (by omega), h3]
      exact waiting_yes R q asks rf cs hc aa ra ac rc ve w hA hr la lr j d h1 h2 g1
  · rw [h3, ite_self]
    exact waiting_no1 R q asks rf cs hc aa ra ac rc ve w hA.nms la h1
end Go.Proofs.YtcdhlklmnnmpoaaGreat
namespace Go.Proofs.YtcdhlklmnnmpoaaGreat
open Go.ChangeShapes Go.WideShapes Go.ChangeAt Go.RowKit
/-- An event of nothing. -/
def zV13 : Array Value := #[.int .i64 0, .int .i64 0, .int .i64 0, .int .i64 0, .string ⟨#[]⟩, .int .i64 0, .int .i64 0, .int .u64 0, .string ⟨#[]⟩, .slice none 0 0, .int .i64 0, .int .u64 0, .int .i64 0]
theorem zV_one (j : Nat) (v : Value) (hv : zV13[j]? = some v) : v.oneCell' = true := by
  have a2 : zV13.all (·.oneCell') = true := by kernel_rfl
  exact Array.all_eq_true_iff_forall_mem.1 a2 v (Array.mem_of_getElem? hv)
/-- What comes of a wish: nothing (it can't be), a refusal, an event. -/
inductive Wr where
  | no
  | rf
  | ev (x : Ev)
def WrR (R : Value → Tv → Prop) (es : Array Value) (c o : Bool) : Wr → Prop
  | .no => o = false
  | .rf => o = true ∧ c = false
  | .ev x => o = true ∧ c = true ∧ IsEv R es x
/-- What a wish's event tells. -/
def WsP (R : Value → Tv → Prop) (r : Wr) (w : World) (e : Ending) (w' : World) : Prop :=
  (∃ es c o, e = .returned (.tuple #[.agg es, .bool c, .bool o]) ∧ es.size = 13 ∧ (∀ (j : Nat) (v : Value), es[j]? = some v → v.oneCell' = true) ∧ WrR R es c o r) ∧ Below w.heap.size w w'
theorem ret_cell_tmp3 {fn : Func} {p q r : Tmp} {ty : TypeId} (h : fn.results = #[.cell p ty, .tmp q, .tmp r]) (tmps : Array Value) {w : World} {v u x : Value} {a : Addr} (hp : tmps.getD p undef = .pointer (some a)) (hq : tmps.getD q undef = u) (hr : tmps.getD r undef = x) (hl : (loadVar ty a).run Tryz.prog w = .ok v w) : (results fn tmps).run Tryz.prog w = .ok (.tuple #[v, u, x]) w := by
  have hp' : tmps[p]?.getD undef = .pointer (some a) := by simpa using hp
  have hq' : tmps[q]?.getD undef = u := by simpa using hq
  have hr' : tmps[r]?.getD undef = x := by simpa using hr
  simp [results, h, hp', hq', hr', asAddr, hl]
set_option maxHeartbeats 4000000 in
set_option maxRecDepth 100000 in
theorem plain_calls (R : Value → Tv → Prop) (es ds : Array Value) (x : Ev) (w : World) (h : IsEv R es x) : Calls Tryz.prog 151 #[.agg es, .agg ds] w (WsP R (.ev x) w) := by
  have hi := info46s es h.size
  have hil : (Tryz.prog.info? 54).map (·.size) = some es.toList.length := by rw [Array.length_toList]; exact hi
  have z0 : zV13.size = es.size := h.size.symm
  have a0 := all_one h.one
  have HQ : Hid (∀ w', Below w.heap.size w w' → WsP R (.ev x) w (.returned (.tuple #[.agg es, .bool true, .bool true])) w') := fun w' h2 => ⟨⟨es, true, true, rfl, h.size, h.one, rfl, rfl, h⟩, h2⟩
  generalize WsP R (.ev x) w = Q at HQ ⊢
  have r0 : (((w.alloc (.cells es 100)).alloc (.cells ds 68)).alloc (.cells zV13 54)).heap[w.heap.size]? = some (.cells es 100 (0, 0)) := row_below (bel1 _ _) (heap_alloc2_old _ _ _)
  have r2 : (((w.alloc (.cells es 100)).alloc (.cells ds 68)).alloc (.cells zV13 54)).heap[w.heap.size + 1 + 1]? = some (.cells zV13 54 (0, 0)) := by
    have := heap_alloc_new ((w.alloc (.cells es 100)).alloc (.cells ds 68)) (.cells zV13 54)
    simpa using this
  have b0 : Hid (Below w.heap.size w (((w.alloc (.cells es 100)).alloc (.cells ds 68)).alloc (.cells zV13 54))) := bel2 (bel2 (bel1 _ _) (bel1 _ _)) (bel1 _ _)
  clear h
  go_enter Tryz.func151, Tryz.ntmps151
  go_upto_region 1 with fail
  change Code.wp _ _ _ _ (((w.alloc (.cells es 100)).alloc (.cells ds 68)).alloc (.cells zV13 54))
  generalize ((w.alloc (.cells es 100)).alloc (.cells ds 68)).alloc (.cells zV13 54) = W0 at b0 r0 r2 ⊢
  have g0 := row_range r0
  go_wp2_with (first | refine wpList_load_mid rfl 54 _ rfl w.heap.size 0 rfl es.toList _ g0 Tryz.underlying54 rfl hil ?_ | refine wpList_store_row rfl 54 _ _ rfl (w.heap.size + 1 + 1) es rfl rfl 54 zV13 r2 hi z0 a0 ?_)
  have k9 := setRow_heap W0 (w.heap.size + 1 + 1) zV13 es 54 (0, 0) r2
  have hl : (loadVar 54 ⟨w.heap.size + 1 + 1, 0, none⟩).run Tryz.prog (W0.setRow (w.heap.size + 1 + 1) es) = .ok (.agg es) (W0.setRow (w.heap.size + 1 + 1) es) := run_loadVar_row _ _ 54 54 es (0, 0) _ k9 Tryz.underlying54 rfl hi
  exact bodyPost_ret (v := .tuple #[.agg es, .bool true, .bool true]) (ret_cell_tmp3 Tryz.results151 _ rfl rfl rfl hl) rfl (HQ.out _ (below_setRow b0.out (by omega) _))
/-- The event of an acceptance. -/
def accE (q : ByteArray) (t : Int) (v : Tv) : Ev := ⟨12, t, 0, 0, q, v, 0, 0, 0⟩
def accL (q : ByteArray) (t k x b : Int) (tt : ByteArray) (l : Option Addr) (m c : Nat) : Array Value := #[.int .i64 12, .int .i64 t, .int .i64 0, .int .i64 0, .string q, .int .i64 k, .int .i64 x, .int .u64 b, .string tt, .slice l m c, .int .i64 0, .int .u64 0, .int .i64 0]
def accR (q : ByteArray) (t : Int) : Option Ak → Wr
  | none => .no
  | some a => .ev (accE q t a.v)
set_option maxHeartbeats 4000000 in
set_option maxRecDepth 100000 in
theorem acc_yes (R : Value → Tv → Prop) (q : ByteArray) (t : Int) (d : Ak) (ds : Array Value) (hds : ds.size = 34) (w : World) (K : ∀ W, Below w.heap.size w W → Calls Tryz.prog 144 #[.agg ds, .string q] W (WtP R (some d) W)) :
    Calls Tryz.prog 145 #[.agg #[.string q, .int .i64 t], .agg ds] w (WsP R (accR q t (some d)) w) := by
  have HK : Hid (∀ W, Below w.heap.size w W → Calls Tryz.prog 144 #[.agg ds, .string q] W (WtP R (some d) W)) := K
  have hi68 := info68s ds hds
  have HQ : Hid (∀ es w', IsEv R es (accE q t d.v) → Below w.heap.size w w' → WsP R (accR q t (some d)) w (.returned (.tuple #[.agg es, .bool true, .bool true])) w') := fun es w' h h2 => ⟨⟨es, true, true, rfl, h.size, h.one, rfl, rfl, h⟩, h2⟩
  generalize WsP R (accR q t (some d)) w = Q at HQ ⊢
  have p0 : ((w.alloc (.cells #[.string q, .int .i64 t] 96)).alloc (.cells ds 68)).heap[w.heap.size]? = some (.cells #[.string q, .int .i64 t] 96 (0, 0)) := heap_alloc2_old _ _ _
  have p1 : ((w.alloc (.cells #[.string q, .int .i64 t] 96)).alloc (.cells ds 68)).heap[w.heap.size + 1]? = some (.cells ds 68 (0, 0)) := heap_alloc2_new _ _ _
  have r0 := row_below (bel1 _ (.cells zV13 54)) p0
  have r1 := row_below (bel1 _ (.cells zV13 54)) p1
  have r2 : (((w.alloc (.cells #[.string q, .int .i64 t] 96)).alloc (.cells ds 68)).alloc (.cells zV13 54)).heap[w.heap.size + 1 + 1]? = some (.cells zV13 54 (0, 0)) := by
    have := heap_alloc_new ((w.alloc (.cells #[.string q, .int .i64 t] 96)).alloc (.cells ds 68)) (.cells zV13 54)
    simpa using this
  have b0 : Hid (Below w.heap.size w (((w.alloc (.cells #[.string q, .int .i64 t] 96)).alloc (.cells ds 68)).alloc (.cells zV13 54))) := bel2 (bel2 (bel1 _ _) (bel1 _ _)) (bel1 _ _)
  clear K hds p0 p1
  go_enter Tryz.func145, Tryz.ntmps145
  go_upto_region 1 with fail
  change Code.wp _ _ _ _ (((w.alloc (.cells #[.string q, .int .i64 t] 96)).alloc (.cells ds 68)).alloc (.cells zV13 54))
  generalize ((w.alloc (.cells #[.string q, .int .i64 t] 96)).alloc (.cells ds 68)).alloc (.cells zV13 54) = W0 at b0 r0 r1 r2 ⊢
  have x0 : W0.cell? ⟨w.heap.size, 0, none⟩ = some (.string q) := row_cell r0 rfl
  go_wp2_with (refine wpList_load_row rfl 68 _ rfl (w.heap.size + 1) rfl 68 ds (0, 0) _ r1 Tryz.underlying68 rfl hi68 ?_)
  refine (HK.out _ b0.out).mono ?_
  rintro e w1 ⟨⟨az7, rfl, hz7, ho7, hd7⟩, hb⟩
  have hi7 := info48s az7 hz7
  have z7 : zA.size = az7.size := hz7.symm
  have a7 := all_one ho7
  have n1 : (w1.alloc (.cells zA 48)).heap[w1.heap.size]? = some (.cells zA 48 (0, 0)) := heap_alloc_new w1 _
  have s0 := row_below hb r0
  have s2 := row_below hb r2
  have b1 : Hid (Below w.heap.size w w1) := bel2 b0.out hb
  have HD7 : Hid (IsA R az7 d) := hd7 d rfl
  clear hb r0 r1 r2 x0 hd7 ho7 hz7
  simp only [Option.isSome]
  go_upto_region 2 with (refine wpList_store_row rfl 48 _ _ rfl w1.heap.size az7 rfl rfl 48 zA n1 hi7 z7 a7 ?_)
  rw [World.setRow_alloc_new]
  have hb := bel1 w1 (.cells az7 48)
  have t0 := row_below hb s0
  have t2 := row_below hb s2
  have t7 : (w1.alloc (.cells az7 48)).heap[w1.heap.size]? = some (.cells az7 48 (0, 0)) := heap_alloc_new w1 _
  have b2 : Hid (Below w.heap.size w (w1.alloc (.cells az7 48))) := bel2 b1.out hb
  clear hb s0 s2 n1
  generalize w1.alloc (.cells az7 48) = W2 at t0 t2 t7 b2 ⊢
  obtain ⟨k, x, b, tt, l, m, c, hlit, hR⟩ := HD7.out.lit
  subst hlit
  have HE : Hid (IsEv R (accL q t k x b tt l m c) (accE q t d.v)) := { size := rfl, c0 := rfl, c1 := rfl, c2 := rfl, c3 := rfl, c4 := rfl, v := ⟨k, x, b, tt, l, m, c, rfl, rfl, rfl, rfl, rfl, hR⟩, c10 := rfl, c11 := rfl, c12 := rfl }
  have x0 : W2.cell? ⟨w.heap.size, 0, none⟩ = some (.string q) := row_cell t0 rfl
  have x1 : W2.cell? ⟨w.heap.size, 1, none⟩ = some (.int .i64 t) := row_cell t0 rfl
  have y2 : W2.cell? ⟨w1.heap.size, 2, none⟩ = some (.int .i64 k) := row_cell t7 rfl
  have y3 : W2.cell? ⟨w1.heap.size, 3, none⟩ = some (.int .i64 x) := row_cell t7 rfl
  have y4 : W2.cell? ⟨w1.heap.size, 4, none⟩ = some (.int .u64 b) := row_cell t7 rfl
  have y5 : W2.cell? ⟨w1.heap.size, 5, none⟩ = some (.string tt) := row_cell t7 rfl
  have y6 : W2.cell? ⟨w1.heap.size, 6, none⟩ = some (.slice l m c) := row_cell t7 rfl
  have hie := info46s _ HE.out.size
  have ae := all_one HE.out.one
  clear hR t0 t7 HD7 hi7 z7 a7
  go_wp2_with (refine wpList_store_row rfl 54 _ _ rfl (w.heap.size + 1 + 1) (accL q t k x b tt l m c) rfl rfl 54 zV13 t2 hie rfl ae ?_)
  have k9 := setRow_heap W2 (w.heap.size + 1 + 1) zV13 (accL q t k x b tt l m c) 54 (0, 0) t2
  have hl : (loadVar 54 ⟨w.heap.size + 1 + 1, 0, none⟩).run Tryz.prog (W2.setRow (w.heap.size + 1 + 1) (accL q t k x b tt l m c)) = .ok (.agg (accL q t k x b tt l m c)) (W2.setRow (w.heap.size + 1 + 1) (accL q t k x b tt l m c)) := run_loadVar_row _ _ 54 54 (accL q t k x b tt l m c) (0, 0) _ k9 Tryz.underlying54 rfl hie
  exact bodyPost_ret (v := .tuple #[.agg (accL q t k x b tt l m c), .bool true, .bool true]) (ret_cell_tmp3 Tryz.results145 _ rfl rfl rfl hl) rfl (HQ.out _ _ HE.out (below_setRow b2.out (by omega) _))
set_option maxHeartbeats 4000000 in
set_option maxRecDepth 100000 in
theorem acc_no (R : Value → Tv → Prop) (q : ByteArray) (t : Int) (ds : Array Value) (hds : ds.size = 34) (w : World) (K : ∀ W, Below w.heap.size w W → Calls Tryz.prog 144 #[.agg ds, .string q] W (WtP R (none) W)) :
    Calls Tryz.prog 145 #[.agg #[.string q, .int .i64 t], .agg ds] w (WsP R (accR q t (none)) w) := by
  have HK : Hid (∀ W, Below w.heap.size w W → Calls Tryz.prog 144 #[.agg ds, .string q] W (WtP R (none) W)) := K
  have hi68 := info68s ds hds
  have HQ : Hid (∀ w', Below w.heap.size w w' → WsP R (accR q t none) w (.returned (.tuple #[.agg zV13, .bool false, .bool false])) w') := fun w' h2 => ⟨⟨zV13, false, false, rfl, rfl, zV_one, rfl⟩, h2⟩
  have hiz : (Tryz.prog.info? 54).map (·.size) = some zV13.size := info46s zV13 rfl
  have az : zV13.all (·.oneCell') = true := by kernel_rfl
  generalize WsP R (accR q t (none)) w = Q at HQ ⊢
  have p0 : ((w.alloc (.cells #[.string q, .int .i64 t] 96)).alloc (.cells ds 68)).heap[w.heap.size]? = some (.cells #[.string q, .int .i64 t] 96 (0, 0)) := heap_alloc2_old _ _ _
  have p1 : ((w.alloc (.cells #[.string q, .int .i64 t] 96)).alloc (.cells ds 68)).heap[w.heap.size + 1]? = some (.cells ds 68 (0, 0)) := heap_alloc2_new _ _ _
  have r0 := row_below (bel1 _ (.cells zV13 54)) p0
  have r1 := row_below (bel1 _ (.cells zV13 54)) p1
  have r2 : (((w.alloc (.cells #[.string q, .int .i64 t] 96)).alloc (.cells ds 68)).alloc (.cells zV13 54)).heap[w.heap.size + 1 + 1]? = some (.cells zV13 54 (0, 0)) := by
    have := heap_alloc_new ((w.alloc (.cells #[.string q, .int .i64 t] 96)).alloc (.cells ds 68)) (.cells zV13 54)
    simpa using this
  have b0 : Hid (Below w.heap.size w (((w.alloc (.cells #[.string q, .int .i64 t] 96)).alloc (.cells ds 68)).alloc (.cells zV13 54))) := bel2 (bel2 (bel1 _ _) (bel1 _ _)) (bel1 _ _)
  clear K hds p0 p1
  go_enter Tryz.func145, Tryz.ntmps145
  go_upto_region 1 with fail
  change Code.wp _ _ _ _ (((w.alloc (.cells #[.string q, .int .i64 t] 96)).alloc (.cells ds 68)).alloc (.cells zV13 54))
  generalize ((w.alloc (.cells #[.string q, .int .i64 t] 96)).alloc (.cells ds 68)).alloc (.cells zV13 54) = W0 at b0 r0 r1 r2 ⊢
  have x0 : W0.cell? ⟨w.heap.size, 0, none⟩ = some (.string q) := row_cell r0 rfl
  go_wp2_with (refine wpList_load_row rfl 68 _ rfl (w.heap.size + 1) rfl 68 ds (0, 0) _ r1 Tryz.underlying68 rfl hi68 ?_)
  refine (HK.out _ b0.out).mono ?_
  rintro e w1 ⟨⟨az7, rfl, hz7, ho7, hd7⟩, hb⟩
  have hi7 := info48s az7 hz7
  have z7 : zA.size = az7.size := hz7.symm
  have a7 := all_one ho7
  have n1 : (w1.alloc (.cells zA 48)).heap[w1.heap.size]? = some (.cells zA 48 (0, 0)) := heap_alloc_new w1 _
  have s0 := row_below hb r0
  have s2 := row_below hb r2
  have b1 : Hid (Below w.heap.size w w1) := bel2 b0.out hb
  
  clear hb r0 r1 r2 x0 hd7 ho7 hz7
  simp only [Option.isSome]
  go_upto_region 2 with (refine wpList_store_row rfl 48 _ _ rfl w1.heap.size az7 rfl rfl 48 zA n1 hi7 z7 a7 ?_)
  rw [World.setRow_alloc_new]
  have hb := bel1 w1 (.cells az7 48)
  have t0 := row_below hb s0
  have t2 := row_below hb s2
  have t7 : (w1.alloc (.cells az7 48)).heap[w1.heap.size]? = some (.cells az7 48 (0, 0)) := heap_alloc_new w1 _
  have b2 : Hid (Below w.heap.size w (w1.alloc (.cells az7 48))) := bel2 b1.out hb
  clear hb s0 s2 n1
  generalize w1.alloc (.cells az7 48) = W2 at t0 t2 t7 b2 ⊢
  go_wp2_with (refine wpList_store_row rfl 54 _ _ rfl (w.heap.size + 1 + 1) zV13 rfl rfl 54 zV13 t2 hiz rfl az ?_)
  have k9 := setRow_heap W2 (w.heap.size + 1 + 1) zV13 zV13 54 (0, 0) t2
  have hl : (loadVar 54 ⟨w.heap.size + 1 + 1, 0, none⟩).run Tryz.prog (W2.setRow (w.heap.size + 1 + 1) zV13) = .ok (.agg zV13) (W2.setRow (w.heap.size + 1 + 1) zV13) := run_loadVar_row _ _ 54 54 zV13 (0, 0) _ k9 Tryz.underlying54 rfl hiz
  exact bodyPost_ret (v := .tuple #[.agg zV13, .bool false, .bool false]) (ret_cell_tmp3 Tryz.results145 _ rfl rfl rfl hl) rfl (HQ.out _ (below_setRow b2.out (by omega) _))
theorem acc_calls (R : Value → Tv → Prop) (q : ByteArray) (t : Int) (r : Option Ak) (ds : Array Value) (hds : ds.size = 34) (w : World) (K : ∀ W, Below w.heap.size w W → Calls Tryz.prog 144 #[.agg ds, .string q] W (WtP R r W)) :
    Calls Tryz.prog 145 #[.agg #[.string q, .int .i64 t], .agg ds] w (WsP R (accR q t r) w) := by
  cases r with
  | none => exact acc_no R q t ds hds w K
  | some d => exact acc_yes R q t d ds hds w K
/-- What comes of a rejection. -/
def rejR (wt up : Bool) : Wr := if wt && !up then .rf else .no
set_option maxHeartbeats 4000000 in
set_option maxRecDepth 100000 in
theorem rej_calls (R : Value → Tv → Prop) (q : ByteArray) (r : Option Ak) (up : Bool) (cs ds : Array Value) (hc : cs.size = 31) (hds : ds.size = 34) (hst : ∀ (j : Nat) (v : Value), cs[j]? = some v → ds[j]? = some v) (w : World) (K : ∀ W, Below w.heap.size w W → Calls Tryz.prog 144 #[.agg ds, .string q] W (WtP R r W)) (K2 : ∀ W, Below w.heap.size w W → Calls Tryz.prog 150 #[.agg cs, .string q] W (UbP up W)) :
    Calls Tryz.prog 149 #[.agg #[.string q], .agg ds] w (WsP R (rejR r.isSome up) w) := by
  have HK : Hid (∀ W, Below w.heap.size w W → Calls Tryz.prog 144 #[.agg ds, .string q] W (WtP R r W)) := K
  have HK2 : Hid (∀ W, Below w.heap.size w W → Calls Tryz.prog 150 #[.agg cs, .string q] W (UbP up W)) := K2
  have hi68 := info68s ds hds
  have hi41 : (Tryz.prog.info? 41).map (·.size) = some cs.toList.length := info33l cs hc
  have hiz : (Tryz.prog.info? 54).map (·.size) = some zV13.size := info46s zV13 rfl
  have az : zV13.all (·.oneCell') = true := by kernel_rfl
  have HQ : Hid (∀ w', Below w.heap.size w w' → WsP R (rejR r.isSome up) w (.returned (.tuple #[.agg zV13, .bool false, .bool (r.isSome && !up)])) w') := fun w' h2 => ⟨⟨zV13, false, _, rfl, rfl, zV_one, by
    unfold rejR
    cases r.isSome <;> cases up <;> first | exact rfl | exact ⟨rfl, rfl⟩⟩, h2⟩
  generalize WsP R (rejR r.isSome up) w = Q at HQ ⊢
  have HST : Hid (∀ (j : Nat) (v : Value), cs[j]? = some v → ds[j]? = some v) := hst
  have p0 : ((w.alloc (.cells #[.string q] 98)).alloc (.cells ds 68)).heap[w.heap.size]? = some (.cells #[.string q] 98 (0, 0)) := heap_alloc2_old _ _ _
  have p1 : ((w.alloc (.cells #[.string q] 98)).alloc (.cells ds 68)).heap[w.heap.size + 1]? = some (.cells ds 68 (0, 0)) := heap_alloc2_new _ _ _
  have r0 := row_below (bel1 _ (.cells zV13 54)) p0
  have r1 := row_below (bel1 _ (.cells zV13 54)) p1
  have r2 : (((w.alloc (.cells #[.string q] 98)).alloc (.cells ds 68)).alloc (.cells zV13 54)).heap[w.heap.size + 1 + 1]? = some (.cells zV13 54 (0, 0)) := by
    have := heap_alloc_new ((w.alloc (.cells #[.string q] 98)).alloc (.cells ds 68)) (.cells zV13 54)
    simpa using this
  have b0 : Hid (Below w.heap.size w (((w.alloc (.cells #[.string q] 98)).alloc (.cells ds 68)).alloc (.cells zV13 54))) := bel2 (bel2 (bel1 _ _) (bel1 _ _)) (bel1 _ _)
  clear K K2 hds hc hst p0 p1
  go_enter Tryz.func149, Tryz.ntmps149
  go_upto_region 1 with fail
  change Code.wp _ _ _ _ (((w.alloc (.cells #[.string q] 98)).alloc (.cells ds 68)).alloc (.cells zV13 54))
  generalize ((w.alloc (.cells #[.string q] 98)).alloc (.cells ds 68)).alloc (.cells zV13 54) = W0 at b0 r0 r1 r2 ⊢
  have x0 : W0.cell? ⟨w.heap.size, 0, none⟩ = some (.string q) := row_cell r0 rfl
  go_wp2_with (refine wpList_load_row rfl 68 _ rfl (w.heap.size + 1) rfl 68 ds (0, 0) _ r1 Tryz.underlying68 rfl hi68 ?_)
  refine (HK.out _ b0.out).mono ?_
  rintro e w1 ⟨⟨az7, rfl, hz7, ho7, hd7⟩, hb⟩
  have hi7 := info48s az7 hz7
  have z7 : zA.size = az7.size := hz7.symm
  have a7 := all_one ho7
  have n1 : (w1.alloc (.cells zA 48)).heap[w1.heap.size]? = some (.cells zA 48 (0, 0)) := heap_alloc_new w1 _
  have s0 := row_below hb r0
  have s1 := row_below hb r1
  have s2 := row_below hb r2
  have b1 : Hid (Below w.heap.size w w1) := bel2 b0.out hb
  clear hb r0 r1 r2 x0 hd7 ho7 hz7 hi68
  generalize r.isSome = rb at HQ ⊢
  go_upto_region 2 with (refine wpList_store_row rfl 48 _ _ rfl w1.heap.size az7 rfl rfl 48 zA n1 hi7 z7 a7 ?_)
  rw [World.setRow_alloc_new]
  have hb := bel1 w1 (.cells az7 48)
  have t0 := row_below hb s0
  have t1 := row_below hb s1
  have t2 := row_below hb s2
  have b2 : Hid (Below w.heap.size w (w1.alloc (.cells az7 48))) := bel2 b1.out hb
  clear hb s0 s1 s2 n1
  generalize w1.alloc (.cells az7 48) = W2 at t0 t1 t2 b2 ⊢
  have x0 : W2.cell? ⟨w.heap.size, 0, none⟩ = some (.string q) := row_cell t0 rfl
  have g1 : W2.rangeAt (w.heap.size + 1) 0 cs.toList := fun j v hv => by rw [Nat.zero_add]; exact row_cell t1 (HST.out j v (by simpa using hv))
  go_wp2_with (refine wpList_load_mid rfl 41 _ rfl (w.heap.size + 1) 0 rfl cs.toList _ g1 Tryz.underlying41 rfl hi41 ?_)
  refine (HK2.out _ b2.out).mono ?_
  rintro e w3 ⟨⟨us, rfl, hus, hou⟩, hb⟩
  have hi50 := info40s us hus
  have z50 : zU.size = us.size := hus.symm
  have a50 := all_one hou
  have n3 : (w3.alloc (.cells zU 50)).heap[w3.heap.size]? = some (.cells zU 50 (0, 0)) := heap_alloc_new w3 _
  have s2 := row_below hb t2
  have b3 : Hid (Below w.heap.size w w3) := bel2 b2.out hb
  clear hb t0 t1 t2 x0 g1 hus hou
  go_upto_region 3 with (refine wpList_store_row rfl 50 _ _ rfl w3.heap.size us rfl rfl 50 zU n3 hi50 z50 a50 ?_)
  rw [World.setRow_alloc_new]
  have hb := bel1 w3 (.cells us 50)
  have t2 := row_below hb s2
  have b4 : Hid (Below w.heap.size w (w3.alloc (.cells us 50))) := bel2 b3.out hb
  clear hb s2 n3
  generalize w3.alloc (.cells us 50) = W4 at t2 b4 ⊢
  have k9 := setRow_heap W4 (w.heap.size + 1 + 1) zV13 zV13 54 (0, 0) t2
  have hl : (loadVar 54 ⟨w.heap.size + 1 + 1, 0, none⟩).run Tryz.prog (W4.setRow (w.heap.size + 1 + 1) zV13) = .ok (.agg zV13) (W4.setRow (w.heap.size + 1 + 1) zV13) := run_loadVar_row _ _ 54 54 zV13 (0, 0) _ k9 Tryz.underlying54 rfl hiz
  have HL : Hid ((loadVar 54 ⟨w.heap.size + 1 + 1, 0, none⟩).run Tryz.prog (W4.setRow (w.heap.size + 1 + 1) zV13) = .ok (.agg zV13) (W4.setRow (w.heap.size + 1 + 1) zV13)) := hl
  clear k9 hl
  cases rb with
  | true =>
    go_wp2_with (refine wpList_store_row rfl 54 _ _ rfl (w.heap.size + 1 + 1) zV13 rfl rfl 54 zV13 t2 hiz rfl az ?_)
    exact bodyPost_ret (v := .tuple #[.agg zV13, .bool false, .bool (!up)]) (ret_cell_tmp3 Tryz.results149 _ rfl rfl rfl HL.out) rfl (HQ.out _ (below_setRow b4.out (by omega) _))
  | false =>
    go_wp2_with (refine wpList_store_row rfl 54 _ _ rfl (w.heap.size + 1 + 1) zV13 rfl rfl 54 zV13 t2 hiz rfl az ?_)
    exact bodyPost_ret (v := .tuple #[.agg zV13, .bool false, .bool false]) (ret_cell_tmp3 Tryz.results149 _ rfl rfl rfl HL.out) rfl (HQ.out _ (below_setRow b4.out (by omega) _))
end Go.Proofs.YtcdhlklmnnmpoaaGreat
namespace Go.Proofs.YtcdhlklmnnmpoaaGreat
open Go.ChangeShapes Go.WideShapes Go.ChangeAt Go.RowKit
/-- The kind of the event of a command that says all of it. -/
def ekd (k : Int) : Int := if k = 1 then 9 else if k = 2 then 11 else if k = 3 then 14 else if k = 6 then 13 else if k = 7 then 15 else if k = 8 then 16 else if k = 9 then 17 else 0
theorem ek_1 (w : World) : Calls Tryz.prog 53 #[.int .i64 1] w fun e w' => e = .returned (.int .i64 9) ∧ w' = w := by
  go_enter Tryz.func53, Tryz.ntmps53
  go_wp2
  go_ret
  exact ⟨rfl, rfl⟩
theorem ek_2 (w : World) : Calls Tryz.prog 53 #[.int .i64 2] w fun e w' => e = .returned (.int .i64 11) ∧ w' = w := by
  go_enter Tryz.func53, Tryz.ntmps53
  go_wp2
  go_ret
  exact ⟨rfl, rfl⟩
theorem ek_3 (w : World) : Calls Tryz.prog 53 #[.int .i64 3] w fun e w' => e = .returned (.int .i64 14) ∧ w' = w := by
  go_enter Tryz.func53, Tryz.ntmps53
  go_wp2
  go_ret
  exact ⟨rfl, rfl⟩
theorem ek_6 (w : World) : Calls Tryz.prog 53 #[.int .i64 6] w fun e w' => e = .returned (.int .i64 13) ∧ w' = w := by
  go_enter Tryz.func53, Tryz.ntmps53
  go_wp2
  go_ret
  exact ⟨rfl, rfl⟩
theorem ek_7 (w : World) : Calls Tryz.prog 53 #[.int .i64 7] w fun e w' => e = .returned (.int .i64 15) ∧ w' = w := by
  go_enter Tryz.func53, Tryz.ntmps53
  go_wp2
  go_ret
  exact ⟨rfl, rfl⟩
theorem ek_8 (w : World) : Calls Tryz.prog 53 #[.int .i64 8] w fun e w' => e = .returned (.int .i64 16) ∧ w' = w := by
  go_enter Tryz.func53, Tryz.ntmps53
  go_wp2
  go_ret
  exact ⟨rfl, rfl⟩
theorem ek_9 (w : World) : Calls Tryz.prog 53 #[.int .i64 9] w fun e w' => e = .returned (.int .i64 17) ∧ w' = w := by
  go_enter Tryz.func53, Tryz.ntmps53
  go_wp2
  go_ret
  exact ⟨rfl, rfl⟩
theorem ek_no (k : Int) (h1 : k ≠ 1) (h2 : k ≠ 2) (h3 : k ≠ 3) (h6 : k ≠ 6) (h7 : k ≠ 7) (h8 : k ≠ 8) (h9 : k ≠ 9) (w : World) : Calls Tryz.prog 53 #[.int .i64 k] w fun e w' => e = .returned (.int .i64 0) ∧ w' = w := by
  have d1 : (k == 1) = false := by simpa using h1
  have d2 : (k == 2) = false := by simpa using h2
  have d3 : (k == 3) = false := by simpa using h3
  have d6 : (k == 6) = false := by simpa using h6
  have d7 : (k == 7) = false := by simpa using h7
  have d8 : (k == 8) = false := by simpa using h8
  have d9 : (k == 9) = false := by simpa using h9
  clear h1 h2 h3 h6 h7 h8 h9
  go_enter Tryz.func53, Tryz.ntmps53
  go_wp2
  go_ret
  exact ⟨rfl, rfl⟩
theorem ek_calls (k : Int) (w : World) : Calls Tryz.prog 53 #[.int .i64 k] w fun e w' => e = .returned (.int .i64 (ekd k)) ∧ w' = w := by
  by_cases h1 : k = 1
  · subst h1; exact ek_1 w
  by_cases h2 : k = 2
  · subst h2; exact ek_2 w
  by_cases h3 : k = 3
  · subst h3; exact ek_3 w
  by_cases h6 : k = 6
  · subst h6; exact ek_6 w
  by_cases h7 : k = 7
  · subst h7; exact ek_7 w
  by_cases h8 : k = 8
  · subst h8; exact ek_8 w
  by_cases h9 : k = 9
  · subst h9; exact ek_9 w
  have e : ekd k = 0 := by simp [ekd, h1, h2, h3, h6, h7, h8, h9]
  rw [e]
  exact ek_no k h1 h2 h3 h6 h7 h8 h9 w
/-- What refusal tells. -/
def RuP (M : Prop) (cl last fresh : Bool) (w : World) (e : Ending) (w' : World) : Prop := (∃ r : Int, e = .returned (.int .i64 r) ∧ (M → r = if cl && !last then 18 else if cl && fresh then 17 else 0) ∧ (¬ M → r = 18)) ∧ Below w.heap.size w w'
theorem info27s : (Tryz.prog.info? 27).map (·.size) = some 8 := by kernel_rfl
set_option maxHeartbeats 4000000 in
set_option maxRecDepth 100000 in
theorem refuse_calls (n : Nat) (tv : Tv) (k : Int) (s : ByteArray) (vk vx vb : Int) (vs : ByteArray) (la : Option Addr) (ll lc : Nat) (d : Int) (last fresh : Bool) (cs : Array Value) (hf : cs[21]? = some (.bool fresh)) (w : World) (h : Is w (n + 1) (.agg #[.int .i64 vk, .int .i64 vx, .int .u64 vb, .string vs, .slice la ll lc]) tv) :
    Calls Tryz.prog 40 #[.agg cs, .agg #[.int .i64 k, .string s, .int .i64 vk, .int .i64 vx, .int .u64 vb, .string vs, .slice la ll lc, .int .i64 d], .bool last] w (RuP (MayC (n + 1) ⟨k, s, tv, d⟩) (clo k) last fresh w) := by
  have KC : Hid (∀ W, Below w.heap.size w W → Calls Tryz.prog 6 #[.agg #[.int .i64 k, .string s, .int .i64 vk, .int .i64 vx, .int .u64 vb, .string vs, .slice la ll lc, .int .i64 d]] W (CkP (MayC (n + 1) ⟨k, s, tv, d⟩) W)) := fun W hb => ccheck_calls n tv k s vk vx vb vs la ll lc d W (h.below hb)
  have KL : Hid (∀ W, Calls Tryz.prog 25 #[.agg #[.int .i64 k, .string s, .int .i64 vk, .int .i64 vx, .int .u64 vb, .string vs, .slice la ll lc, .int .i64 d]] W fun e w' => e = .returned (.bool (clo k)) ∧ Below W.heap.size W w') := fun W => closes_calls k s vk vx vb vs la ll lc d W
  have HQ : Hid (∀ r w', (MayC (n + 1) ⟨k, s, tv, d⟩ → r = if clo k && !last then 18 else if clo k && fresh then 17 else 0) → (¬ MayC (n + 1) ⟨k, s, tv, d⟩ → r = 18) → Below w.heap.size w w' → RuP (MayC (n + 1) ⟨k, s, tv, d⟩) (clo k) last fresh w (.returned (.int .i64 r)) w') := fun r w' h1 h2 h3 => ⟨⟨r, rfl, h1, h2⟩, h3⟩
  generalize RuP (MayC (n + 1) ⟨k, s, tv, d⟩) (clo k) last fresh w = Q at HQ ⊢
  generalize MayC (n + 1) ⟨k, s, tv, d⟩ = M at KC HQ
  generalize clo k = cl at KL HQ
  clear h
  have r0 : ((w.alloc (.cells cs 41)).alloc (.cells #[.int .i64 k, .string s, .int .i64 vk, .int .i64 vx, .int .u64 vb, .string vs, .slice la ll lc, .int .i64 d] 27)).heap[w.heap.size]? = some (.cells cs 41 (0, 0)) := heap_alloc2_old _ _ _
  have r1 : ((w.alloc (.cells cs 41)).alloc (.cells #[.int .i64 k, .string s, .int .i64 vk, .int .i64 vx, .int .u64 vb, .string vs, .slice la ll lc, .int .i64 d] 27)).heap[w.heap.size + 1]? = some (.cells #[.int .i64 k, .string s, .int .i64 vk, .int .i64 vx, .int .u64 vb, .string vs, .slice la ll lc, .int .i64 d] 27 (0, 0)) := heap_alloc2_new _ _ _
  have b0 : Hid (Below w.heap.size w ((w.alloc (.cells cs 41)).alloc (.cells #[.int .i64 k, .string s, .int .i64 vk, .int .i64 vx, .int .u64 vb, .string vs, .slice la ll lc, .int .i64 d] 27))) := bel2 (bel1 _ _) (bel1 _ _)
  go_enter Tryz.func40, Tryz.ntmps40
  go_upto_region 1 with fail
  change Code.wp _ _ _ _ ((w.alloc (.cells cs 41)).alloc (.cells #[.int .i64 k, .string s, .int .i64 vk, .int .i64 vx, .int .u64 vb, .string vs, .slice la ll lc, .int .i64 d] 27))
  generalize (w.alloc (.cells cs 41)).alloc (.cells #[.int .i64 k, .string s, .int .i64 vk, .int .i64 vx, .int .u64 vb, .string vs, .slice la ll lc, .int .i64 d] 27) = W0 at b0 r0 r1 ⊢
  go_wp2_with (refine wpList_load_rowG rfl 27 _ rfl (w.heap.size + 1) rfl 27 #[.int .i64 k, .string s, .int .i64 vk, .int .i64 vx, .int .u64 vb, .string vs, .slice la ll lc, .int .i64 d] (0, 0) _ r1 Tryz.underlying27 rfl info27s ?_)
  refine (KC.out _ b0.out).mono ?_
  rintro e w1 ⟨r, rfl, hr1, hr2, hb⟩
  have HR : Hid ((M → r = 0) ∧ (¬ M → r = 1)) := ⟨hr1, hr2⟩
  have s0 := row_below hb r0
  have s1 := row_below hb r1
  have b1 : Hid (Below w.heap.size w w1) := bel2 b0.out hb
  clear hb hr1 hr2 r0 r1
  by_cases hM : M
  · have HM : Hid M := hM
    obtain rfl : r = 0 := HR.out.1 hM
    clear hM HR
    go_wp2_with (refine wpList_load_rowG rfl 27 _ rfl (w.heap.size + 1) rfl 27 #[.int .i64 k, .string s, .int .i64 vk, .int .i64 vx, .int .u64 vb, .string vs, .slice la ll lc, .int .i64 d] (0, 0) _ s1 Tryz.underlying27 rfl info27s ?_)
    refine (KL.out _).mono ?_
    rintro e w2 ⟨rfl, hb⟩
    have t0 := row_below hb s0
    have t1 := row_below hb s1
    have b2 : Hid (Below w.heap.size w w2) := bel2 b1.out hb
    clear hb s0 s1
    cases cl with
    | true =>
      cases last with
      | true =>
        go_wp2_with (refine wpList_load_rowG rfl 27 _ rfl (w.heap.size + 1) rfl 27 #[.int .i64 k, .string s, .int .i64 vk, .int .i64 vx, .int .u64 vb, .string vs, .slice la ll lc, .int .i64 d] (0, 0) _ t1 Tryz.underlying27 rfl info27s ?_)
        refine (KL.out _).mono ?_
        rintro e w3 ⟨rfl, hb⟩
        have x0 : w3.cell? ⟨w.heap.size, 21, none⟩ = some (.bool fresh) := row_cell (row_below hb t0) hf
        have b3 : Hid (Below w.heap.size w w3) := bel2 b2.out hb
        clear hb t0 t1
        cases fresh with
        | true =>
          go_wp2_with fail
          exact HQ.out 17 _ (fun _ => rfl) (fun h => absurd HM.out h) b3.out
        | false =>
          go_wp2_with fail
          exact HQ.out 0 _ (fun _ => rfl) (fun h => absurd HM.out h) b3.out
      | false =>
        go_wp2_with fail
        exact HQ.out 18 _ (fun _ => rfl) (fun _ => rfl) b2.out
    | false =>
      go_wp2_with (refine wpList_load_rowG rfl 27 _ rfl (w.heap.size + 1) rfl 27 #[.int .i64 k, .string s, .int .i64 vk, .int .i64 vx, .int .u64 vb, .string vs, .slice la ll lc, .int .i64 d] (0, 0) _ t1 Tryz.underlying27 rfl info27s ?_)
      refine (KL.out _).mono ?_
      rintro e w3 ⟨rfl, hb⟩
      have b3 : Hid (Below w.heap.size w w3) := bel2 b2.out hb
      clear hb t0 t1
      go_wp2_with fail
      exact HQ.out 0 _ (fun _ => rfl) (fun h => absurd HM.out h) b3.out
  · have HM : Hid (¬ M) := hM
    obtain rfl : r = 1 := HR.out.2 hM
    clear hM HR
    go_wp2_with fail
    exact HQ.out 18 _ (fun h => absurd h HM.out) (fun _ => rfl) b1.out
theorem wish4_calls (k : Int) (s : ByteArray) (vk vx vb : Int) (vs : ByteArray) (la : Option Addr) (ll lc : Nat) (d : Int) (t : Int) (hk : k = 4) (w : World) : Calls Tryz.prog 41 #[.agg #[.int .i64 k, .string s, .int .i64 vk, .int .i64 vx, .int .u64 vb, .string vs, .slice la ll lc, .int .i64 d], .int .i64 t] w fun e w' => e = .returned (.iface 96 (.agg #[.string s, .int .i64 t])) ∧ Below w.heap.size w w' := by
  subst hk
  go_enter Tryz.func41, Tryz.ntmps41
  go_wp2_with fail
  go_ret
  exact ⟨rfl, bel1 _ _⟩
end Go.Proofs.YtcdhlklmnnmpoaaGreat
namespace Go.Proofs.YtcdhlklmnnmpoaaGreat
open Go.ChangeShapes Go.WideShapes Go.ChangeAt Go.RowKit
theorem wish5_calls (k : Int) (s : ByteArray) (vk vx vb : Int) (vs : ByteArray) (la : Option Addr) (ll lc : Nat) (d : Int) (t : Int) (hk : k = 5) (w : World) : Calls Tryz.prog 41 #[.agg #[.int .i64 k, .string s, .int .i64 vk, .int .i64 vx, .int .u64 vb, .string vs, .slice la ll lc, .int .i64 d], .int .i64 t] w fun e w' => e = .returned (.iface 98 (.agg #[.string s])) ∧ Below w.heap.size w w' := by
  subst hk
  go_enter Tryz.func41, Tryz.ntmps41
  go_wp2_with fail
  go_ret
  exact ⟨rfl, bel1 _ _⟩
/-- The cells of a plain event. -/
def evL (kk t due : Int) (s : ByteArray) (vk vx vb : Int) (vs : ByteArray) (la : Option Addr) (ll lc : Nat) : Array Value := #[.int .i64 kk, .int .i64 t, .int .i64 0, .int .i64 due, .string s, .int .i64 vk, .int .i64 vx, .int .u64 vb, .string vs, .slice la ll lc, .int .i64 0, .int .u64 0, .int .i64 0]
theorem evL_one (kk t due : Int) (s : ByteArray) (vk vx vb : Int) (vs : ByteArray) (la : Option Addr) (ll lc : Nat) : (evL kk t due s vk vx vb vs la ll lc).all (·.oneCell') = true := by simp [evL, Value.oneCell']
/-- Behind the event's making. -/
def Jw (g : Nat) (w _w0 : World) (es : Array Value) (c0 c1 c2 c3 c4 c5 c6 c7 : Value) (x : Value) (wx : World) : Prop := x = .pointer (some ⟨g, 0, none⟩) ∧ wx.heap[g]? = some (.cells es 54 (0, 0)) ∧ At8 wx w.heap.size c0 c1 c2 c3 c4 c5 c6 c7 ∧ Below w.heap.size w wx
/-- What is returned, in memory that only grew. -/
def RtP (v : Value) (w : World) (e : Ending) (w' : World) : Prop := e = .returned v ∧ Below w.heap.size w w'
set_option maxHeartbeats 4000000 in
set_option maxRecDepth 100000 in
theorem wishN_calls (k : Int) (s : ByteArray) (vk vx vb : Int) (vs : ByteArray) (la : Option Addr) (ll lc : Nat) (d : Int) (t : Int) (h4 : k ≠ 4) (h5 : k ≠ 5) (h1 : k ≠ 1) (w : World) : Calls Tryz.prog 41 #[.agg #[.int .i64 k, .string s, .int .i64 vk, .int .i64 vx, .int .u64 vb, .string vs, .slice la ll lc, .int .i64 d], .int .i64 t] w fun e w' => e = .returned (.iface 100 (.agg (evL (ekd k) t 0 s vk vx vb vs la ll lc))) ∧ Below w.heap.size w w' := by
  have d4 : (k == 4) = false := by simpa using h4
  have d5 : (k == 5) = false := by simpa using h5
  have d1 : (k == 1) = false := by simpa using h1
  have KE : Hid (∀ W, Calls Tryz.prog 53 #[.int .i64 k] W fun e w' => e = .returned (.int .i64 (ekd k)) ∧ w' = W) := fun W => ek_calls k W
  generalize ekd k = kk at KE ⊢
  have hie : (Tryz.prog.info? 54).map (·.size) = some (evL kk t 0 s vk vx vb vs la ll lc).size := info46s _ rfl
  have ae := evL_one kk t 0 s vk vx vb vs la ll lc
  have HQ : Hid (∀ w', Below w.heap.size w w' → RtP (.iface 100 (.agg (evL kk t 0 s vk vx vb vs la ll lc))) w (.returned (.iface 100 (.agg (evL kk t 0 s vk vx vb vs la ll lc)))) w') := fun w' h => ⟨rfl, h⟩
  change Calls Tryz.prog 41 _ w (RtP (.iface 100 (.agg (evL kk t 0 s vk vx vb vs la ll lc))) w)
  generalize RtP (.iface 100 (.agg (evL kk t 0 s vk vx vb vs la ll lc))) w = Q at HQ ⊢
  clear h4 h5 h1
  have HX0 : Hid (At8 (w.alloc (.cells #[.int .i64 k, .string s, .int .i64 vk, .int .i64 vx, .int .u64 vb, .string vs, .slice la ll lc, .int .i64 d] 27)) w.heap.size (.int .i64 k) (.string s) (.int .i64 vk) (.int .i64 vx) (.int .u64 vb) (.string vs) (.slice la ll lc) (.int .i64 d)) := At8.box w (.int .i64 k) (.string s) (.int .i64 vk) (.int .i64 vx) (.int .u64 vb) (.string vs) (.slice la ll lc) (.int .i64 d)
  go_enter Tryz.func41, Tryz.ntmps41
  go_upto_region 1 with fail
  have HB : Hid (Below w.heap.size w (w.alloc (.cells #[.int .i64 k, .string s, .int .i64 vk, .int .i64 vx, .int .u64 vb, .string vs, .slice la ll lc, .int .i64 d] 27))) := bel1 _ _
  have HX := HX0
  clear HX0
  generalize (w.alloc (.cells #[.int .i64 k, .string s, .int .i64 vk, .int .i64 vx, .int .u64 vb, .string vs, .slice la ll lc, .int .i64 d] 27)) = W0 at HB HX ⊢
  obtain ⟨x0, x1, x2, x3, x4, x5, x6, x7⟩ := HX.out
  go_upto_region 6 with fail
  clear x0 x1 x2 x3 x4 x5 x6 x7
  go_cut [5] (fun x wx => Jw W0.heap.size w W0 (evL kk t 0 s vk vx vb vs la ll lc) (.int .i64 k) (.string s) (.int .i64 vk) (.int .i64 vx) (.int .u64 vb) (.string vs) (.slice la ll lc) (.int .i64 d) x wx)
  case first =>
    refine wp_region_held_drew (S := (fun w' => w'.cell? ⟨w.heap.size, 0, none⟩ = some (.int .i64 k) ∧ w'.cell? ⟨w.heap.size, 1, none⟩ = some (.string s) ∧ w'.cell? ⟨w.heap.size, 2, none⟩ = some (.int .i64 vk) ∧ w'.cell? ⟨w.heap.size, 3, none⟩ = some (.int .i64 vx) ∧ w'.cell? ⟨w.heap.size, 4, none⟩ = some (.int .u64 vb) ∧ w'.cell? ⟨w.heap.size, 5, none⟩ = some (.string vs) ∧ w'.cell? ⟨w.heap.size, 6, none⟩ = some (.slice la ll lc) ∧ w'.cell? ⟨w.heap.size, 7, none⟩ = some (.int .i64 d))) (by kernel_rfl) HX.out (fun hHeld => ?_)
    change wpAnyH _ _ _ _ _ _ _ _ (World.drew _)
    refine wpAnyH_take (i := 0) (oi := { dst := some 21, op := Go.Op.fieldAddr 27 (Go.Operand.tmp 2) 0, type := 0, pos := "plan.go:137", after := #[], guard := none }) (v := ?_) rfl (by kernel_rfl) (by kernel_rfl) (by kernel_rfl) (fun _ _ _ h => h) (Or.inl ⟨by rfl, ?_⟩) hHeld ?_
    rotate_left 1
    · (intro w hSw; (try dsimp only at hSw); go_simp <;> with_reducible rfl)
    simp only [Act.put, List.setIfInBounds_toArray, List.set_cons_zero, List.set_cons_succ]
    refine wpAnyH_take (i := 1) (oi := { dst := some 22, op := Go.Op.load 3 (Go.Operand.tmp 21), type := 3, pos := "plan.go:137", after := #[{ on := 0, ground := Go.Ground.data }], guard := none }) (v := ?_) rfl (by kernel_rfl) (by kernel_rfl) (by kernel_rfl) (fun _ _ _ h => h) (Or.inl ⟨by rfl, ?_⟩) hHeld ?_
    rotate_left 1
    · (intro w hSw; (try dsimp only at hSw); go_simp <;> with_reducible rfl)
    simp only [Act.put, List.setIfInBounds_toArray, List.set_cons_zero, List.set_cons_succ]
    refine wpAnyH_take (i := 3) (oi := { dst := some 24, op := Go.Op.move (Go.Operand.tmp 1), type := 3, pos := "plan.go:137", after := #[], guard := none }) (v := ?_) rfl (by kernel_rfl) (by kernel_rfl) (by kernel_rfl) (fun _ _ _ h => h) (Or.inl ⟨by rfl, ?_⟩) hHeld ?_
    rotate_left 1
    · (intro w hSw; (try dsimp only at hSw); go_simp <;> with_reducible rfl)
    simp only [Act.put, List.setIfInBounds_toArray, List.set_cons_zero, List.set_cons_succ]
    refine wpAnyH_take (i := 4) (oi := { dst := some 25, op := Go.Op.fieldAddr 27 (Go.Operand.tmp 2) 1, type := 0, pos := "plan.go:137", after := #[], guard := none }) (v := ?_) rfl (by kernel_rfl) (by kernel_rfl) (by kernel_rfl) (fun _ _ _ h => h) (Or.inl ⟨by rfl, ?_⟩) hHeld ?_
    rotate_left 1
    · (intro w hSw; (try dsimp only at hSw); go_simp <;> with_reducible rfl)
    simp only [Act.put, List.setIfInBounds_toArray, List.set_cons_zero, List.set_cons_succ]
    refine wpAnyH_take (i := 5) (oi := { dst := some 26, op := Go.Op.load 9 (Go.Operand.tmp 25), type := 9, pos := "plan.go:137", after := #[{ on := 4, ground := Go.Ground.data }], guard := none }) (v := ?_) rfl (by kernel_rfl) (by kernel_rfl) (by kernel_rfl) (fun _ _ _ h => h) (Or.inl ⟨by rfl, ?_⟩) hHeld ?_
    rotate_left 1
    · (intro w hSw; (try dsimp only at hSw); go_simp <;> with_reducible rfl)
    simp only [Act.put, List.setIfInBounds_toArray, List.set_cons_zero, List.set_cons_succ]
    refine wpAnyH_take (i := 6) (oi := { dst := some 27, op := Go.Op.fieldAddr 27 (Go.Operand.tmp 2) 2, type := 0, pos := "plan.go:137", after := #[], guard := none }) (v := ?_) rfl (by kernel_rfl) (by kernel_rfl) (by kernel_rfl) (fun _ _ _ h => h) (Or.inl ⟨by rfl, ?_⟩) hHeld ?_
    rotate_left 1
    · (intro w hSw; (try dsimp only at hSw); go_simp <;> with_reducible rfl)
    simp only [Act.put, List.setIfInBounds_toArray, List.set_cons_zero, List.set_cons_succ]
    refine wpAnyH_take (i := 7) (oi := { dst := some 28, op := Go.Op.load 25 (Go.Operand.tmp 27), type := 25, pos := "plan.go:137", after := #[{ on := 6, ground := Go.Ground.data }], guard := none }) (v := ?_) rfl (by kernel_rfl) (by kernel_rfl) (by kernel_rfl) (fun _ _ _ h => h) (Or.inl ⟨by rfl, ?_⟩) hHeld ?_
    rotate_left 1
    · (intro w hSw; (try dsimp only at hSw); go_simp <;> with_reducible rfl)
    simp only [Act.put, List.setIfInBounds_toArray, List.set_cons_zero, List.set_cons_succ]
    refine wpAnyH_ready (rs := [2, 9]) (by kernel_rfl) (by simp) ?_
    refine AllReadyH.cons (o := { dst := some 23, op := Go.Op.call { callee := Go.Callee.value (Go.Operand.func 53), args := #[Go.Operand.tmp 22], argTypes := #[3] }, type := 3, pos := "plan.go:137", after := #[{ on := 1, ground := Go.Ground.data }], guard := none }) rfl (fun K hK => ?_) (AllReadyH.cons (o := { dst := some 5, op := Go.Op.alloc 54, type := 0, pos := "plan.go:137", after := #[], guard := none }) rfl (fun K hK => ?_) AllReadyH.nil)
    · go_simp
      refine (KE.out _).mono ?_
      rintro e w1 ⟨rfl, e1⟩
      obtain rfl := e1.symm
      clear e1
      refine hK.out _ _ HX.out (fun hHeld => ?_)
      clear hK K
      refine wpAnyH_take (i := 8) (oi := { dst := some 29, op := Go.Op.build 54 #[(0, Go.Operand.tmp 23), (1, Go.Operand.tmp 24), (4, Go.Operand.tmp 26), (5, Go.Operand.tmp 28)], type := 54, pos := "plan.go:137", after := #[{ on := 2, ground := Go.Ground.data }, { on := 3, ground := Go.Ground.data }, { on := 5, ground := Go.Ground.data }, { on := 7, ground := Go.Ground.data }], guard := none }) (v := ?_) rfl (by kernel_rfl) (by kernel_rfl) (by kernel_rfl) (fun _ _ _ h => h) (Or.inl ⟨by rfl, ?_⟩) hHeld ?_
      rotate_left 1
      · (intro w hSw; (try dsimp only at hSw); go_simp <;> with_reducible rfl)
      simp only [Act.put, List.setIfInBounds_toArray, List.set_cons_zero, List.set_cons_succ]
      refine wpAnyH_ready (rs := [9]) (by kernel_rfl) (by simp) ?_
      refine AllReadyH.cons (o := { dst := some 5, op := Go.Op.alloc 54, type := 0, pos := "plan.go:137", after := #[], guard := none }) rfl (fun K hK => ?_) AllReadyH.nil
      go_simp
      refine hK.out _ _ (HX.out.below (by first | exact bel1 _ _ | exact (bel1 _ _).drew)) (fun hHeld => ?_)
      clear hK K
      refine wpAnyH_ready (rs := [10]) (by kernel_rfl) (by simp) ?_
      refine AllReadyH.cons (o := { dst := none, op := Go.Op.store 54 (Go.Operand.tmp 5) (Go.Operand.tmp 29), type := 0, pos := "plan.go:137", after := #[{ on := 9, ground := Go.Ground.data }, { on := 8, ground := Go.Ground.data }, { on := 2, ground := Go.Ground.chain }, { on := 0, ground := Go.Ground.phase }, { on := 1, ground := Go.Ground.phase }, { on := 2, ground := Go.Ground.phase }, { on := 3, ground := Go.Ground.phase }, { on := 4, ground := Go.Ground.phase }, { on := 5, ground := Go.Ground.phase }, { on := 6, ground := Go.Ground.phase }, { on := 7, ground := Go.Ground.phase }, { on := 8, ground := Go.Ground.phase }, { on := 9, ground := Go.Ground.phase }], guard := none }) rfl (fun K hK => ?_) AllReadyH.nil
      have n1 : (W0.alloc (.cells zV13 54)).heap[W0.heap.size]? = some (.cells zV13 54 (0, 0)) := heap_alloc_new _ _
      refine wp_store_row 54 _ _ rfl W0.heap.size (evL kk t 0 s vk vx vb vs la ll lc) rfl rfl 54 zV13 n1 hie rfl ae ?_
      refine hK.out _ _ (HX.out.below (below_setRow (bel1 W0 (.cells zV13 54)).drew (Nat.le_refl _) _)) (fun hHeld => ?_)
      clear hK K
      refine wpAnyH_done (by kernel_rfl) ?_ _
      go_wp2_with fail
      go_meet
      exact ⟨rfl, setRow_heap _ _ zV13 _ 54 (0, 0) (heap_alloc_new W0 _), HX.out.below (below_setRow (bel1 W0 (.cells zV13 54)).drew (Nat.le_refl _) _), bel2 HB.out (below_setRow (bel1 W0 (.cells zV13 54)).drew (Nat.le_refl _) _)⟩
    · go_simp
      refine hK.out _ _ (HX.out.below (by first | exact bel1 _ _ | exact (bel1 _ _).drew)) (fun hHeld => ?_)
      clear hK K
      refine wpAnyH_ready (rs := [2]) (by kernel_rfl) (by simp) ?_
      refine AllReadyH.cons (o := { dst := some 23, op := Go.Op.call { callee := Go.Callee.value (Go.Operand.func 53), args := #[Go.Operand.tmp 22], argTypes := #[3] }, type := 3, pos := "plan.go:137", after := #[{ on := 1, ground := Go.Ground.data }], guard := none }) rfl (fun K hK => ?_) AllReadyH.nil
      go_simp
      refine (KE.out _).mono ?_
      rintro e w1 ⟨rfl, e1⟩
      obtain rfl := e1.symm
      clear e1
      refine hK.out _ _ (HX.out.below (by first | exact bel1 _ _ | exact (bel1 _ _).drew)) (fun hHeld => ?_)
      clear hK K
      refine wpAnyH_take (i := 8) (oi := { dst := some 29, op := Go.Op.build 54 #[(0, Go.Operand.tmp 23), (1, Go.Operand.tmp 24), (4, Go.Operand.tmp 26), (5, Go.Operand.tmp 28)], type := 54, pos := "plan.go:137", after := #[{ on := 2, ground := Go.Ground.data }, { on := 3, ground := Go.Ground.data }, { on := 5, ground := Go.Ground.data }, { on := 7, ground := Go.Ground.data }], guard := none }) (v := ?_) rfl (by kernel_rfl) (by kernel_rfl) (by kernel_rfl) (fun _ _ _ h => h) (Or.inl ⟨by rfl, ?_⟩) hHeld ?_
      rotate_left 1
      · (intro w hSw; (try dsimp only at hSw); go_simp <;> with_reducible rfl)
      simp only [Act.put, List.setIfInBounds_toArray, List.set_cons_zero, List.set_cons_succ]
      refine wpAnyH_ready (rs := [10]) (by kernel_rfl) (by simp) ?_
      refine AllReadyH.cons (o := { dst := none, op := Go.Op.store 54 (Go.Operand.tmp 5) (Go.Operand.tmp 29), type := 0, pos := "plan.go:137", after := #[{ on := 9, ground := Go.Ground.data }, { on := 8, ground := Go.Ground.data }, { on := 2, ground := Go.Ground.chain }, { on := 0, ground := Go.Ground.phase }, { on := 1, ground := Go.Ground.phase }, { on := 2, ground := Go.Ground.phase }, { on := 3, ground := Go.Ground.phase }, { on := 4, ground := Go.Ground.phase }, { on := 5, ground := Go.Ground.phase }, { on := 6, ground := Go.Ground.phase }, { on := 7, ground := Go.Ground.phase }, { on := 8, ground := Go.Ground.phase }, { on := 9, ground := Go.Ground.phase }], guard := none }) rfl (fun K hK => ?_) AllReadyH.nil
      have n1 : (W0.alloc (.cells zV13 54)).heap[W0.heap.size]? = some (.cells zV13 54 (0, 0)) := heap_alloc_new _ _
      refine wp_store_row 54 _ _ rfl W0.heap.size (evL kk t 0 s vk vx vb vs la ll lc) rfl rfl 54 zV13 n1 hie rfl ae ?_
      refine hK.out _ _ (HX.out.below (below_setRow (bel1 W0 (.cells zV13 54)).drew (Nat.le_refl _) _)) (fun hHeld => ?_)
      clear hK K
      refine wpAnyH_done (by kernel_rfl) ?_ _
      go_wp2_with fail
      go_meet
      exact ⟨rfl, setRow_heap _ _ zV13 _ 54 (0, 0) (heap_alloc_new W0 _), HX.out.below (below_setRow (bel1 W0 (.cells zV13 54)).drew (Nat.le_refl _) _), bel2 HB.out (below_setRow (bel1 W0 (.cells zV13 54)).drew (Nat.le_refl _) _)⟩
  case rest =>
    obtain ⟨rfl, hes, hx, hb⟩ := hcut
    have HB2 : Hid (Below w.heap.size w wc) := hb
    obtain ⟨x0, x1, x2, x3, x4, x5, x6, x7⟩ := hx
    clear hb HB
    go_upto_region 9 with fail
    clear x0 x1 x2 x3 x4 x5 x6 x7
    go_wp2_with (refine wpList_load_row rfl 54 _ rfl W0.heap.size rfl 54 #[.int .i64 kk, .int .i64 t, .int .i64 0, .int .i64 0, .string s, .int .i64 vk, .int .i64 vx, .int .u64 vb, .string vs, .slice la ll lc, .int .i64 0, .int .u64 0, .int .i64 0] (0, 0) _ hes Tryz.underlying54 rfl hie ?_)
    exact HQ.out _ HB2.out
set_option maxHeartbeats 4000000 in
set_option maxRecDepth 100000 in
theorem wish1_calls (k : Int) (s : ByteArray) (vk vx vb : Int) (vs : ByteArray) (la : Option Addr) (ll lc : Nat) (d : Int) (t : Int) (h1 : k = 1) (w : World) : Calls Tryz.prog 41 #[.agg #[.int .i64 k, .string s, .int .i64 vk, .int .i64 vx, .int .u64 vb, .string vs, .slice la ll lc, .int .i64 d], .int .i64 t] w fun e w' => e = .returned (.iface 100 (.agg (evL (ekd k) t (wrap64 (t + d)) s vk vx vb vs la ll lc))) ∧ Below w.heap.size w w' := by
  subst h1
  have KE : Hid (∀ W, Calls Tryz.prog 53 #[.int .i64 1] W fun e w' => e = .returned (.int .i64 (ekd 1)) ∧ w' = W) := fun W => ek_calls 1 W
  generalize ekd 1 = kk at KE ⊢
  have hie : (Tryz.prog.info? 54).map (·.size) = some (evL kk t 0 s vk vx vb vs la ll lc).size := info46s _ rfl
  have ae := evL_one kk t 0 s vk vx vb vs la ll lc
  have HQ : Hid (∀ w', Below w.heap.size w w' → RtP (.iface 100 (.agg (evL kk t (wrap64 (t + d)) s vk vx vb vs la ll lc))) w (.returned (.iface 100 (.agg (evL kk t (wrap64 (t + d)) s vk vx vb vs la ll lc)))) w') := fun w' h => ⟨rfl, h⟩
  change Calls Tryz.prog 41 _ w (RtP (.iface 100 (.agg (evL kk t (wrap64 (t + d)) s vk vx vb vs la ll lc))) w)
  generalize RtP (.iface 100 (.agg (evL kk t (wrap64 (t + d)) s vk vx vb vs la ll lc))) w = Q at HQ ⊢
  
  have HX0 : Hid (At8 (w.alloc (.cells #[.int .i64 1, .string s, .int .i64 vk, .int .i64 vx, .int .u64 vb, .string vs, .slice la ll lc, .int .i64 d] 27)) w.heap.size (.int .i64 1) (.string s) (.int .i64 vk) (.int .i64 vx) (.int .u64 vb) (.string vs) (.slice la ll lc) (.int .i64 d)) := At8.box w (.int .i64 1) (.string s) (.int .i64 vk) (.int .i64 vx) (.int .u64 vb) (.string vs) (.slice la ll lc) (.int .i64 d)
  go_enter Tryz.func41, Tryz.ntmps41
  go_upto_region 1 with fail
  have HB : Hid (Below w.heap.size w (w.alloc (.cells #[.int .i64 1, .string s, .int .i64 vk, .int .i64 vx, .int .u64 vb, .string vs, .slice la ll lc, .int .i64 d] 27))) := bel1 _ _
  have HX := HX0
  clear HX0
  have HL0 : Hid (w.heap.size ≤ (w.alloc (.cells #[.int .i64 1, .string s, .int .i64 vk, .int .i64 vx, .int .u64 vb, .string vs, .slice la ll lc, .int .i64 d] 27)).heap.size) := HB.out.size
  generalize (w.alloc (.cells #[.int .i64 1, .string s, .int .i64 vk, .int .i64 vx, .int .u64 vb, .string vs, .slice la ll lc, .int .i64 d] 27)) = W0 at HB HX HL0 ⊢
  obtain ⟨x0, x1, x2, x3, x4, x5, x6, x7⟩ := HX.out
  go_upto_region 6 with fail
  clear x0 x1 x2 x3 x4 x5 x6 x7
  go_cut [5] (fun x wx => Jw W0.heap.size w W0 (evL kk t 0 s vk vx vb vs la ll lc) (.int .i64 1) (.string s) (.int .i64 vk) (.int .i64 vx) (.int .u64 vb) (.string vs) (.slice la ll lc) (.int .i64 d) x wx)
  case first =>
    refine wp_region_held_drew (S := (fun w' => w'.cell? ⟨w.heap.size, 0, none⟩ = some (.int .i64 1) ∧ w'.cell? ⟨w.heap.size, 1, none⟩ = some (.string s) ∧ w'.cell? ⟨w.heap.size, 2, none⟩ = some (.int .i64 vk) ∧ w'.cell? ⟨w.heap.size, 3, none⟩ = some (.int .i64 vx) ∧ w'.cell? ⟨w.heap.size, 4, none⟩ = some (.int .u64 vb) ∧ w'.cell? ⟨w.heap.size, 5, none⟩ = some (.string vs) ∧ w'.cell? ⟨w.heap.size, 6, none⟩ = some (.slice la ll lc) ∧ w'.cell? ⟨w.heap.size, 7, none⟩ = some (.int .i64 d))) (by kernel_rfl) HX.out (fun hHeld => ?_)
    change wpAnyH _ _ _ _ _ _ _ _ (World.drew _)
    refine wpAnyH_take (i := 0) (oi := { dst := some 21, op := Go.Op.fieldAddr 27 (Go.Operand.tmp 2) 0, type := 0, pos := "plan.go:137", after := #[], guard := none }) (v := ?_) rfl (by kernel_rfl) (by kernel_rfl) (by kernel_rfl) (fun _ _ _ h => h) (Or.inl ⟨by rfl, ?_⟩) hHeld ?_
    rotate_left 1
    · (intro w hSw; (try dsimp only at hSw); go_simp <;> with_reducible rfl)
    simp only [Act.put, List.setIfInBounds_toArray, List.set_cons_zero, List.set_cons_succ]
    refine wpAnyH_take (i := 1) (oi := { dst := some 22, op := Go.Op.load 3 (Go.Operand.tmp 21), type := 3, pos := "plan.go:137", after := #[{ on := 0, ground := Go.Ground.data }], guard := none }) (v := ?_) rfl (by kernel_rfl) (by kernel_rfl) (by kernel_rfl) (fun _ _ _ h => h) (Or.inl ⟨by rfl, ?_⟩) hHeld ?_
    rotate_left 1
    · (intro w hSw; (try dsimp only at hSw); go_simp <;> with_reducible rfl)
    simp only [Act.put, List.setIfInBounds_toArray, List.set_cons_zero, List.set_cons_succ]
    refine wpAnyH_take (i := 3) (oi := { dst := some 24, op := Go.Op.move (Go.Operand.tmp 1), type := 3, pos := "plan.go:137", after := #[], guard := none }) (v := ?_) rfl (by kernel_rfl) (by kernel_rfl) (by kernel_rfl) (fun _ _ _ h => h) (Or.inl ⟨by rfl, ?_⟩) hHeld ?_
    rotate_left 1
    · (intro w hSw; (try dsimp only at hSw); go_simp <;> with_reducible rfl)
    simp only [Act.put, List.setIfInBounds_toArray, List.set_cons_zero, List.set_cons_succ]
    refine wpAnyH_take (i := 4) (oi := { dst := some 25, op := Go.Op.fieldAddr 27 (Go.Operand.tmp 2) 1, type := 0, pos := "plan.go:137", after := #[], guard := none }) (v := ?_) rfl (by kernel_rfl) (by kernel_rfl) (by kernel_rfl) (fun _ _ _ h => h) (Or.inl ⟨by rfl, ?_⟩) hHeld ?_
    rotate_left 1
    · (intro w hSw; (try dsimp only at hSw); go_simp <;> with_reducible rfl)
    simp only [Act.put, List.setIfInBounds_toArray, List.set_cons_zero, List.set_cons_succ]
    refine wpAnyH_take (i := 5) (oi := { dst := some 26, op := Go.Op.load 9 (Go.Operand.tmp 25), type := 9, pos := "plan.go:137", after := #[{ on := 4, ground := Go.Ground.data }], guard := none }) (v := ?_) rfl (by kernel_rfl) (by kernel_rfl) (by kernel_rfl) (fun _ _ _ h => h) (Or.inl ⟨by rfl, ?_⟩) hHeld ?_
    rotate_left 1
    · (intro w hSw; (try dsimp only at hSw); go_simp <;> with_reducible rfl)
    simp only [Act.put, List.setIfInBounds_toArray, List.set_cons_zero, List.set_cons_succ]
    refine wpAnyH_take (i := 6) (oi := { dst := some 27, op := Go.Op.fieldAddr 27 (Go.Operand.tmp 2) 2, type := 0, pos := "plan.go:137", after := #[], guard := none }) (v := ?_) rfl (by kernel_rfl) (by kernel_rfl) (by kernel_rfl) (fun _ _ _ h => h) (Or.inl ⟨by rfl, ?_⟩) hHeld ?_
    rotate_left 1
    · (intro w hSw; (try dsimp only at hSw); go_simp <;> with_reducible rfl)
    simp only [Act.put, List.setIfInBounds_toArray, List.set_cons_zero, List.set_cons_succ]
    refine wpAnyH_take (i := 7) (oi := { dst := some 28, op := Go.Op.load 25 (Go.Operand.tmp 27), type := 25, pos := "plan.go:137", after := #[{ on := 6, ground := Go.Ground.data }], guard := none }) (v := ?_) rfl (by kernel_rfl) (by kernel_rfl) (by kernel_rfl) (fun _ _ _ h => h) (Or.inl ⟨by rfl, ?_⟩) hHeld ?_
    rotate_left 1
    · (intro w hSw; (try dsimp only at hSw); go_simp <;> with_reducible rfl)
    simp only [Act.put, List.setIfInBounds_toArray, List.set_cons_zero, List.set_cons_succ]
    refine wpAnyH_ready (rs := [2, 9]) (by kernel_rfl) (by simp) ?_
    refine AllReadyH.cons (o := { dst := some 23, op := Go.Op.call { callee := Go.Callee.value (Go.Operand.func 53), args := #[Go.Operand.tmp 22], argTypes := #[3] }, type := 3, pos := "plan.go:137", after := #[{ on := 1, ground := Go.Ground.data }], guard := none }) rfl (fun K hK => ?_) (AllReadyH.cons (o := { dst := some 5, op := Go.Op.alloc 54, type := 0, pos := "plan.go:137", after := #[], guard := none }) rfl (fun K hK => ?_) AllReadyH.nil)
    · go_simp
      refine (KE.out _).mono ?_
      rintro e w1 ⟨rfl, e1⟩
      obtain rfl := e1.symm
      clear e1
      refine hK.out _ _ HX.out (fun hHeld => ?_)
      clear hK K
      refine wpAnyH_take (i := 8) (oi := { dst := some 29, op := Go.Op.build 54 #[(0, Go.Operand.tmp 23), (1, Go.Operand.tmp 24), (4, Go.Operand.tmp 26), (5, Go.Operand.tmp 28)], type := 54, pos := "plan.go:137", after := #[{ on := 2, ground := Go.Ground.data }, { on := 3, ground := Go.Ground.data }, { on := 5, ground := Go.Ground.data }, { on := 7, ground := Go.Ground.data }], guard := none }) (v := ?_) rfl (by kernel_rfl) (by kernel_rfl) (by kernel_rfl) (fun _ _ _ h => h) (Or.inl ⟨by rfl, ?_⟩) hHeld ?_
      rotate_left 1
      · (intro w hSw; (try dsimp only at hSw); go_simp <;> with_reducible rfl)
      simp only [Act.put, List.setIfInBounds_toArray, List.set_cons_zero, List.set_cons_succ]
      refine wpAnyH_ready (rs := [9]) (by kernel_rfl) (by simp) ?_
      refine AllReadyH.cons (o := { dst := some 5, op := Go.Op.alloc 54, type := 0, pos := "plan.go:137", after := #[], guard := none }) rfl (fun K hK => ?_) AllReadyH.nil
      go_simp
      refine hK.out _ _ (HX.out.below (by first | exact bel1 _ _ | exact (bel1 _ _).drew)) (fun hHeld => ?_)
      clear hK K
      refine wpAnyH_ready (rs := [10]) (by kernel_rfl) (by simp) ?_
      refine AllReadyH.cons (o := { dst := none, op := Go.Op.store 54 (Go.Operand.tmp 5) (Go.Operand.tmp 29), type := 0, pos := "plan.go:137", after := #[{ on := 9, ground := Go.Ground.data }, { on := 8, ground := Go.Ground.data }, { on := 2, ground := Go.Ground.chain }, { on := 0, ground := Go.Ground.phase }, { on := 1, ground := Go.Ground.phase }, { on := 2, ground := Go.Ground.phase }, { on := 3, ground := Go.Ground.phase }, { on := 4, ground := Go.Ground.phase }, { on := 5, ground := Go.Ground.phase }, { on := 6, ground := Go.Ground.phase }, { on := 7, ground := Go.Ground.phase }, { on := 8, ground := Go.Ground.phase }, { on := 9, ground := Go.Ground.phase }], guard := none }) rfl (fun K hK => ?_) AllReadyH.nil
      have n1 : (W0.alloc (.cells zV13 54)).heap[W0.heap.size]? = some (.cells zV13 54 (0, 0)) := heap_alloc_new _ _
      refine wp_store_row 54 _ _ rfl W0.heap.size (evL kk t 0 s vk vx vb vs la ll lc) rfl rfl 54 zV13 n1 hie rfl ae ?_
      refine hK.out _ _ (HX.out.below (below_setRow (bel1 W0 (.cells zV13 54)).drew (Nat.le_refl _) _)) (fun hHeld => ?_)
      clear hK K
      refine wpAnyH_done (by kernel_rfl) ?_ _
      go_wp2_with fail
      go_meet
      exact ⟨rfl, setRow_heap _ _ zV13 _ 54 (0, 0) (heap_alloc_new W0 _), HX.out.below (below_setRow (bel1 W0 (.cells zV13 54)).drew (Nat.le_refl _) _), bel2 HB.out (below_setRow (bel1 W0 (.cells zV13 54)).drew (Nat.le_refl _) _)⟩
    · go_simp
      refine hK.out _ _ (HX.out.below (by first | exact bel1 _ _ | exact (bel1 _ _).drew)) (fun hHeld => ?_)
      clear hK K
      refine wpAnyH_ready (rs := [2]) (by kernel_rfl) (by simp) ?_
      refine AllReadyH.cons (o := { dst := some 23, op := Go.Op.call { callee := Go.Callee.value (Go.Operand.func 53), args := #[Go.Operand.tmp 22], argTypes := #[3] }, type := 3, pos := "plan.go:137", after := #[{ on := 1, ground := Go.Ground.data }], guard := none }) rfl (fun K hK => ?_) AllReadyH.nil
      go_simp
      refine (KE.out _).mono ?_
      rintro e w1 ⟨rfl, e1⟩
      obtain rfl := e1.symm
      clear e1
      refine hK.out _ _ (HX.out.below (by first | exact bel1 _ _ | exact (bel1 _ _).drew)) (fun hHeld => ?_)
      clear hK K
      refine wpAnyH_take (i := 8) (oi := { dst := some 29, op := Go.Op.build 54 #[(0, Go.Operand.tmp 23), (1, Go.Operand.tmp 24), (4, Go.Operand.tmp 26), (5, Go.Operand.tmp 28)], type := 54, pos := "plan.go:137", after := #[{ on := 2, ground := Go.Ground.data }, { on := 3, ground := Go.Ground.data }, { on := 5, ground := Go.Ground.data }, { on := 7, ground := Go.Ground.data }], guard := none }) (v := ?_) rfl (by kernel_rfl) (by kernel_rfl) (by kernel_rfl) (fun _ _ _ h => h) (Or.inl ⟨by rfl, ?_⟩) hHeld ?_
      rotate_left 1
      · (intro w hSw; (try dsimp only at hSw); go_simp <;> with_reducible rfl)
      simp only [Act.put, List.setIfInBounds_toArray, List.set_cons_zero, List.set_cons_succ]
      refine wpAnyH_ready (rs := [10]) (by kernel_rfl) (by simp) ?_
      refine AllReadyH.cons (o := { dst := none, op := Go.Op.store 54 (Go.Operand.tmp 5) (Go.Operand.tmp 29), type := 0, pos := "plan.go:137", after := #[{ on := 9, ground := Go.Ground.data }, { on := 8, ground := Go.Ground.data }, { on := 2, ground := Go.Ground.chain }, { on := 0, ground := Go.Ground.phase }, { on := 1, ground := Go.Ground.phase }, { on := 2, ground := Go.Ground.phase }, { on := 3, ground := Go.Ground.phase }, { on := 4, ground := Go.Ground.phase }, { on := 5, ground := Go.Ground.phase }, { on := 6, ground := Go.Ground.phase }, { on := 7, ground := Go.Ground.phase }, { on := 8, ground := Go.Ground.phase }, { on := 9, ground := Go.Ground.phase }], guard := none }) rfl (fun K hK => ?_) AllReadyH.nil
      have n1 : (W0.alloc (.cells zV13 54)).heap[W0.heap.size]? = some (.cells zV13 54 (0, 0)) := heap_alloc_new _ _
      refine wp_store_row 54 _ _ rfl W0.heap.size (evL kk t 0 s vk vx vb vs la ll lc) rfl rfl 54 zV13 n1 hie rfl ae ?_
      refine hK.out _ _ (HX.out.below (below_setRow (bel1 W0 (.cells zV13 54)).drew (Nat.le_refl _) _)) (fun hHeld => ?_)
      clear hK K
      refine wpAnyH_done (by kernel_rfl) ?_ _
      go_wp2_with fail
      go_meet
      exact ⟨rfl, setRow_heap _ _ zV13 _ 54 (0, 0) (heap_alloc_new W0 _), HX.out.below (below_setRow (bel1 W0 (.cells zV13 54)).drew (Nat.le_refl _) _), bel2 HB.out (below_setRow (bel1 W0 (.cells zV13 54)).drew (Nat.le_refl _) _)⟩
  case rest =>
    obtain ⟨rfl, hes, hx, hb⟩ := hcut
    have HB2 : Hid (Below w.heap.size w wc) := hb
    obtain ⟨x0, x1, x2, x3, x4, x5, x6, x7⟩ := hx
    clear hb HB
    have HG : Hid (w.heap.size ≤ W0.heap.size) := HL0.out
    have y3 : wc.cell? ⟨W0.heap.size, 3, none⟩ = some (.int .i64 0) := row_cell hes rfl
    have f3 : wc.frozen? ⟨W0.heap.size, 3, none⟩ = false := frozen_of_row wc _ 3 _ 54 hes
    have hes2 : (wc.setCell ⟨W0.heap.size, 3, none⟩ (.int .i64 (wrap64 (t + d)))).heap[W0.heap.size]? = some (.cells (evL kk t (wrap64 (t + d)) s vk vx vb vs la ll lc) 54 (0, 0)) := heap_setCell_same wc _ 3 _ 54 _ hes
    have hie2 : (Tryz.prog.info? 54).map (·.size) = some (evL kk t (wrap64 (t + d)) s vk vx vb vs la ll lc).size := info46s _ rfl
    have HB3 : Hid (Below w.heap.size w (wc.setCell ⟨W0.heap.size, 3, none⟩ (.int .i64 (wrap64 (t + d))))) := HB2.out.trans ((KB.setCell _ _ _ _).below HG.out HB2.out.size)
    go_upto_region 9 with fail
    clear x0 x1 x2 x3 x4 x5 x6 x7 y3 f3 hes
    generalize wc.setCell ⟨W0.heap.size, 3, none⟩ (.int .i64 (wrap64 (t + d))) = W5 at hes2 HB3 ⊢
    go_wp2_with (refine wpList_load_row rfl 54 _ rfl W0.heap.size rfl 54 #[.int .i64 kk, .int .i64 t, .int .i64 0, .int .i64 (wrap64 (t + d)), .string s, .int .i64 vk, .int .i64 vx, .int .u64 vb, .string vs, .slice la ll lc, .int .i64 0, .int .u64 0, .int .i64 0] (0, 0) _ hes2 Tryz.underlying54 rfl hie2 ?_)
    exact HQ.out _ HB3.out
end Go.Proofs.YtcdhlklmnnmpoaaGreat
namespace Go.Proofs.YtcdhlklmnnmpoaaGreat
open Go.ChangeShapes Go.WideShapes Go.ChangeAt Go.RowKit
/-- What stays so while events come. -/
structure Sml (n : Nat) (s : Sta) : Prop where
  sm : SmS n s
  lt : s.tm.length ≤ 500
  lu : s.up.length ≤ 500
theorem Sml.chg {n : Nat} {s : Sta} {x : Ev} (h : Sml n s) (hx : SmallW n x.v) (hz : SmallW n zE) (hr : roomB s x = true) (hk : 1 ≤ x.k ∧ x.k ≤ 19) : Sml n (chg s x) := by
  have base : ∀ s' : Sta, s'.inp = s.inp → s'.res = s.res → s'.up = s.up → s'.tm = s.tm → Sml n s' := fun s' a b c d => ⟨⟨by rw [a]; exact h.sm.inp, by rw [b]; exact h.sm.res, fun i u hu => h.sm.up i u (by rw [← c]; exact hu)⟩, by rw [d]; exact h.lt, by rw [c]; exact h.lu⟩
  have ends : ∀ s' : Sta, s'.inp = s.inp → SmallW n s'.res → s'.up = s.up → s'.tm = [] → Sml n s' := fun s' a b c d => ⟨⟨by rw [a]; exact h.sm.inp, b, fun i u hu => h.sm.up i u (by rw [← c]; exact hu)⟩, by rw [d]; simp, by rw [c]; exact h.lu⟩
  have hc : x.k = 1 ∨ x.k = 2 ∨ x.k = 3 ∨ (x.k = 4 ∨ x.k = 5 ∨ x.k = 6) ∨ x.k = 7 ∨ x.k = 8 ∨ x.k = 9 ∨ x.k = 10 ∨ x.k = 11 ∨ x.k = 12 ∨ x.k = 13 ∨ x.k = 14 ∨ x.k = 15 ∨ x.k = 16 ∨ x.k = 17 ∨ x.k = 18 ∨ x.k = 19 := by omega
  rcases hc with k | k | k | k | k | k | k | k | k | k | k | k | k | k | k | k | k
  · rw [chg_1 s x k]
    exact ⟨⟨hx, h.sm.res, h.sm.up⟩, h.lt, h.lu⟩
  · rw [chg_2 s x k]
    exact base _ rfl rfl rfl rfl
  · rw [chg_3 s x k]
    exact base _ rfl rfl rfl rfl
  · rw [chg_from s x k]
    split
    · exact base _ rfl rfl rfl rfl
    · exact base _ rfl rfl rfl rfl
  · rw [chg_7 s x k]
    exact base _ rfl rfl rfl rfl
  · rw [chg_8 s x k]
    exact base _ rfl rfl rfl rfl
  · rw [chg_9 s x k]
    have : s.tm.length < 10 := by simpa [roomB, k] using hr
    refine ⟨⟨h.sm.inp, h.sm.res, h.sm.up⟩, ?_, h.lu⟩
    show (insL _ _ _).length ≤ 500
    rw [insL_length]
    omega
  · rw [chg_10 s x k]
    refine ⟨⟨h.sm.inp, h.sm.res, h.sm.up⟩, ?_, h.lu⟩
    show (delL _ _).length ≤ 500
    have := h.lt
    simp [delL]
    omega
  · rw [chg_11 s x k]
    refine ⟨⟨h.sm.inp, h.sm.res, h.sm.up⟩, ?_, h.lu⟩
    show (delL _ _).length ≤ 500
    have := h.lt
    simp [delL]
    omega
  · rw [chg_12 s x k]
    have : s.up.length < 10 := by simpa [roomB, k] using hr
    refine ⟨⟨h.sm.inp, h.sm.res, fun i u hu => ?_⟩, h.lt, ?_⟩
    · have hu : (insL (fun d => gtS d.s x.s) s.up ⟨x.s, x.v, 1, zE⟩)[i]? = some u := hu
      have hm := List.mem_of_getElem? hu
      simp only [insL, List.mem_append, List.mem_cons] at hm
      rcases hm with hm | rfl | hm
      · obtain ⟨j, hj⟩ := List.getElem?_of_mem (List.mem_of_mem_take hm)
        exact h.sm.up j u hj
      · exact ⟨hx, hz⟩
      · obtain ⟨j, hj⟩ := List.getElem?_of_mem (List.mem_of_mem_drop hm)
        exact h.sm.up j u hj
    · show (insL _ _ _).length ≤ 500
      rw [insL_length]
      omega
  · rw [chg_13 s x k]
    refine ⟨⟨h.sm.inp, h.sm.res, fun i u hu => ?_⟩, h.lt, ?_⟩
    · have hu : (s.up.modify (waAt s x.s).toNat (fun u => { u with g := 2, o := x.v }))[i]? = some u := hu
      rw [List.getElem?_modify] at hu
      cases ho : s.up[i]? with
      | none => rw [ho] at hu; cases hu
      | some o =>
        rw [ho] at hu
        have hs := h.sm.up i o ho
        by_cases e : (waAt s x.s).toNat = i
        · have : u = { o with g := 2, o := x.v } := by simpa [e, eq_comm] using hu
          subst this
          exact ⟨hs.1, hx⟩
        · have : u = o := by simpa [e, eq_comm] using hu
          subst this
          exact hs
    · show (s.up.modify _ _).length ≤ 500
      simp
      exact h.lu
  · rw [chg_14 s x k]
    exact base _ rfl rfl rfl rfl
  · rw [chg_15 s x k]
    exact ends _ rfl hx rfl rfl
  · rw [chg_16 s x k]
    exact ends _ rfl h.sm.res rfl rfl
  · rw [chg_17 s x k]
    exact ends _ rfl h.sm.res rfl rfl
  · rw [chg_18 s x k]
    exact ends _ rfl h.sm.res rfl rfl
  · rw [chg_19 s x k]
    exact ends _ rfl h.sm.res rfl rfl
/-- append of one element to a row of the call's own. -/
theorem app1 {lo src k size bytes : Nat} {W : World} {u z : Value} {cells news : List Value} {t e : TypeId} {i0 : TypeInfo} (ht : Tryz.prog.underlying t = some (.slice e)) (hi : Tryz.prog.info? e = some i0) (hz0 : i0.zero = some z) (hz1 : i0.size = size) (hz2 : i0.bytes = bytes) (hzc : z.cells.size = size) (hsz : 0 < size) (hown : W.ownsRow lo e size u k cells) (hl : news.length = size) (hnews : ∀ j z, news[j]? = some z → W.cell? ((⟨src, 0, none⟩ : Addr).add j) = some z) (hs1 : ∀ z ∈ news, z.oneCell' = true) (hk : k ≤ 1000) (hby : bytes ≤ 1000) (hB : lo ≤ W.heap.size) :
    ∃ u' w', (∀ ty, (Builtin.append_ #[t, t] ty #[u, .slice (some ⟨src, 0, none⟩) 1 1]).run Tryz.prog W = .ok u' w') ∧ w'.ownsRow lo e size u' (k + 1) (cells ++ news) ∧ Below lo W w' ∧ (∀ B, B < W.heap.size → u.ownBlock ≠ some B → w'.heap[B]? = W.heap[B]?) ∧ (u'.ownBlock = u.ownBlock ∨ u'.ownBlock = some W.heap.size) := by
  have hb1 : (k + 1) * bytes ≤ 1001 * 1000 := Nat.mul_le_mul (by omega) hby
  have key : ∀ ty, ∃ v' w', (Builtin.append_ #[t, t] ty #[u, .slice (some ⟨src, 0, none⟩) 1 1]).run Tryz.prog W = .ok v' w' ∧ w'.ownsRow lo e size v' (k + 1) (cells ++ news) ∧ W.grownBy w' u.ownBlock ∧ _ := fun ty =>
    run_append_own (P := Tryz.prog) (w := W) lo t ty e i0 z size bytes ht hi hz0 hz1 hz2 hzc hsz u k cells hown ⟨src, 0, none⟩ 1 1 news (by rw [hl, Nat.one_mul]) hnews hs1 (by unfold maxLen; omega) (by omega) hB
  obtain ⟨u', w', hr, hown', hgrow, _⟩ := key t
  have hblk : u'.ownBlock = u.ownBlock ∨ u'.ownBlock = some W.heap.size := by
    have hown2 := hown
    obtain ⟨hcl, ⟨rfl, hn0⟩ | ⟨g, cap, cur, rfl, _, hg, hle, _, hcs, _⟩⟩ := hown2
    · have h2 := run_append_nil (P := Tryz.prog) W t t e i0 z ht hi hz0 ⟨src, 0, none⟩ 1 1 news (by rw [hz1, hl, Nat.one_mul]) hnews (by omega) (by omega) (by rw [hz2]; omega)
      have e := hr.symm.trans h2
      cases e
      exact .inr rfl
    · by_cases hroom : k + 1 ≤ cap
      · have hmul : (k + 1) * size ≤ cap * size := Nat.mul_le_mul_right _ hroom
        have h2 := run_append_room (P := Tryz.prog) W t t e i0 ht hi g k cap cur hg ⟨src, 0, none⟩ 1 1 news (by rw [hz1, hl, Nat.one_mul]) hnews hs1 hroom (by rw [hz1, hcs, hl]; rw [Nat.add_mul, Nat.one_mul] at hmul; exact hmul)
        have e := hr.symm.trans h2
        cases e
        exact .inl rfl
      · have holds : ∀ j z, cells[j]? = some z → W.cell? ((⟨g, 0, none⟩ : Addr).add j) = some z := hown.cells (g := g) rfl
        have h2 := run_append_grow (P := Tryz.prog) W t t e i0 z ht hi hz0 ⟨g, 0, none⟩ k cap cells (by rw [hz1]; exact hcl) holds ⟨src, 0, none⟩ 1 1 news (by rw [hz1, hl, Nat.one_mul]) hnews (by omega) (by omega) (growslice_fits (by omega) (by rw [hz2]; omega))
        have e := hr.symm.trans h2
        cases e
        exact .inr rfl
  exact ⟨u', w', fun ty => hr, hown', (Below.refl _ W).grown hgrow hB (fun k hk2 => (World.ownsRow.lt hown k hk2).1), fun B hB2 hne => hgrow.block B hB2 (fun e => hne e.symm), hblk⟩
theorem info54 : (Tryz.prog.info? 54).map (fun i => (i.zero, i.size, i.bytes)) = some (some (.agg zV13), 13, 136) := by kernel_rfl
theorem info48 : (Tryz.prog.info? 48).map (fun i => (i.zero, i.size, i.bytes)) = some (some (.agg zA), 7, 88) := by kernel_rfl
theorem ownNe {w : World} {lo B k n : Nat} {t t2 : TypeId} {u : Value} {xs : List Value} {A : Array Value} {fr : Nat × Nat} (h : w.ownsRow lo t k u n xs) (hB : w.heap[B]? = some (.cells A t2 fr)) (ht : t ≠ t2) : u.ownBlock ≠ some B := fun e => by
  obtain ⟨_, ⟨rfl, _⟩ | ⟨g, cap, cur, rfl, _, hg, _⟩⟩ := h
  · cases e
  · cases e
    rw [hB] at hg
    cases hg
    exact ht rfl
theorem ownNe2 {w : World} {lo lo2 k k2 n n2 : Nat} {t t2 : TypeId} {u v : Value} {xs ys : List Value} (h : w.ownsRow lo t k u n xs) (h2 : w.ownsRow lo2 t2 k2 v n2 ys) (ht : t ≠ t2) {b : Nat} (hb : u.ownBlock = some b) : v.ownBlock ≠ some b := fun e => by
  obtain ⟨_, ⟨rfl, _⟩ | ⟨g, cap, cur, rfl, _, hg, _⟩⟩ := h2
  · cases e
  · cases e
    exact ownNe h hg ht hb
/-- The cells of a row, set one by one. -/
def setL : Array Value → Nat → List Value → Array Value
  | A, _, [] => A
  | A, o, v :: r => setL (A.setIfInBounds o v) (o + 1) r
theorem setCellsR (g : Nat) (t : TypeId) : ∀ (vs : List Value) (o : Nat) (w : World) (A : Array Value), w.heap[g]? = some (.cells A t (0, 0)) → (w.setCells g o vs).heap[g]? = some (.cells (setL A o vs) t (0, 0))
  | [], _, _, _, h => h
  | v :: r, o, w, A, h => setCellsR g t r (o + 1) _ _ (heap_setCell_same w g o A t v h)
theorem setCellsK (g : Nat) : ∀ (vs : List Value) (o : Nat) (w : World), KB g w (w.setCells g o vs)
  | [], _, w => KB.refl g w
  | v :: r, o, w => (KB.setCell g w o v).trans (setCellsK g r (o + 1) _)
theorem setL_get : ∀ (vs : List Value) (o : Nat) (A : Array Value) (j : Nat), (setL A o vs)[j]? = if o ≤ j ∧ j < o + vs.length ∧ j < A.size then vs[j - o]? else A[j]?
  | [], o, A, j => by
    rw [if_neg (by simp; omega)]
    rfl
  | v :: r, o, A, j => by
    rw [setL, setL_get r (o + 1) _ j]
    simp only [Array.size_setIfInBounds, List.length_cons]
    by_cases h : o ≤ j ∧ j < o + (r.length + 1) ∧ j < A.size
    · rw [if_pos h]
      by_cases e : j = o
      · subst e
        rw [if_neg (by omega), Array.getElem?_setIfInBounds_self_of_lt (by omega)]
        simp
      · rw [if_pos (by omega), show j - o = (j - (o + 1)) + 1 from by omega, List.getElem?_cons_succ]
    · rw [if_neg h, if_neg (by omega)]
      by_cases e : o = j
      · subst e
        have : A.size ≤ o := by omega
        rw [Array.getElem?_eq_none (by simpa using this), Array.getElem?_eq_none this]
      · rw [Array.getElem?_setIfInBounds_ne e]
theorem setL_drf {cs cs2 : Array Value} (h : cs.size = 31) (h2 : cs2.size = 31) (va ve vr : Value) : setL (drf cs va ve vr) 0 cs2.toList = drf cs2 va ve vr := by
  apply Array.ext_getElem?
  intro j
  rw [setL_get]
  by_cases hj : j < 31
  · rw [if_pos ⟨Nat.zero_le _, by simp [h2]; exact hj, by rw [drf_size h]; omega⟩]
    simp only [drf]
    rw [Array.getElem?_append_left (by omega)]
    simp
  · rw [if_neg (by simp [h2]; omega)]
    simp only [drf]
    rw [Array.getElem?_append_right (by omega), Array.getElem?_append_right (by omega), h, h2]
theorem drf_set32 {cs : Array Value} (h : cs.size = 31) (va ve vr v : Value) : (drf cs va ve vr).setIfInBounds 32 v = drf cs va v vr := by
  apply Array.ext_getElem?
  intro j
  by_cases e : j = 32
  · subst e
    rw [Array.getElem?_setIfInBounds_self_of_lt (by rw [drf_size h]; omega), drf_32 h]
  · rw [Array.getElem?_setIfInBounds_ne (by omega)]
    by_cases hj : j < 31
    · simp only [drf]; rw [Array.getElem?_append_left (by omega), Array.getElem?_append_left (by omega)]
    · by_cases e1 : j = 31
      · subst e1; rw [drf_31 h, drf_31 h]
      · by_cases e3 : j = 33
        · subst e3; rw [drf_33 h, drf_33 h]
        · rw [Array.getElem?_eq_none (by rw [drf_size h]; omega), Array.getElem?_eq_none (by rw [drf_size h]; omega)]
theorem drf_set33 {cs : Array Value} (h : cs.size = 31) (va ve vr v : Value) : (drf cs va ve vr).setIfInBounds 33 v = drf cs va ve v := by
  apply Array.ext_getElem?
  intro j
  by_cases e : j = 33
  · subst e
    rw [Array.getElem?_setIfInBounds_self_of_lt (by rw [drf_size h]; omega), drf_33 h]
  · rw [Array.getElem?_setIfInBounds_ne (by omega)]
    by_cases hj : j < 31
    · simp only [drf]; rw [Array.getElem?_append_left (by omega), Array.getElem?_append_left (by omega)]
    · by_cases e1 : j = 31
      · subst e1; rw [drf_31 h, drf_31 h]
      · by_cases e3 : j = 32
        · subst e3; rw [drf_32 h, drf_32 h]
        · rw [Array.getElem?_eq_none (by rw [drf_size h]; omega), Array.getElem?_eq_none (by rw [drf_size h]; omega)]
/-- A draft. -/
structure Dr where
  s : Sta
  ev : List Ev
  rf : List Ak
/-- Where what a draft leads to may lie. -/
def okD (Bd : Nat) (ve vr : Value) (b : Nat) : Prop := b ≠ Bd ∧ ve.ownBlock ≠ some b ∧ vr.ownBlock ≠ some b
/-- The draft d lies in block Bd. -/
structure DrI (lo Bd n : Nat) (va : Value) (d : Dr) (w : World) (cs : Array Value) (ve vr : Value) (es rs : List (Array Value)) : Prop where
  row : w.heap[Bd]? = some (.cells (drf cs va ve vr) 68 (0, 0))
  lob : lo ≤ Bd
  st : Ps (okD Bd ve vr) w n cs d.s
  sm : Sml n d.s
  evo : w.ownsRow lo 54 13 ve es.length (es.flatMap Array.toList)
  evl : es.length = d.ev.length
  evi : ∀ (i : Nat) r e, es[i]? = some r → d.ev[i]? = some e → IsEv (IsP (okD Bd ve vr) w n) r e
  rfo : w.ownsRow lo 48 7 vr rs.length (rs.flatMap Array.toList)
  rfn : rs.length = d.rf.length
  rfi : ∀ (i : Nat) r a, rs[i]? = some r → d.rf[i]? = some a → IsA (IsP (okD Bd ve vr) w n) r a
theorem DrI.below {lo Bd n : Nat} {va : Value} {d : Dr} {w w' : World} {cs : Array Value} {ve vr : Value} {es rs : List (Array Value)} (h : DrI lo Bd n va d w cs ve vr es rs) (hb : Below w.heap.size w w') : DrI lo Bd n va d w' cs ve vr es rs where
  row := row_below hb h.row
  lob := h.lob
  st := h.st.keep (fun _ _ h => h) fun b hl _ => hb.block b hl
  sm := h.sm
  evo := owns_blk h.evo (Nat.le_refl _) fun B hB => hb.block B (World.ownsRow.lt h.evo B hB).2
  evl := h.evl
  evi := fun i r e hr he => (h.evi i r e hr he).map fun _ _ hx => hx.keep (fun _ _ h => h) fun b hl _ => hb.block b hl
  rfo := owns_blk h.rfo (Nat.le_refl _) fun B hB => hb.block B (World.ownsRow.lt h.rfo B hB).2
  rfn := h.rfn
  rfi := fun i r e hr he => (h.rfi i r e hr he).map fun _ _ hx => hx.keep (fun _ _ h => h) fun b hl _ => hb.block b hl
theorem DrI.ltB {lo Bd n : Nat} {va : Value} {d : Dr} {w : World} {cs : Array Value} {ve vr : Value} {es rs : List (Array Value)} (h : DrI lo Bd n va d w cs ve vr es rs) : Bd < w.heap.size := (Array.getElem?_eq_some_iff.1 h.row).1
/-- What is new is none of a draft's blocks. -/
theorem DrI.fresh {lo Bd n : Nat} {va : Value} {d : Dr} {w : World} {cs : Array Value} {ve vr : Value} {es rs : List (Array Value)} (h : DrI lo Bd n va d w cs ve vr es rs) {b : Nat} (hb : w.heap.size ≤ b) : okD Bd ve vr b := by
  have := h.ltB
  exact ⟨by omega, fun e => by have := (World.ownsRow.lt h.evo b e).2; omega, fun e => by have := (World.ownsRow.lt h.rfo b e).2; omega⟩
theorem DrI.setSt {lo Bd n : Nat} {va : Value} {d : Dr} {w : World} {cs cs2 : Array Value} {ve vr : Value} {es rs : List (Array Value)} {s2 : Sta} {ok : Nat → Prop} (h : DrI lo Bd n va d w cs ve vr es rs) (hp : Ps ok w n cs2 s2) (hk : ∀ b, b < w.heap.size → ok b → okD Bd ve vr b) (hs : Sml n s2) : DrI lo Bd n va ⟨s2, d.ev, d.rf⟩ (w.setCells Bd 0 cs2.toList) cs2 ve vr es rs := by
  have hkb := setCellsK Bd cs2.toList 0 w
  have ne : ∀ b, b < w.heap.size → okD Bd ve vr b → (w.setCells Bd 0 cs2.toList).heap[b]? = w.heap[b]? := fun b hl ho => ne_blk hkb hl ho.1
  exact {
    row := by
      rw [setCellsR Bd 68 cs2.toList 0 w _ h.row, setL_drf h.st.size hp.size]
    lob := h.lob
    st := hp.keep hk fun b hl ho => ne b hl (hk b hl ho)
    sm := hs
    evo := owns_blk h.evo (Nat.le_refl _) fun B hB => ne_blk hkb (World.ownsRow.lt h.evo B hB).2 fun e => ownNe h.evo h.row (by decide) (e ▸ hB)
    evl := h.evl
    evi := fun i r e hr he => (h.evi i r e hr he).map fun _ _ hx => hx.keep (fun _ _ h => h) ne
    rfo := owns_blk h.rfo (Nat.le_refl _) fun B hB => ne_blk hkb (World.ownsRow.lt h.rfo B hB).2 fun e => ownNe h.rfo h.row (by decide) (e ▸ hB)
    rfn := h.rfn
    rfi := fun i r e hr he => (h.rfi i r e hr he).map fun _ _ hx => hx.keep (fun _ _ h => h) ne }
theorem flat_add (us : List (Array Value)) (r : Array Value) : (us ++ [r]).flatMap Array.toList = us.flatMap Array.toList ++ r.toList := by simp
theorem DrI.addEv {lo Bd n src : Nat} {va : Value} {d : Dr} {W : World} {cs : Array Value} {ve vr : Value} {es rs : List (Array Value)} {x : Ev} {r : Array Value} {t : TypeId} {fr : Nat × Nat} (h : DrI lo Bd n va d W cs ve vr es rs) (hs : W.heap[src]? = some (.cells r t fr)) (hn : es.length ≤ 1000) (hi : IsEv (IsP (okD Bd ve vr) W n) r x) :
    ∃ a' c' w', (∀ ty, (Builtin.append_ #[44, 44] ty #[ve, .slice (some ⟨src, 0, none⟩) 1 1]).run Tryz.prog W = .ok (.slice a' (es.length + 1) c') w') ∧ w'.heap[Bd]? = some (.cells (drf cs va ve vr) 68 (0, 0)) ∧ DrI lo Bd n va ⟨d.s, d.ev ++ [x], d.rf⟩ (w'.setCell ⟨Bd, 32, none⟩ (.slice a' (es.length + 1) c')) cs (.slice a' (es.length + 1) c') vr (es ++ [r]) rs ∧ Below lo W w' ∧ ∀ B, B < W.heap.size → ve.ownBlock ≠ some B → w'.heap[B]? = W.heap[B]? := by
  have hlt := h.ltB
  have hlo := h.lob
  obtain ⟨i0, hi0, hz0, hz1, hz2⟩ := info_parts info54
  obtain ⟨v', w', hr, ho, hB, hkeep, hblk⟩ := app1 (src := src) (news := r.toList) Tryz.underlying44 hi0 hz0 hz1 hz2 rfl (by decide) h.evo (by rw [Array.length_toList]; exact hi.size) (fun j z hj => by rw [add_plain, Nat.zero_add, cell_of_row W src j r t fr hs]; simpa using hj) (fun z hz => by
    obtain ⟨j, hj⟩ := List.mem_iff_getElem?.1 hz
    exact hi.one j z (by simpa using hj)) hn (by decide) (by omega)
  have hrow : w'.heap[Bd]? = some (.cells (drf cs va ve vr) 68 (0, 0)) := by rw [hkeep Bd hlt (ownNe h.evo h.row (by decide))]; exact h.row
  have ho2 := ho
  obtain ⟨_, ⟨_, hz⟩ | ⟨g, cap, cur, e, _⟩⟩ := ho2
  · omega
  subst e
  have hkb := KB.setCell Bd w' 32 (.slice (some ⟨g, 0, none⟩) (es.length + 1) cap)
  have hok : ∀ b, b < W.heap.size → okD Bd ve vr b → okD Bd (.slice (some ⟨g, 0, none⟩) (es.length + 1) cap) vr b := fun b hl hb => ⟨hb.1, by
    rcases hblk with e | e
    · rw [e]; exact hb.2.1
    · rw [e]; intro e2; injection e2 with e2; omega, hb.2.2⟩
  have hkp : ∀ b, b < W.heap.size → okD Bd ve vr b → (w'.setCell ⟨Bd, 32, none⟩ (.slice (some ⟨g, 0, none⟩) (es.length + 1) cap)).heap[b]? = W.heap[b]? := fun b hl hb => (ne_blk hkb (Nat.lt_of_lt_of_le hl hB.size) hb.1).trans (hkeep b hl hb.2.1)
  refine ⟨_, _, w', hr, hrow, ?_, hB, hkeep⟩
  exact {
    row := by rw [heap_setCell_same w' Bd 32 _ 68 _ hrow, drf_set32 h.st.size]
    lob := h.lob
    st := h.st.keep hok hkp
    sm := h.sm
    evo := by
      rw [flat_add, List.length_append]
      exact owns_blk ho (Nat.le_refl _) fun B hB' => ne_blk hkb (World.ownsRow.lt ho B hB').2 fun e => ownNe ho hrow (by decide) (e ▸ hB')
    evl := by simp [h.evl]
    evi := fun i q y hq hy => by
      by_cases hlt2 : i < es.length
      · rw [List.getElem?_append_left hlt2] at hq
        rw [List.getElem?_append_left (by have := h.evl; omega)] at hy
        exact (h.evi i q y hq hy).map fun _ _ hx => hx.keep hok hkp
      · have hi2 : i = es.length := by
          have := (List.getElem?_eq_some_iff.1 hq).1
          simp at this
          omega
        subst hi2
        rw [List.getElem?_append_right (Nat.le_refl _), Nat.sub_self] at hq
        rw [h.evl, List.getElem?_append_right (Nat.le_refl _), Nat.sub_self] at hy
        simp at hq hy
        subst hq hy
        exact hi.map fun _ _ hx => hx.keep hok hkp
    rfo := owns_blk h.rfo (Nat.le_refl _) fun B hB' => (ne_blk hkb (Nat.lt_of_lt_of_le (World.ownsRow.lt h.rfo B hB').2 hB.size) (fun e => ownNe h.rfo h.row (by decide) (e ▸ hB'))).trans (hkeep B (World.ownsRow.lt h.rfo B hB').2 (ownNe2 h.rfo h.evo (by decide) hB'))
    rfn := h.rfn
    rfi := fun i q y hq hy => (h.rfi i q y hq hy).map fun _ _ hx => hx.keep hok hkp }
theorem DrI.addRf {lo Bd n src : Nat} {va : Value} {d : Dr} {W : World} {cs : Array Value} {ve vr : Value} {es rs : List (Array Value)} {x : Ak} {r : Array Value} {t : TypeId} {fr : Nat × Nat} (h : DrI lo Bd n va d W cs ve vr es rs) (hs : W.heap[src]? = some (.cells r t fr)) (hn : rs.length ≤ 1000) (hi : IsA (IsP (okD Bd ve vr) W n) r x) :
    ∃ a' c' w', (∀ ty, (Builtin.append_ #[42, 42] ty #[vr, .slice (some ⟨src, 0, none⟩) 1 1]).run Tryz.prog W = .ok (.slice a' (rs.length + 1) c') w') ∧ w'.heap[Bd]? = some (.cells (drf cs va ve vr) 68 (0, 0)) ∧ DrI lo Bd n va ⟨d.s, d.ev, d.rf ++ [x]⟩ (w'.setCell ⟨Bd, 33, none⟩ (.slice a' (rs.length + 1) c')) cs ve (.slice a' (rs.length + 1) c') es (rs ++ [r]) ∧ Below lo W w' ∧ ∀ B, B < W.heap.size → vr.ownBlock ≠ some B → w'.heap[B]? = W.heap[B]? := by
  have hlt := h.ltB
  have hlo := h.lob
  obtain ⟨i0, hi0, hz0, hz1, hz2⟩ := info_parts info48
  obtain ⟨v', w', hr, ho, hB, hkeep, hblk⟩ := app1 (src := src) (news := r.toList) Tryz.underlying42 hi0 hz0 hz1 hz2 rfl (by decide) h.rfo (by rw [Array.length_toList]; exact hi.size) (fun j z hj => by rw [add_plain, Nat.zero_add, cell_of_row W src j r t fr hs]; simpa using hj) (fun z hz => by
    obtain ⟨j, hj⟩ := List.mem_iff_getElem?.1 hz
    exact hi.one j z (by simpa using hj)) hn (by decide) (by omega)
  have hrow : w'.heap[Bd]? = some (.cells (drf cs va ve vr) 68 (0, 0)) := by rw [hkeep Bd hlt (ownNe h.rfo h.row (by decide))]; exact h.row
  have ho2 := ho
  obtain ⟨_, ⟨_, hz⟩ | ⟨g, cap, cur, e, _⟩⟩ := ho2
  · omega
  subst e
  have hkb := KB.setCell Bd w' 33 (.slice (some ⟨g, 0, none⟩) (rs.length + 1) cap)
  have hok : ∀ b, b < W.heap.size → okD Bd ve vr b → okD Bd ve (.slice (some ⟨g, 0, none⟩) (rs.length + 1) cap) b := fun b hl hb => ⟨hb.1, hb.2.1, by
    rcases hblk with e | e
    · rw [e]; exact hb.2.2
    · rw [e]; intro e2; injection e2 with e2; omega⟩
  have hkp : ∀ b, b < W.heap.size → okD Bd ve vr b → (w'.setCell ⟨Bd, 33, none⟩ (.slice (some ⟨g, 0, none⟩) (rs.length + 1) cap)).heap[b]? = W.heap[b]? := fun b hl hb => (ne_blk hkb (Nat.lt_of_lt_of_le hl hB.size) hb.1).trans (hkeep b hl hb.2.2)
  refine ⟨_, _, w', hr, hrow, ?_, hB, hkeep⟩
  exact {
    row := by rw [heap_setCell_same w' Bd 33 _ 68 _ hrow, drf_set33 h.st.size]
    lob := h.lob
    st := h.st.keep hok hkp
    sm := h.sm
    evo := owns_blk h.evo (Nat.le_refl _) fun B hB' => (ne_blk hkb (Nat.lt_of_lt_of_le (World.ownsRow.lt h.evo B hB').2 hB.size) (fun e => ownNe h.evo h.row (by decide) (e ▸ hB'))).trans (hkeep B (World.ownsRow.lt h.evo B hB').2 (ownNe2 h.evo h.rfo (by decide) hB'))
    evl := h.evl
    evi := fun i q y hq hy => (h.evi i q y hq hy).map fun _ _ hx => hx.keep hok hkp
    rfo := by
      rw [flat_add, List.length_append]
      exact owns_blk ho (Nat.le_refl _) fun B hB' => ne_blk hkb (World.ownsRow.lt ho B hB').2 fun e => ownNe ho hrow (by decide) (e ▸ hB')
    rfn := by simp [h.rfn]
    rfi := fun i q y hq hy => by
      by_cases hlt2 : i < rs.length
      · rw [List.getElem?_append_left hlt2] at hq
        rw [List.getElem?_append_left (by have := h.rfn; omega)] at hy
        exact (h.rfi i q y hq hy).map fun _ _ hx => hx.keep hok hkp
      · have hi2 : i = rs.length := by
          have := (List.getElem?_eq_some_iff.1 hq).1
          simp at this
          omega
        subst hi2
        rw [List.getElem?_append_right (Nat.le_refl _), Nat.sub_self] at hq
        rw [h.rfn, List.getElem?_append_right (Nat.le_refl _), Nat.sub_self] at hy
        simp at hq hy
        subst hq hy
        exact hi.map fun _ _ hx => hx.keep hok hkp }
end Go.Proofs.YtcdhlklmnnmpoaaGreat
namespace Go.Proofs.YtcdhlklmnnmpoaaGreat
open Go.ChangeShapes Go.WideShapes Go.ChangeAt Go.RowKit
theorem DrI.setSt2 {lo Bd n : Nat} {va : Value} {d : Dr} {w w3 : World} {cs cs2 : Array Value} {ve vr : Value} {es rs : List (Array Value)} {s2 : Sta} {ok : Nat → Prop} (h : DrI lo Bd n va d w cs ve vr es rs) (hrow : w3.heap[Bd]? = some (.cells (drf cs2 va ve vr) 68 (0, 0))) (hkb : ∀ b, b < w.heap.size → b ≠ Bd → w3.heap[b]? = w.heap[b]?) (hp : Ps ok w3 n cs2 s2) (hk : ∀ b, b < w3.heap.size → ok b → okD Bd ve vr b) (hs : Sml n s2) : DrI lo Bd n va ⟨s2, d.ev, d.rf⟩ w3 cs2 ve vr es rs := by
  have ne : ∀ b, b < w.heap.size → okD Bd ve vr b → w3.heap[b]? = w.heap[b]? := fun b hl ho => hkb b hl ho.1
  exact {
    row := hrow
    lob := h.lob
    st := hp.keep hk fun _ _ _ => rfl
    sm := hs
    evo := owns_blk h.evo (Nat.le_refl _) fun B hB => hkb B (World.ownsRow.lt h.evo B hB).2 fun e => ownNe h.evo h.row (by decide) (e ▸ hB)
    evl := h.evl
    evi := fun i r e hr he => (h.evi i r e hr he).map fun _ _ hx => hx.keep (fun _ _ h => h) ne
    rfo := owns_blk h.rfo (Nat.le_refl _) fun B hB => hkb B (World.ownsRow.lt h.rfo B hB).2 fun e => ownNe h.rfo h.row (by decide) (e ▸ hB)
    rfn := h.rfn
    rfi := fun i r e hr he => (h.rfi i r e hr he).map fun _ _ hx => hx.keep (fun _ _ h => h) ne }
/-- Behind Step. -/
def Jad (n : Nat) (s : Sta) (x : Ev) (W0 : World) (x5 x6 : Value) (wx : World) : Prop := ∃ (g : Nat) (c1 : Array Value) (s1 : Sta) (code : Int), x5 = .pointer (some ⟨g, 0, none⟩) ∧ x6 = .int .i64 code ∧ wx.heap[g]? = some (.cells c1 41 (0, 0)) ∧ W0.heap.size ≤ g ∧ StR (n + 1) s x s1 code ∧ Ps (fun b => W0.heap.size ≤ b ∧ b ≠ g) wx (n + 1) c1 s1 ∧ Below W0.heap.size W0 wx
/-- What add tells. -/
def AddP (lo Bd n : Nat) (va : Value) (d : Dr) (x : Ev) (w : World) (e : Ending) (w' : World) : Prop :=
  (∃ code : Int, e = .returned (.int .i64 code) ∧ ((code = 0 ∧ ∃ s2 cs2 ve2 vr2 es2 rs2, StR (n + 1) d.s x s2 0 ∧ DrI lo Bd (n + 1) va ⟨s2, d.ev ++ [x], d.rf⟩ w' cs2 ve2 vr2 es2 rs2) ∨ (code ≠ 0 ∧ ∀ s2, ¬ StR (n + 1) d.s x s2 0))) ∧ Below lo w w'
theorem row_there {w : World} {g t m : Nat} {A : Array Value} (h : w.heap[g]? = some (.cells A t (0, 0))) (hm : m ≤ A.size) : w.there g 0 m := fun j hj => by
  rw [Nat.zero_add]
  exact ⟨by rw [cell_of_row w g j A t (0, 0) h, Array.getElem?_eq_getElem (by omega)]; rfl, frozen_of_row w g j A t h⟩
theorem drf_range {w : World} {g t : Nat} {cs : Array Value} {va ve vr : Value} (hc : cs.size = 31) (h : w.heap[g]? = some (.cells (drf cs va ve vr) t (0, 0))) : w.rangeAt g 0 cs.toList := fun j v hv => by
  rw [Nat.zero_add]
  exact row_cell h (drf_st hc va ve vr (by simpa using hv))
theorem rfl13 {a : Array Value} (h : a.size = 13 := by rfl) : (Tryz.prog.info? 54).map (·.size) = some a.toList.length := by rw [Array.length_toList]; exact info46s a h
set_option maxHeartbeats 4000000 in
set_option maxRecDepth 100000 in
theorem add_calls (lo Bd n : Nat) (va : Value) (d : Dr) (x : Ev) (cs ea : Array Value) (ve vr : Value) (es rs : List (Array Value)) (w : World) (h : DrI lo Bd (n + 1) va d w cs ve vr es rs) (he : IsEv (IsP (fun b => b < lo) w (n + 1)) ea x) (hc : x.c < 18446744073709551616) (sx : SmallW (n + 1) x.v) (hz : SmallW (n + 1) zE) (hn : es.length ≤ 500) :
    Calls Tryz.prog 42 #[.pointer (some ⟨Bd, 0, none⟩), .agg ea] w (AddP lo Bd n va d x w) := by
  have HQ0 : Hid (∀ w', (∃ s2 cs2 ve2 vr2 es2 rs2, StR (n + 1) d.s x s2 0 ∧ DrI lo Bd (n + 1) va ⟨s2, d.ev ++ [x], d.rf⟩ w' cs2 ve2 vr2 es2 rs2) → Below lo w w' → AddP lo Bd n va d x w (.returned (.int .i64 0)) w') := fun w' h1 h2 => ⟨⟨0, rfl, .inl ⟨rfl, h1⟩⟩, h2⟩
  have HQ1 : Hid (∀ code w', code ≠ 0 → (∀ s2, ¬ StR (n + 1) d.s x s2 0) → Below lo w w' → AddP lo Bd n va d x w (.returned (.int .i64 code)) w') := fun code w' h1 h2 h3 => ⟨⟨code, rfl, .inr ⟨h1, h2⟩⟩, h3⟩
  generalize AddP lo Bd n va d x w = Q at HQ0 HQ1 ⊢
  have hcs := h.st.size
  have hi41 : (Tryz.prog.info? 41).map (·.size) = some cs.toList.length := info33l cs hcs
  have hi54 : (Tryz.prog.info? 54).map (·.size) = some ea.toList.length := rfl13 he.size
  have HW : Hid (DrI lo Bd (n + 1) va d w cs ve vr es rs) := h
  have HE : Hid (IsEv (IsP (fun b => b < lo) w (n + 1)) ea x) := he
  have HL : Hid (lo ≤ Bd ∧ Bd < w.heap.size) := ⟨h.lob, h.ltB⟩
  have HX : Hid (x.c < 18446744073709551616 ∧ SmallW (n + 1) x.v ∧ SmallW (n + 1) zE ∧ es.length ≤ 500) := ⟨hc, sx, hz, hn⟩
  have b0 : Hid (Below w.heap.size w (w.alloc (.cells ea 54))) := bel1 _ _
  have r3 : (w.alloc (.cells ea 54)).heap[w.heap.size]? = some (.cells ea 54 (0, 0)) := heap_alloc_new w _
  have KS : Hid (∀ W, Below (w.alloc (.cells ea 54)).heap.size (w.alloc (.cells ea 54)) W → Calls Tryz.prog 54 #[.agg cs, .agg ea] W (StG n d.s x W)) := fun W hB => by
    have hb : Below w.heap.size w W := bel2 b0.out hB
    exact step_calls n cs ea d.s x W (h.st.rs.below hb) (he.map fun v t hv => hv.is.below hb) hc h.sm.sm sx h.sm.lt h.sm.lu
  have g1 := drf_range hcs (row_below b0.out h.row)
  have g2 := row_range r3
  have HZ : Hid (w.heap.size < (w.alloc (.cells ea 54)).heap.size) := by show _ < _; simp
  clear h he hc sx hz hn hcs
  generalize hs : d.s = s at KS
  have HS : Hid (d.s = s) := hs
  clear hs
  generalize hg3 : w.heap.size = g3 at g2 r3
  have HG3 : Hid (w.heap.size = g3) := hg3
  clear hg3
  go_enter Tryz.func42, Tryz.ntmps42
  go_upto_region 1 with fail
  rw [HG3.out]
  generalize w.alloc (.cells ea 54) = W0 at b0 r3 KS g1 g2 HZ ⊢
  go_cut [5, 6] (fun x5 x6 wx => Jad n s x W0 x5 x6 wx)
  case first =>
    refine wp_region_held_drew (S := (fun w' => w'.rangeAt Bd 0 cs.toList ∧ w'.rangeAt g3 0 ea.toList)) (by kernel_rfl) ⟨g1, g2⟩ (fun hHeld => ?_)
    change wpAnyH _ _ _ _ _ _ _ _ (World.drew _)
    refine wpAnyH_take (i := 0) (oi := { dst := some 8, op := Go.Op.move (Go.Operand.tmp 0), type := 78, pos := "plan.go:62", after := #[], guard := none }) (v := ?_) rfl (by kernel_rfl) (by kernel_rfl) (by kernel_rfl) (fun _ _ _ h => h) (Or.inl ⟨by rfl, ?_⟩) hHeld ?_
    rotate_left 1
    · (intro w hSw; (try dsimp only at hSw); go_simp <;> with_reducible rfl)
    simp only [Act.put, List.setIfInBounds_toArray, List.set_cons_zero, List.set_cons_succ]
    refine wpAnyH_take (i := 1) (oi := { dst := some 9, op := Go.Op.nilCheck (Go.Operand.tmp 8), type := 0, pos := "plan.go:62", after := #[{ on := 0, ground := Go.Ground.data }], guard := none }) (v := ?_) rfl (by kernel_rfl) (by kernel_rfl) (by kernel_rfl) (fun _ _ _ h => h) (Or.inl ⟨by rfl, ?_⟩) hHeld ?_
    rotate_left 1
    · (intro w hSw; (try dsimp only at hSw); go_simp <;> with_reducible rfl)
    simp only [Act.put, List.setIfInBounds_toArray, List.set_cons_zero, List.set_cons_succ]
    refine wpAnyH_take (i := 2) (oi := { dst := some 10, op := Go.Op.fieldAddr 68 (Go.Operand.tmp 9) 0, type := 0, pos := "plan.go:62", after := #[{ on := 1, ground := Go.Ground.data }], guard := none }) (v := ?_) rfl (by kernel_rfl) (by kernel_rfl) (by kernel_rfl) (fun _ _ _ h => h) (Or.inl ⟨by rfl, ?_⟩) hHeld ?_
    rotate_left 1
    · (intro w hSw; (try dsimp only at hSw); go_simp <;> with_reducible rfl)
    simp only [Act.put, List.setIfInBounds_toArray, List.set_cons_zero, List.set_cons_succ]
    refine wpAnyH_take (i := 3) (oi := { dst := some 11, op := Go.Op.load 41 (Go.Operand.tmp 10), type := 41, pos := "plan.go:62", after := #[{ on := 2, ground := Go.Ground.data }], guard := none }) (v := _) rfl (by kernel_rfl) (by kernel_rfl) (by kernel_rfl) (fun _ _ _ h => h) (yieldsIf_load_mid rfl 41 _ rfl Bd 0 rfl cs.toList _ (fun w h => h.1) Tryz.underlying41 rfl hi41) hHeld ?_
    simp only [Act.put, List.setIfInBounds_toArray, List.set_cons_zero, List.set_cons_succ]
    refine wpAnyH_take (i := 4) (oi := { dst := some 12, op := Go.Op.load 54 (Go.Operand.tmp 3), type := 54, pos := "plan.go:62", after := #[], guard := none }) (v := _) rfl (by kernel_rfl) (by kernel_rfl) (by kernel_rfl) (fun _ _ _ h => h) (yieldsIf_load_mid rfl 54 _ rfl g3 0 rfl ea.toList _ (fun w h => h.2) Tryz.underlying54 rfl hi54) hHeld ?_
    simp only [Act.put, List.setIfInBounds_toArray, List.set_cons_zero, List.set_cons_succ]
    refine wpAnyH_ready (rs := [5, 9]) (by kernel_rfl) (by simp) ?_
    refine AllReadyH.cons (o := { dst := some 13, op := Go.Op.call { callee := Go.Callee.value (Go.Operand.func 54), args := #[Go.Operand.tmp 11, Go.Operand.tmp 12], argTypes := #[41, 54] }, type := 101, pos := "plan.go:62", after := #[{ on := 3, ground := Go.Ground.data }, { on := 4, ground := Go.Ground.data }], guard := none }) rfl (fun K hK => ?_) (AllReadyH.cons (o := { dst := some 5, op := Go.Op.alloc 41, type := 0, pos := "plan.go:62", after := #[], guard := none }) rfl (fun K hK => ?_) AllReadyH.nil)
    · go_simp
      refine (KS.out _ (Below.refl _ W0).drew).mono ?_
      rintro e w1 ⟨⟨c1, code, s1, rfl, hst, hps⟩, hb1⟩
      have hb : Below W0.heap.size W0 w1 := bel2 (Below.refl _ W0).drew hb1
      have hi1 := info33s c1 hps.size
      have z1 : zS.size = c1.size := hps.size.symm
      have a1 := all_one hps.one
      have n1 : (w1.alloc (.cells zS 41)).heap[w1.heap.size]? = some (.cells zS 41 (0, 0)) := heap_alloc_new w1 _
      have HJ : Hid (Jad n s x W0 (.pointer (some ⟨w1.heap.size, 0, none⟩)) (.int .i64 code) ((w1.alloc (.cells zS 41)).setRow w1.heap.size c1)) := by
        have hk := setRow_kb (w1.alloc (.cells zS 41)) w1.heap.size c1
        refine ⟨_, c1, s1, code, rfl, rfl, setRow_heap _ _ zS c1 41 (0, 0) n1, hb.size, hst, hps.keep (fun b hl hf => ⟨hf.1, by omega⟩) (fun b hl _ => (ne_blk hk (by simp; omega) (by omega)).trans ((bel1 w1 _).block b hl)), below_setRow (bel2 hb (bel1 _ _)) hb.size _⟩
      clear hst hps
      refine hK.out _ _ ⟨fun j v hv => cellW (g1 j v hv) hb, fun j v hv => cellW (g2 j v hv) hb⟩ (fun hHeld => ?_)
      clear hK K
      refine wpAnyH_take (i := 6) (oi := { dst := some 7, op := Go.Op.move (Go.Operand.tmp 13), type := 101, pos := "plan.go:62", after := #[{ on := 5, ground := Go.Ground.data }], guard := none }) (v := ?_) rfl (by kernel_rfl) (by kernel_rfl) (by kernel_rfl) (fun _ _ _ h => h) (Or.inl ⟨by rfl, ?_⟩) hHeld ?_
      rotate_left 1
      · (intro w hSw; (try dsimp only at hSw); go_simp <;> with_reducible rfl)
      simp only [Act.put, List.setIfInBounds_toArray, List.set_cons_zero, List.set_cons_succ]
      refine wpAnyH_take (i := 7) (oi := { dst := some 14, op := Go.Op.extract (Go.Operand.tmp 7) 0, type := 41, pos := "plan.go:62", after := #[{ on := 6, ground := Go.Ground.data }], guard := none }) (v := ?_) rfl (by kernel_rfl) (by kernel_rfl) (by kernel_rfl) (fun _ _ _ h => h) (Or.inl ⟨by rfl, ?_⟩) hHeld ?_
      rotate_left 1
      · (intro w hSw; (try dsimp only at hSw); go_simp <;> with_reducible rfl)
      simp only [Act.put, List.setIfInBounds_toArray, List.set_cons_zero, List.set_cons_succ]
      refine wpAnyH_take (i := 8) (oi := { dst := some 15, op := Go.Op.extract (Go.Operand.tmp 7) 1, type := 29, pos := "plan.go:62", after := #[{ on := 6, ground := Go.Ground.data }, { on := 10, ground := Go.Ground.gcOnly Go.Departure.lateStores }], guard := none }) (v := ?_) rfl (by kernel_rfl) (by kernel_rfl) (by kernel_rfl) (fun _ _ _ h => h) (Or.inl ⟨by rfl, ?_⟩) hHeld ?_
      rotate_left 1
      · (intro w hSw; (try dsimp only at hSw); go_simp <;> with_reducible rfl)
      simp only [Act.put, List.setIfInBounds_toArray, List.set_cons_zero, List.set_cons_succ]
      refine wpAnyH_ready (rs := [9]) (by kernel_rfl) (by simp) ?_
      refine AllReadyH.cons (o := { dst := some 5, op := Go.Op.alloc 41, type := 0, pos := "plan.go:62", after := #[], guard := none }) rfl (fun K hK => ?_) AllReadyH.nil
      go_simp
      refine hK.out _ _ ⟨fun j v hv => cellW (g1 j v hv) (bel2 hb (bel1 _ _)), fun j v hv => cellW (g2 j v hv) (bel2 hb (bel1 _ _))⟩ (fun hHeld => ?_)
      clear hK K
      refine wpAnyH_ready (rs := [10]) (by kernel_rfl) (by simp) ?_
      refine AllReadyH.cons (o := { dst := none, op := Go.Op.store 41 (Go.Operand.tmp 5) (Go.Operand.tmp 14), type := 0, pos := "plan.go:62", after := #[{ on := 9, ground := Go.Ground.data }, { on := 7, ground := Go.Ground.data }, { on := 5, ground := Go.Ground.chain }, { on := 0, ground := Go.Ground.phase }, { on := 1, ground := Go.Ground.phase }, { on := 2, ground := Go.Ground.phase }, { on := 3, ground := Go.Ground.phase }, { on := 4, ground := Go.Ground.phase }, { on := 5, ground := Go.Ground.phase }, { on := 6, ground := Go.Ground.phase }, { on := 7, ground := Go.Ground.phase }, { on := 8, ground := Go.Ground.textOnly Go.Departure.lateStores }, { on := 9, ground := Go.Ground.phase }], guard := none }) rfl (fun K hK => ?_) AllReadyH.nil
      rw [if_pos (by rfl)]
      refine wp_store_row 41 _ _ rfl w1.heap.size c1 rfl rfl 41 zS n1 hi1 z1 a1 ?_
      refine hK.out _ _ ⟨fun j v hv => cellW (g1 j v hv) (below_setRow (bel2 hb (bel1 _ _)) hb.size _), fun j v hv => cellW (g2 j v hv) (below_setRow (bel2 hb (bel1 _ _)) hb.size _)⟩ (fun hHeld => ?_)
      clear hK K
      refine wpAnyH_take (i := 11) (oi := { dst := some 6, op := Go.Op.assign (Go.Operand.tmp 15), type := 29, pos := "plan.go:62", after := #[{ on := 8, ground := Go.Ground.data }, { on := 10, ground := Go.Ground.chain }, { on := 0, ground := Go.Ground.phase }, { on := 1, ground := Go.Ground.phase }, { on := 2, ground := Go.Ground.phase }, { on := 3, ground := Go.Ground.phase }, { on := 4, ground := Go.Ground.phase }, { on := 5, ground := Go.Ground.phase }, { on := 6, ground := Go.Ground.phase }, { on := 7, ground := Go.Ground.phase }, { on := 8, ground := Go.Ground.phase }, { on := 9, ground := Go.Ground.phase }, { on := 10, ground := Go.Ground.phase }], guard := none }) (v := ?_) rfl (by kernel_rfl) (by kernel_rfl) (by kernel_rfl) (fun _ _ _ h => h) (Or.inl ⟨by rfl, ?_⟩) hHeld ?_
      rotate_left 1
      · (intro w hSw; (try dsimp only at hSw); go_simp <;> with_reducible rfl)
      simp only [Act.put, List.setIfInBounds_toArray, List.set_cons_zero, List.set_cons_succ]
      refine wpAnyH_done (by kernel_rfl) ?_ _
      go_wp2_with fail
      go_meet
      exact HJ.out
    · go_simp
      refine hK.out _ _ ⟨fun j v hv => cellW (g1 j v hv) (by first | exact bel1 _ _ | exact (bel1 _ _).drew), fun j v hv => cellW (g2 j v hv) (by first | exact bel1 _ _ | exact (bel1 _ _).drew)⟩ (fun hHeld => ?_)
      clear hK K
      refine wpAnyH_ready (rs := [5]) (by kernel_rfl) (by simp) ?_
      refine AllReadyH.cons (o := { dst := some 13, op := Go.Op.call { callee := Go.Callee.value (Go.Operand.func 54), args := #[Go.Operand.tmp 11, Go.Operand.tmp 12], argTypes := #[41, 54] }, type := 101, pos := "plan.go:62", after := #[{ on := 3, ground := Go.Ground.data }, { on := 4, ground := Go.Ground.data }], guard := none }) rfl (fun K hK => ?_) AllReadyH.nil
      go_simp
      refine (KS.out _ (by first | exact bel1 _ _ | exact (bel1 _ _).drew)).mono ?_
      rintro e w1 ⟨⟨c1, code, s1, rfl, hst, hps⟩, hb1⟩
      have hz : (W0.alloc (.cells zS 41)).heap.size = W0.heap.size + 1 := by simp
      have hb2 : Below (W0.heap.size + 1) (W0.alloc (.cells zS 41)) w1 := by
        have h2 : Below (W0.alloc (.cells zS 41)).heap.size (W0.alloc (.cells zS 41)) w1 := bel2 (Below.refl _ (W0.alloc (.cells zS 41))).drew hb1
        rwa [hz] at h2
      have hb : Below W0.heap.size W0 w1 := (bel1 W0 (.cells zS 41)).trans (hb2.mono (Nat.le_succ _))
      have hi1 := info33s c1 hps.size
      have z1 : zS.size = c1.size := hps.size.symm
      have a1 := all_one hps.one
      have n1 : w1.heap[W0.heap.size]? = some (.cells zS 41 (0, 0)) := by rw [hb2.block _ (Nat.lt_succ_self _)]; exact heap_alloc_new W0 _
      have HJ : Hid (Jad n s x W0 (.pointer (some ⟨W0.heap.size, 0, none⟩)) (.int .i64 code) (w1.setRow W0.heap.size c1)) := by
        have hk := setRow_kb w1 W0.heap.size c1
        have hf1 : ∀ b, Free (W0.alloc (.cells zS 41)).drew.heap.size w1 b → W0.heap.size + 1 ≤ b := fun b hf => by have := hf.1; rwa [show (W0.alloc (.cells zS 41)).drew.heap.size = W0.heap.size + 1 from hz] at this
        refine ⟨_, c1, s1, code, rfl, rfl, setRow_heap _ _ zS c1 41 (0, 0) n1, Nat.le_refl _, hst, hps.keep (fun b hl hf => ⟨by have := hf1 b hf; omega, by have := hf1 b hf; omega⟩) (fun b hl hf => ne_blk hk hl (by have := hf1 b hf; omega)), below_setRow hb (Nat.le_refl _) _⟩
      clear hst hps
      refine hK.out _ _ ⟨fun j v hv => cellW (g1 j v hv) hb, fun j v hv => cellW (g2 j v hv) hb⟩ (fun hHeld => ?_)
      clear hK K
      refine wpAnyH_take (i := 6) (oi := { dst := some 7, op := Go.Op.move (Go.Operand.tmp 13), type := 101, pos := "plan.go:62", after := #[{ on := 5, ground := Go.Ground.data }], guard := none }) (v := ?_) rfl (by kernel_rfl) (by kernel_rfl) (by kernel_rfl) (fun _ _ _ h => h) (Or.inl ⟨by rfl, ?_⟩) hHeld ?_
      rotate_left 1
      · (intro w hSw; (try dsimp only at hSw); go_simp <;> with_reducible rfl)
      simp only [Act.put, List.setIfInBounds_toArray, List.set_cons_zero, List.set_cons_succ]
      refine wpAnyH_take (i := 7) (oi := { dst := some 14, op := Go.Op.extract (Go.Operand.tmp 7) 0, type := 41, pos := "plan.go:62", after := #[{ on := 6, ground := Go.Ground.data }], guard := none }) (v := ?_) rfl (by kernel_rfl) (by kernel_rfl) (by kernel_rfl) (fun _ _ _ h => h) (Or.inl ⟨by rfl, ?_⟩) hHeld ?_
      rotate_left 1
      · (intro w hSw; (try dsimp only at hSw); go_simp <;> with_reducible rfl)
      simp only [Act.put, List.setIfInBounds_toArray, List.set_cons_zero, List.set_cons_succ]
      refine wpAnyH_take (i := 8) (oi := { dst := some 15, op := Go.Op.extract (Go.Operand.tmp 7) 1, type := 29, pos := "plan.go:62", after := #[{ on := 6, ground := Go.Ground.data }, { on := 10, ground := Go.Ground.gcOnly Go.Departure.lateStores }], guard := none }) (v := ?_) rfl (by kernel_rfl) (by kernel_rfl) (by kernel_rfl) (fun _ _ _ h => h) (Or.inl ⟨by rfl, ?_⟩) hHeld ?_
      rotate_left 1
      · (intro w hSw; (try dsimp only at hSw); go_simp <;> with_reducible rfl)
      simp only [Act.put, List.setIfInBounds_toArray, List.set_cons_zero, List.set_cons_succ]
      refine wpAnyH_ready (rs := [10]) (by kernel_rfl) (by simp) ?_
      refine AllReadyH.cons (o := { dst := none, op := Go.Op.store 41 (Go.Operand.tmp 5) (Go.Operand.tmp 14), type := 0, pos := "plan.go:62", after := #[{ on := 9, ground := Go.Ground.data }, { on := 7, ground := Go.Ground.data }, { on := 5, ground := Go.Ground.chain }, { on := 0, ground := Go.Ground.phase }, { on := 1, ground := Go.Ground.phase }, { on := 2, ground := Go.Ground.phase }, { on := 3, ground := Go.Ground.phase }, { on := 4, ground := Go.Ground.phase }, { on := 5, ground := Go.Ground.phase }, { on := 6, ground := Go.Ground.phase }, { on := 7, ground := Go.Ground.phase }, { on := 8, ground := Go.Ground.textOnly Go.Departure.lateStores }, { on := 9, ground := Go.Ground.phase }], guard := none }) rfl (fun K hK => ?_) AllReadyH.nil
      rw [if_pos (by rfl)]
      refine wp_store_row 41 _ _ rfl W0.heap.size c1 rfl rfl 41 zS n1 hi1 z1 a1 ?_
      refine hK.out _ _ ⟨fun j v hv => cellW (g1 j v hv) (below_setRow hb (Nat.le_refl _) _), fun j v hv => cellW (g2 j v hv) (below_setRow hb (Nat.le_refl _) _)⟩ (fun hHeld => ?_)
      clear hK K
      refine wpAnyH_take (i := 11) (oi := { dst := some 6, op := Go.Op.assign (Go.Operand.tmp 15), type := 29, pos := "plan.go:62", after := #[{ on := 8, ground := Go.Ground.data }, { on := 10, ground := Go.Ground.chain }, { on := 0, ground := Go.Ground.phase }, { on := 1, ground := Go.Ground.phase }, { on := 2, ground := Go.Ground.phase }, { on := 3, ground := Go.Ground.phase }, { on := 4, ground := Go.Ground.phase }, { on := 5, ground := Go.Ground.phase }, { on := 6, ground := Go.Ground.phase }, { on := 7, ground := Go.Ground.phase }, { on := 8, ground := Go.Ground.phase }, { on := 9, ground := Go.Ground.phase }, { on := 10, ground := Go.Ground.phase }], guard := none }) (v := ?_) rfl (by kernel_rfl) (by kernel_rfl) (by kernel_rfl) (fun _ _ _ h => h) (Or.inl ⟨by rfl, ?_⟩) hHeld ?_
      rotate_left 1
      · (intro w hSw; (try dsimp only at hSw); go_simp <;> with_reducible rfl)
      simp only [Act.put, List.setIfInBounds_toArray, List.set_cons_zero, List.set_cons_succ]
      refine wpAnyH_done (by kernel_rfl) ?_ _
      go_wp2_with fail
      go_meet
      exact HJ.out
  case rest =>
    obtain ⟨g, c1, s1, code, rfl, rfl, r5, hg, hst, hps, hb⟩ := hcut
    have HJ : Hid (W0.heap.size ≤ g ∧ StR (n + 1) s x s1 code ∧ Ps (fun b => W0.heap.size ≤ b ∧ b ≠ g) wc (n + 1) c1 s1 ∧ Below W0.heap.size W0 wc) := ⟨hg, hst, hps, hb⟩
    have hi1 := info33s c1 hps.size
    have a1 := all_one hps.one
    have rB := row_below (bel2 b0.out hb) HW.out.row
    have t1 : wc.there Bd 0 c1.size := row_there rB (by rw [hps.size, drf_size HW.out.st.size]; omega)
    have r3' := row_below hb r3
    clear hg hst hps hb g1 g2 r3 KS
    by_cases hcode : code = 0
    · subst hcode
      have HSm : Hid (Sml (n + 1) s1) := by
        have hJ := HJ.out.2.1
        have hm : MayE (n + 1) x := by
          by_cases hm : MayE (n + 1) x
          · exact hm
          · have := hJ.2.1 hm
            omega
        have hs2 : s1 = chg s x := by have := hJ.2.2; rwa [if_pos rfl] at this
        have hrc := refC_fits (hJ.1 hm).symm
        show Sml (n + 1) s1
        rw [hs2, ← HS.out]
        exact HW.out.sm.chg HX.out.2.1 HX.out.2.2.1 (by rw [HS.out]; exact hrc.2.1) hm.kind
      have hkb := setCellsK Bd c1.toList 0 wc
      have rB2 := (setCellsR Bd 68 c1.toList 0 wc _ rB).trans (by rw [setL_drf HW.out.st.size HJ.out.2.2.1.size])
      have hlt3 : g3 < wc.heap.size := (Array.getElem?_eq_some_iff.1 r3').1
      have r3'' := row_kb r3' hkb (by have := HL.out.2; have := HG3.out; omega)
      have HK1 : Hid (KB Bd wc (wc.setCells Bd 0 c1.toList)) := hkb
      clear hkb r3' hlt3
      go_upto_region 8 with (first | refine wpList_load_row rfl 41 _ rfl g rfl 41 c1 (0, 0) _ r5 Tryz.underlying41 rfl hi1 ?_ | refine wpList_store_mid rfl 41 _ _ rfl Bd 0 c1 rfl rfl t1 hi1 a1 ?_)
      generalize hW1 : wc.setCells Bd 0 c1.toList = W1 at rB2 r3'' HK1 ⊢
      clear hW1 rB r5 t1
      have HKw : Hid (∀ b, b < w.heap.size → b ≠ Bd → W1.heap[b]? = w.heap[b]?) := fun b hl hne => by
        have e1 := b0.out.block b hl
        have e2 := HJ.out.2.2.2.block b (by have := b0.out.size; omega)
        have e3 := ne_blk HK1.out (by have := b0.out.size; have := HJ.out.2.2.2.size; omega) hne
        rw [e3, e2, e1]
      have hE1 : IsEv (IsP (fun b => b < lo) W1 (n + 1)) ea x := HE.out.map fun v t hv => hv.keep (fun _ _ h => h) fun b hl hb => HKw.out b hl (by have := HL.out.1; omega)
      obtain ⟨k, x0, b, sv, a, m, c, i1, i2, i3, i4, i5, iv⟩ := hE1.v
      have CV : Hid (Calls Tryz.prog 43 _ W1 _) := cloneW (n + 1) _ _ W1 iv.is HX.out.2.1
      have y5 : W1.cell? ⟨g3, 5, none⟩ = some (.int .i64 k) := row_cell r3'' i1
      have y6 : W1.cell? ⟨g3, 6, none⟩ = some (.int .i64 x0) := row_cell r3'' i2
      have y7 : W1.cell? ⟨g3, 7, none⟩ = some (.int .u64 b) := row_cell r3'' i3
      have y8 : W1.cell? ⟨g3, 8, none⟩ = some (.string sv) := row_cell r3'' i4
      have y9 : W1.cell? ⟨g3, 9, none⟩ = some (.slice a m c) := row_cell r3'' i5
      have HE1 : Hid (IsEv (IsP (fun b => b < lo) W1 (n + 1)) ea x) := hE1
      clear hE1 iv i1 i2 i3 i4 i5
      go_wp2_with fail
      refine CV.out.mono ?_
      rintro e w2 ⟨⟨v1, rfl, hn1⟩, hb1⟩
      obtain ⟨k1, x1, b1, s1', a1', m1, c1', rfl⟩ := hn1.shape
      have hg := row_below hb1 r3''
      have y5 : w2.cell? ⟨g3, 5, none⟩ = some _ := cellW y5 hb1
      have y6 : w2.cell? ⟨g3, 6, none⟩ = some _ := cellW y6 hb1
      have y7 : w2.cell? ⟨g3, 7, none⟩ = some _ := cellW y7 hb1
      have y8 : w2.cell? ⟨g3, 8, none⟩ = some _ := cellW y8 hb1
      have y9 : w2.cell? ⟨g3, 9, none⟩ = some _ := cellW y9 hb1
      have yf : ∀ o, w2.frozen? ⟨g3, o, none⟩ = false := fun o => frozen_of_row w2 _ o _ 54 hg
      have k5 := set5_kb w2 g3 5 (.int .i64 k1) (.int .i64 x1) (.int .u64 b1) (.string s1') (.slice a1' m1 c1')
      have R3 : (set5 w2 g3 5 (.int .i64 k1) (.int .i64 x1) (.int .u64 b1) (.string s1') (.slice a1' m1 c1')).heap[g3]? = some (.cells (put5 ea 5 (.int .i64 k1) (.int .i64 x1) (.int .u64 b1) (.string s1') (.slice a1' m1 c1')) 54 (0, 0)) := set5_row hg (.int .i64 k1) (.int .i64 x1) (.int .u64 b1) (.string s1') (.slice a1' m1 c1')
      have HG : Hid (g3 < W0.heap.size ∧ W0.heap.size ≤ W1.heap.size ∧ Bd < g3 ∧ w.heap.size = g3) := ⟨by have := HZ.out; have := HG3.out; omega, Nat.le_trans HJ.out.2.2.2.size HK1.out.2.2.2.1, by have := HL.out.2; have := HG3.out; omega, HG3.out⟩
      have U3 : Hid (IsEv (IsM W1.heap.size (set5 w2 g3 5 (.int .i64 k1) (.int .i64 x1) (.int .u64 b1) (.string s1') (.slice a1' m1 c1')) (n + 1)) (put5 ea 5 (.int .i64 k1) (.int .i64 x1) (.int .u64 b1) (.string s1') (.slice a1' m1 c1')) x) := put5_ev HE1.out (hn1.kb k5 (by have := HG.out; omega))
      have HB2 : Hid (Below W1.heap.size W1 w2) := hb1
      have HK5 : Hid (KB g3 w2 (set5 w2 g3 5 (.int .i64 k1) (.int .i64 x1) (.int .u64 b1) (.string s1') (.slice a1' m1 c1'))) := k5
      have rB3 := row_kb (row_below hb1 rB2) k5 (by have := HG.out; omega)
      clear hb1 hn1 CV hg k5 HE1 r3'' rB2
      go_upto_region 9 with fail
      change Code.wp _ _ _ _ (set5 w2 g3 5 (.int .i64 k1) (.int .i64 x1) (.int .u64 b1) (.string s1') (.slice a1' m1 c1'))
      generalize put5 ea 5 (.int .i64 k1) (.int .i64 x1) (.int .u64 b1) (.string s1') (.slice a1' m1 c1') = ea2 at R3 U3
      generalize set5 w2 g3 5 (.int .i64 k1) (.int .i64 x1) (.int .u64 b1) (.string s1') (.slice a1' m1 c1') = W3 at R3 U3 HK5 rB3 ⊢
      clear y5 y6 y7 y8 y9 yf
      have keep3 : ∀ b, b < w.heap.size → b ≠ Bd → W3.heap[b]? = w.heap[b]? := fun b hl hne => by
        have := HG.out
        rw [ne_blk HK5.out (by have := HB2.out.size; omega) (by omega), HB2.out.block b (by omega), HKw.out b hl hne]
      have hD3 := HW.out.setSt2 rB3 keep3 (HJ.out.2.2.1.keep (fun b _ h => h) (fun b hl hb => by
        have := HG.out
        have := HJ.out.2.2.2.size
        have := HK1.out.2.2.2.1
        rw [ne_blk HK5.out (by have := HB2.out.size; omega) (by omega), HB2.out.block b (by omega), ne_blk HK1.out hl (by omega)])) (fun b _ hb => HW.out.fresh (by have := HG.out; omega)) HSm.out
      have hU : IsEv (IsP (okD Bd ve vr) W3 (n + 1)) ea2 x := U3.out.map fun v t hv => hv.isP.keep (fun b _ hf => HW.out.fresh (by have := HG.out; have := hf.1; omega)) fun _ _ _ => rfl
      have HBl : Hid (Below lo w W3) := by
        have hb1 : Below lo w wc := (b0.out.trans (HJ.out.2.2.2.mono b0.out.size)).mono (by have := HL.out; omega)
        have hb2 : Below lo wc W1 := HK1.out.below HL.out.1 (by have := HL.out; have := b0.out.size; have := HJ.out.2.2.2.size; omega)
        have hb3 : Below lo W1 w2 := HB2.out.mono (by have := HG.out; have := HL.out; omega)
        exact ((hb1.trans hb2).trans hb3).trans (HK5.out.below (by have := HG.out; have := HL.out; omega) (by have := HG.out; have := HL.out; have := HB2.out.size; omega))
      obtain ⟨vk, vx, vb, vs, la, ll, lc, rfl, _⟩ := hU.lit
      have gv := row_range R3
      have c32 : W3.cell? ⟨Bd, 32, none⟩ = some ve := row_cell rB3 (drf_32 HJ.out.2.2.1.size va ve vr)
      have c32b : (W3.alloc (.cells (#[.int .i64 x.k, .int .i64 x.t, .int .i64 x.n, .int .i64 x.d, .string x.s, .int .i64 vk, .int .i64 vx, .int .u64 vb, .string vs, .slice la ll lc, .int .i64 x.f, .int .u64 (x.c : Int), .int .i64 x.m] : Array Value) 54)).cell? ⟨Bd, 32, none⟩ = some ve := cellW c32 (bel1 _ _)
      have hb4 : Below W3.heap.size W3 (W3.alloc (.cells (#[.int .i64 x.k, .int .i64 x.t, .int .i64 x.n, .int .i64 x.d, .string x.s, .int .i64 vk, .int .i64 vx, .int .u64 vb, .string vs, .slice la ll lc, .int .i64 x.f, .int .u64 (x.c : Int), .int .i64 x.m] : Array Value) 54)).drew := (bel1 W3 _).drew
      have HB4 : Hid (Below W3.heap.size W3 (W3.alloc (.cells (#[.int .i64 x.k, .int .i64 x.t, .int .i64 x.n, .int .i64 x.d, .string x.s, .int .i64 vk, .int .i64 vx, .int .u64 vb, .string vs, .slice la ll lc, .int .i64 x.f, .int .u64 (x.c : Int), .int .i64 x.m] : Array Value) 54)).drew) := hb4
      have hD4 := hD3.below hb4
      obtain ⟨a', c', w', hrun, hrow', hD5, hB5, hkp5⟩ := hD4.addEv (src := W3.heap.size) (r := (#[.int .i64 x.k, .int .i64 x.t, .int .i64 x.n, .int .i64 x.d, .string x.s, .int .i64 vk, .int .i64 vx, .int .u64 vb, .string vs, .slice la ll lc, .int .i64 x.f, .int .u64 (x.c : Int), .int .i64 x.m] : Array Value)) (x := x) (t := 54) (fr := (0, 0)) (heap_alloc_new W3 _) (by have := HX.out.2.2.2; omega) (hU.map fun v t hv => hv.keep (fun _ _ h => h) fun b hl _ => hb4.block b hl)
      have HRun : Hid (∀ ty, (Builtin.append_ #[44, 44] ty #[ve, .slice (some ⟨W3.heap.size, 0, none⟩) 1 1]).run Tryz.prog (W3.alloc (.cells (#[.int .i64 x.k, .int .i64 x.t, .int .i64 x.n, .int .i64 x.d, .string x.s, .int .i64 vk, .int .i64 vx, .int .u64 vb, .string vs, .slice la ll lc, .int .i64 x.f, .int .u64 (x.c : Int), .int .i64 x.m] : Array Value) 54)).drew = .ok (.slice a' (es.length + 1) c') w') := hrun
      have HD9 : Hid (∃ s2 cs2 ve2 vr2 es2 rs2, StR (n + 1) d.s x s2 0 ∧ DrI lo Bd (n + 1) va ⟨s2, d.ev ++ [x], d.rf⟩ (w'.setCell ⟨Bd, 32, none⟩ (.slice a' (es.length + 1) c')) cs2 ve2 vr2 es2 rs2) := ⟨s1, c1, _, vr, _, rs, by rw [HS.out]; exact HJ.out.2.1, hD5⟩
      have HB9 : Hid (Below lo w (w'.setCell ⟨Bd, 32, none⟩ (.slice a' (es.length + 1) c'))) := by
        have hl3 : lo ≤ W3.heap.size := by have := HBl.out.size; have := HL.out; omega
        have hx := (HBl.out.trans (hb4.mono hl3)).trans hB5
        exact hx.trans ((KB.setCell _ _ _ _).below HL.out.1 (by have := hx.size; have := HL.out; omega))
      have z32 : w'.cell? ⟨Bd, 32, none⟩ = some ve := row_cell hrow' (drf_32 HJ.out.2.2.1.size va ve vr)
      have f32 : w'.frozen? ⟨Bd, 32, none⟩ = false := frozen_of_row w' _ 32 _ 68 hrow'
      have hcell : w'.rangeAt g3 0 (#[.int .i64 x.k, .int .i64 x.t, .int .i64 x.n, .int .i64 x.d, .string x.s, .int .i64 vk, .int .i64 vx, .int .u64 vb, .string vs, .slice la ll lc, .int .i64 x.f, .int .u64 (x.c : Int), .int .i64 x.m] : Array Value).toList := fun j v hv => by
        have hgl : g3 < W3.heap.size := (Array.getElem?_eq_some_iff.1 R3).1
        have e := (hkp5 g3 (Nat.lt_of_lt_of_le hgl hb4.size) (fun e => by have := (World.ownsRow.lt HW.out.evo g3 e).2; have := HG.out; omega)).trans (hb4.block g3 hgl)
        rw [Nat.zero_add]
        exact row_cell (e.trans R3) (by simpa using hv)
      have hcell2 : (w'.setCell ⟨Bd, 32, none⟩ (.slice a' (es.length + 1) c')).rangeAt g3 0 (#[.int .i64 x.k, .int .i64 x.t, .int .i64 x.n, .int .i64 x.d, .string x.s, .int .i64 vk, .int .i64 vx, .int .u64 vb, .string vs, .slice la ll lc, .int .i64 x.f, .int .u64 (x.c : Int), .int .i64 x.m] : Array Value).toList := fun j v hv => (KB.setCell Bd w' 32 _).cell (hcell j v hv) (by have := HG.out; show g3 ≠ Bd; omega)
      clear hkp5 hD3 hU hD4 hD5 hrun hb4 hrow' rB3 keep3 R3
      refine wp_region_held_drew (S := (fun w' => w'.rangeAt g3 0 (#[.int .i64 x.k, .int .i64 x.t, .int .i64 x.n, .int .i64 x.d, .string x.s, .int .i64 vk, .int .i64 vx, .int .u64 vb, .string vs, .slice la ll lc, .int .i64 x.f, .int .u64 (x.c : Int), .int .i64 x.m] : Array Value).toList)) (by kernel_rfl) gv (fun hHeld => ?_)
      change wpAnyH _ _ _ _ _ _ _ _ (World.drew _)
      refine wpAnyH_take (i := 0) (oi := { dst := some 30, op := Go.Op.move (Go.Operand.tmp 0), type := 78, pos := "plan.go:72", after := #[], guard := none }) (v := ?_) rfl (by kernel_rfl) (by kernel_rfl) (by kernel_rfl) (fun _ _ _ h => h) (Or.inl ⟨by rfl, ?_⟩) hHeld ?_
      rotate_left 1
      · (intro w hSw; (try dsimp only at hSw); go_simp <;> with_reducible rfl)
      simp only [Act.put, List.setIfInBounds_toArray, List.set_cons_zero, List.set_cons_succ]
      refine wpAnyH_take (i := 1) (oi := { dst := some 31, op := Go.Op.move (Go.Operand.tmp 0), type := 78, pos := "plan.go:72", after := #[], guard := none }) (v := ?_) rfl (by kernel_rfl) (by kernel_rfl) (by kernel_rfl) (fun _ _ _ h => h) (Or.inl ⟨by rfl, ?_⟩) hHeld ?_
      rotate_left 1
      · (intro w hSw; (try dsimp only at hSw); go_simp <;> with_reducible rfl)
      simp only [Act.put, List.setIfInBounds_toArray, List.set_cons_zero, List.set_cons_succ]
      refine wpAnyH_take (i := 2) (oi := { dst := some 32, op := Go.Op.nilCheck (Go.Operand.tmp 31), type := 0, pos := "plan.go:72", after := #[{ on := 1, ground := Go.Ground.data }], guard := none }) (v := ?_) rfl (by kernel_rfl) (by kernel_rfl) (by kernel_rfl) (fun _ _ _ h => h) (Or.inl ⟨by rfl, ?_⟩) hHeld ?_
      rotate_left 1
      · (intro w hSw; (try dsimp only at hSw); go_simp <;> with_reducible rfl)
      simp only [Act.put, List.setIfInBounds_toArray, List.set_cons_zero, List.set_cons_succ]
      refine wpAnyH_take (i := 3) (oi := { dst := some 33, op := Go.Op.fieldAddr 68 (Go.Operand.tmp 32) 2, type := 0, pos := "plan.go:72", after := #[{ on := 2, ground := Go.Ground.data }], guard := none }) (v := ?_) rfl (by kernel_rfl) (by kernel_rfl) (by kernel_rfl) (fun _ _ _ h => h) (Or.inl ⟨by rfl, ?_⟩) hHeld ?_
      rotate_left 1
      · (intro w hSw; (try dsimp only at hSw); go_simp <;> with_reducible rfl)
      simp only [Act.put, List.setIfInBounds_toArray, List.set_cons_zero, List.set_cons_succ]
      refine wpAnyH_take (i := 5) (oi := { dst := some 35, op := Go.Op.load 54 (Go.Operand.tmp 3), type := 54, pos := "plan.go:72", after := #[], guard := none }) (v := _) rfl (by kernel_rfl) (by kernel_rfl) (by kernel_rfl) (fun _ _ _ h => h) (yieldsIf_load_mid rfl 54 _ rfl g3 0 rfl (#[.int .i64 x.k, .int .i64 x.t, .int .i64 x.n, .int .i64 x.d, .string x.s, .int .i64 vk, .int .i64 vx, .int .u64 vb, .string vs, .slice la ll lc, .int .i64 x.f, .int .u64 (x.c : Int), .int .i64 x.m] : Array Value).toList _ (fun w h => h) Tryz.underlying54 rfl rfl13) hHeld ?_
      simp only [Act.put, List.setIfInBounds_toArray, List.set_cons_zero, List.set_cons_succ]
      refine wpAnyH_ready (rs := [4, 6]) (by kernel_rfl) (by simp) ?_
      refine AllReadyH.cons (o := { dst := some 34, op := Go.Op.load 44 (Go.Operand.tmp 33), type := 44, pos := "plan.go:72", after := #[{ on := 3, ground := Go.Ground.data }], guard := none }) rfl (fun K hK => ?_) (AllReadyH.cons (o := { dst := some 36, op := Go.Op.buildSlice 44 1 #[(0, Go.Operand.tmp 35)], type := 44, pos := "plan.go:72", after := #[{ on := 5, ground := Go.Ground.data }], guard := none }) rfl (fun K hK => ?_) AllReadyH.nil)
      · go_simp
        refine hK.out _ _ gv (fun hHeld => ?_)
        clear hK K
        refine wpAnyH_ready (rs := [6]) (by kernel_rfl) (by simp) ?_
        refine AllReadyH.cons (o := { dst := some 36, op := Go.Op.buildSlice 44 1 #[(0, Go.Operand.tmp 35)], type := 44, pos := "plan.go:72", after := #[{ on := 5, ground := Go.Ground.data }], guard := none }) rfl (fun K hK => ?_) AllReadyH.nil
        go_simp
        refine hK.out _ _ (fun j v hv => cellW (gv j v hv) HB4.out) (fun hHeld => ?_)
        clear hK K
        refine wpAnyH_ready (rs := [7]) (by kernel_rfl) (by simp) ?_
        refine AllReadyH.cons (o := { dst := some 37, op := Go.Op.call { callee := Go.Callee.builtin Go.Builtin.append, args := #[Go.Operand.tmp 34, Go.Operand.tmp 36], argTypes := #[44, 44] }, type := 44, pos := "plan.go:72", after := #[{ on := 4, ground := Go.Ground.data }, { on := 6, ground := Go.Ground.data }], guard := none }) rfl (fun K hK => ?_) AllReadyH.nil
        rw [if_pos (by rfl)]
        refine Lib.wp_append_run _ _ _ 44 44 rfl _ _ rfl rfl _ _ (HRun.out _) ?_
        refine hK.out _ _ (fun j v hv => hcell j v hv) (fun hHeld => ?_)
        clear hK K
        refine wpAnyH_take (i := 8) (oi := { dst := some 38, op := Go.Op.nilCheck (Go.Operand.tmp 30), type := 0, pos := "plan.go:72", after := #[{ on := 0, ground := Go.Ground.data }, { on := 0, ground := Go.Ground.phase }, { on := 1, ground := Go.Ground.phase }, { on := 2, ground := Go.Ground.phase }, { on := 3, ground := Go.Ground.phase }, { on := 4, ground := Go.Ground.phase }, { on := 5, ground := Go.Ground.phase }, { on := 6, ground := Go.Ground.phase }, { on := 7, ground := Go.Ground.phase }], guard := none }) (v := ?_) rfl (by kernel_rfl) (by kernel_rfl) (by kernel_rfl) (fun _ _ _ h => h) (Or.inl ⟨by rfl, ?_⟩) hHeld ?_
        rotate_left 1
        · (intro w hSw; (try dsimp only at hSw); go_simp <;> with_reducible rfl)
        simp only [Act.put, List.setIfInBounds_toArray, List.set_cons_zero, List.set_cons_succ]
        refine wpAnyH_take (i := 9) (oi := { dst := some 39, op := Go.Op.fieldAddr 68 (Go.Operand.tmp 38) 2, type := 0, pos := "plan.go:72", after := #[{ on := 8, ground := Go.Ground.data }, { on := 0, ground := Go.Ground.phase }, { on := 1, ground := Go.Ground.phase }, { on := 2, ground := Go.Ground.phase }, { on := 3, ground := Go.Ground.phase }, { on := 4, ground := Go.Ground.phase }, { on := 5, ground := Go.Ground.phase }, { on := 6, ground := Go.Ground.phase }, { on := 7, ground := Go.Ground.phase }], guard := none }) (v := ?_) rfl (by kernel_rfl) (by kernel_rfl) (by kernel_rfl) (fun _ _ _ h => h) (Or.inl ⟨by rfl, ?_⟩) hHeld ?_
        rotate_left 1
        · (intro w hSw; (try dsimp only at hSw); go_simp <;> with_reducible rfl)
        simp only [Act.put, List.setIfInBounds_toArray, List.set_cons_zero, List.set_cons_succ]
        refine wpAnyH_ready (rs := [10]) (by kernel_rfl) (by simp) ?_
        refine AllReadyH.cons (o := { dst := none, op := Go.Op.store 44 (Go.Operand.tmp 39) (Go.Operand.tmp 37), type := 0, pos := "plan.go:72", after := #[{ on := 9, ground := Go.Ground.data }, { on := 7, ground := Go.Ground.data }, { on := 7, ground := Go.Ground.chain }, { on := 0, ground := Go.Ground.phase }, { on := 1, ground := Go.Ground.phase }, { on := 2, ground := Go.Ground.phase }, { on := 3, ground := Go.Ground.phase }, { on := 4, ground := Go.Ground.phase }, { on := 5, ground := Go.Ground.phase }, { on := 6, ground := Go.Ground.phase }, { on := 7, ground := Go.Ground.phase }], guard := none }) rfl (fun K hK => ?_) AllReadyH.nil
        go_simp
        refine hK.out _ _ (fun j v hv => hcell2 j v hv) (fun hHeld => ?_)
        clear hK K
        refine wpAnyH_done (by kernel_rfl) ?_ _
        go_wp2_with fail
        exact HQ0.out _ HD9.out HB9.out
      · go_simp
        refine hK.out _ _ (fun j v hv => cellW (gv j v hv) HB4.out) (fun hHeld => ?_)
        clear hK K
        refine wpAnyH_ready (rs := [4]) (by kernel_rfl) (by simp) ?_
        refine AllReadyH.cons (o := { dst := some 34, op := Go.Op.load 44 (Go.Operand.tmp 33), type := 44, pos := "plan.go:72", after := #[{ on := 3, ground := Go.Ground.data }], guard := none }) rfl (fun K hK => ?_) AllReadyH.nil
        go_simp
        refine hK.out _ _ (fun j v hv => cellW (gv j v hv) HB4.out) (fun hHeld => ?_)
        clear hK K
        refine wpAnyH_ready (rs := [7]) (by kernel_rfl) (by simp) ?_
        refine AllReadyH.cons (o := { dst := some 37, op := Go.Op.call { callee := Go.Callee.builtin Go.Builtin.append, args := #[Go.Operand.tmp 34, Go.Operand.tmp 36], argTypes := #[44, 44] }, type := 44, pos := "plan.go:72", after := #[{ on := 4, ground := Go.Ground.data }, { on := 6, ground := Go.Ground.data }], guard := none }) rfl (fun K hK => ?_) AllReadyH.nil
        rw [if_pos (by rfl)]
        refine Lib.wp_append_run _ _ _ 44 44 rfl _ _ rfl rfl _ _ (HRun.out _) ?_
        refine hK.out _ _ (fun j v hv => hcell j v hv) (fun hHeld => ?_)
        clear hK K
        refine wpAnyH_take (i := 8) (oi := { dst := some 38, op := Go.Op.nilCheck (Go.Operand.tmp 30), type := 0, pos := "plan.go:72", after := #[{ on := 0, ground := Go.Ground.data }, { on := 0, ground := Go.Ground.phase }, { on := 1, ground := Go.Ground.phase }, { on := 2, ground := Go.Ground.phase }, { on := 3, ground := Go.Ground.phase }, { on := 4, ground := Go.Ground.phase }, { on := 5, ground := Go.Ground.phase }, { on := 6, ground := Go.Ground.phase }, { on := 7, ground := Go.Ground.phase }], guard := none }) (v := ?_) rfl (by kernel_rfl) (by kernel_rfl) (by kernel_rfl) (fun _ _ _ h => h) (Or.inl ⟨by rfl, ?_⟩) hHeld ?_
        rotate_left 1
        · (intro w hSw; (try dsimp only at hSw); go_simp <;> with_reducible rfl)
        simp only [Act.put, List.setIfInBounds_toArray, List.set_cons_zero, List.set_cons_succ]
        refine wpAnyH_take (i := 9) (oi := { dst := some 39, op := Go.Op.fieldAddr 68 (Go.Operand.tmp 38) 2, type := 0, pos := "plan.go:72", after := #[{ on := 8, ground := Go.Ground.data }, { on := 0, ground := Go.Ground.phase }, { on := 1, ground := Go.Ground.phase }, { on := 2, ground := Go.Ground.phase }, { on := 3, ground := Go.Ground.phase }, { on := 4, ground := Go.Ground.phase }, { on := 5, ground := Go.Ground.phase }, { on := 6, ground := Go.Ground.phase }, { on := 7, ground := Go.Ground.phase }], guard := none }) (v := ?_) rfl (by kernel_rfl) (by kernel_rfl) (by kernel_rfl) (fun _ _ _ h => h) (Or.inl ⟨by rfl, ?_⟩) hHeld ?_
        rotate_left 1
        · (intro w hSw; (try dsimp only at hSw); go_simp <;> with_reducible rfl)
        simp only [Act.put, List.setIfInBounds_toArray, List.set_cons_zero, List.set_cons_succ]
        refine wpAnyH_ready (rs := [10]) (by kernel_rfl) (by simp) ?_
        refine AllReadyH.cons (o := { dst := none, op := Go.Op.store 44 (Go.Operand.tmp 39) (Go.Operand.tmp 37), type := 0, pos := "plan.go:72", after := #[{ on := 9, ground := Go.Ground.data }, { on := 7, ground := Go.Ground.data }, { on := 7, ground := Go.Ground.chain }, { on := 0, ground := Go.Ground.phase }, { on := 1, ground := Go.Ground.phase }, { on := 2, ground := Go.Ground.phase }, { on := 3, ground := Go.Ground.phase }, { on := 4, ground := Go.Ground.phase }, { on := 5, ground := Go.Ground.phase }, { on := 6, ground := Go.Ground.phase }, { on := 7, ground := Go.Ground.phase }], guard := none }) rfl (fun K hK => ?_) AllReadyH.nil
        go_simp
        refine hK.out _ _ (fun j v hv => hcell2 j v hv) (fun hHeld => ?_)
        clear hK K
        refine wpAnyH_done (by kernel_rfl) ?_ _
        go_wp2_with fail
        exact HQ0.out _ HD9.out HB9.out
    · have HC : Hid (code ≠ 0) := hcode
      have HN : Hid (∀ s2, ¬ StR (n + 1) d.s x s2 0) := fun s2 h2 => HC.out (HJ.out.2.1.det (by rw [← HS.out]; exact h2)).1
      have hce : (code == 0) = false := by simpa using hcode
      have HBl : Hid (Below lo w wc) := (b0.out.trans (HJ.out.2.2.2.mono b0.out.size)).mono (by have := HL.out; omega)
      by_cases h7 : code = 7
      · subst h7
        clear hcode hce
        go_wp2_with fail
        exact HQ1.out 7 _ (by decide) HN.out HBl.out
      · have h7e : (code == 7) = false := by simpa using h7
        clear hcode h7
        go_wp2_with fail
        exact HQ1.out 18 _ (by decide) HN.out HBl.out
end Go.Proofs.YtcdhlklmnnmpoaaGreat
