/- The contracts of take and of Plan. -/
import Derived.Test.YtcdhlklmnnmpoaaGreatCX
namespace Go.Proofs.YtcdhlklmnnmpoaaGreat
open Go.ChangeShapes Go.WideShapes Go.ChangeAt Go.RowKit
theorem nil4 (s : ByteArray) (t : Int) (w : World) : (nilAhead 277 96 (.agg #[.string s, .int .i64 t]) "usher/command.event").run Tryz.prog w = .ok (some false) w := by kernel_rfl
theorem nil5 (s : ByteArray) (w : World) : (nilAhead 277 98 (.agg #[.string s]) "usher/command.event").run Tryz.prog w = .ok (some false) w := by kernel_rfl
theorem nilN (v : Value) (w : World) : (nilAhead 277 100 v "usher/command.event").run Tryz.prog w = .ok (some false) w := by kernel_rfl
theorem meth4 (s : ByteArray) (t : Int) (w : World) : (method 277 96 (.agg #[.string s, .int .i64 t]) "usher/command.event").run Tryz.prog w = .ok (145, .agg #[.string s, .int .i64 t]) w := by kernel_rfl
theorem meth5 (s : ByteArray) (w : World) : (method 277 98 (.agg #[.string s]) "usher/command.event").run Tryz.prog w = .ok (149, .agg #[.string s]) w := by kernel_rfl
theorem methN (v : Value) (w : World) : (method 277 100 v "usher/command.event").run Tryz.prog w = .ok (151, v) w := by kernel_rfl
theorem rf_zero {cl last fresh : Bool} (h : (0 : Int) = if cl && !last then 18 else if cl && fresh then 17 else 0) : cl = true → last = true ∧ fresh = false := by
  revert h
  cases cl <;> cases last <;> cases fresh <;> decide
theorem rf_ok {cl last fresh : Bool} (h : cl = true → last = true ∧ fresh = false) : (if cl && !last then (18 : Int) else if cl && fresh then 17 else 0) = 0 := by
  revert h
  cases cl <;> cases last <;> cases fresh <;> decide
theorem flat_get {k : Nat} : ∀ {rows : List (Array Value)} {i j : Nat} {r : Array Value} {v : Value}, (∀ (i : Nat) r, rows[i]? = some r → r.size = k) → rows[i]? = some r → r[j]? = some v → (rows.flatMap Array.toList)[i * k + j]? = some v
  | [], i, j, r, v, _, h, _ => by simp at h
  | x :: l, 0, j, r, v, _, h, hj => by
    simp only [List.getElem?_cons_zero, Option.some.injEq] at h
    subst h
    have := (Array.getElem?_eq_some_iff.1 hj).1
    rw [List.flatMap_cons, Nat.zero_mul, Nat.zero_add, List.getElem?_append_left (by simpa using this)]
    simpa using hj
  | x :: l, i + 1, j, r, v, hs, h, hj => by
    have hx := hs 0 x rfl
    rw [List.flatMap_cons, List.getElem?_append_right (by rw [Array.length_toList, hx, Nat.succ_mul]; omega), Array.length_toList, hx, show (i + 1) * k + j - k = i * k + j from by rw [Nat.succ_mul]; omega]
    exact flat_get (fun i r hr => hs (i + 1) r hr) h hj
theorem LkA.at {lo : Nat} {R : Value → Tv → Prop} {w w' : World} {a : Option Addr} {l : List Ak} (h : LkA (fun b => b < lo) R w a l) (hb : Below w.heap.size w w') : LkA (fun _ => True) R w' a l := by
  obtain ⟨rows, h1, h2, h3⟩ := h
  exact ⟨rows, h1, h2.map (fun _ _ _ => trivial) (fun _ _ _ hv => (hb.cell (World.block_lt_of_cell? w _ hv)).trans hv) (by decide), h3⟩
theorem DrI.nms {lo Bd n : Nat} {va : Value} {d : Dr} {w : World} {cs : Array Value} {ve : Value} {ra : Option Addr} {rc : Nat} {es rs : List (Array Value)} (h : DrI lo Bd n va d w cs ve (.slice ra d.rf.length rc) es rs) : Nms w ra d.rf := by
  refine ⟨rs, h.rfn, fun i r hr => ?_, fun i r a hr ha => (h.rfi i r a hr ha).map fun _ _ _ => trivial⟩
  obtain ⟨a, ha⟩ : ∃ a, d.rf[i]? = some a := ⟨_, List.getElem?_eq_getElem (by have := (List.getElem?_eq_some_iff.1 hr).1; have := h.rfn; omega)⟩
  have hi := h.rfi i r a hr ha
  obtain ⟨_, ⟨e, hn0⟩ | ⟨g, cap, cur, e, _, hg, _⟩⟩ := h.rfo
  · exfalso
    have := (List.getElem?_eq_some_iff.1 hr).1
    omega
  · injection e with e1 e2 e3
    refine ⟨hi.size, hi.one, g, 0, e1, trivial, fun j v hj => ?_⟩
    have hf : (rs.flatMap Array.toList)[i * 7 + j]? = some v := flat_get (fun i r hr => by
      obtain ⟨a, ha⟩ : ∃ a, d.rf[i]? = some a := ⟨_, List.getElem?_eq_getElem (by have := (List.getElem?_eq_some_iff.1 hr).1; have := h.rfn; omega)⟩
      exact (h.rfi i r a hr ha).size) hr hj
    have := h.rfo.cells (g := g) (by rw [e1]; rfl) (i * 7 + j) v hf
    rw [add_plain] at this
    rwa [show 0 + (i * 7 + j) = 0 + i * 7 + j from by omega] at this
theorem at8_row {w : World} {g t : Nat} {fr : Nat × Nat} {c0 c1 c2 c3 c4 c5 c6 c7 : Value} (h : w.heap[g]? = some (.cells #[c0, c1, c2, c3, c4, c5, c6, c7] t fr)) : At8 w g c0 c1 c2 c3 c4 c5 c6 c7 := ⟨row_cell h rfl, row_cell h rfl, row_cell h rfl, row_cell h rfl, row_cell h rfl, row_cell h rfl, row_cell h rfl, row_cell h rfl⟩
theorem At8.kb {w w' : World} {g B : Nat} {c0 c1 c2 c3 c4 c5 c6 c7 : Value} (h : At8 w B c0 c1 c2 c3 c4 c5 c6 c7) (hk : KB g w w') (hg : B ≠ g) : At8 w' B c0 c1 c2 c3 c4 c5 c6 c7 := by
  obtain ⟨x0, x1, x2, x3, x4, x5, x6, x7⟩ := h
  exact ⟨hk.cell x0 hg, hk.cell x1 hg, hk.cell x2 hg, hk.cell x3 hg, hk.cell x4 hg, hk.cell x5 hg, hk.cell x6 hg, hk.cell x7 hg⟩
/-- Behind a wish's event. -/
def Jwe (R : Value → Tv → Prop) (r : Wr) (W0 : World) (x10 x11 x12 : Value) (wx : World) : Prop := ∃ (g : Nat) (es : Array Value) (c o : Bool), x10 = .pointer (some ⟨g, 0, none⟩) ∧ x11 = .bool c ∧ x12 = .bool o ∧ wx.heap[g]? = some (.cells es 54 (0, 0)) ∧ W0.heap.size ≤ g ∧ es.size = 13 ∧ (∀ (j : Nat) (v : Value), es[j]? = some v → v.oneCell' = true) ∧ WrR R es c o r ∧ Below W0.heap.size W0 wx
theorem evL_is {R : Value → Tv → Prop} {kk t due : Int} {s : ByteArray} {vk vx vb : Int} {vs : ByteArray} {la : Option Addr} {ll lc : Nat} {tv : Tv} (h : R (.agg #[.int .i64 vk, .int .i64 vx, .int .u64 vb, .string vs, .slice la ll lc]) tv) : IsEv R (evL kk t due s vk vx vb vs la ll lc) ⟨kk, t, 0, due, s, tv, 0, 0, 0⟩ :=
  { size := rfl, c0 := rfl, c1 := rfl, c2 := rfl, c3 := rfl, c4 := rfl, v := ⟨vk, vx, vb, vs, la, ll, lc, rfl, rfl, rfl, rfl, rfl, h⟩, c10 := rfl, c11 := rfl, c12 := rfl }
/-- The event of a command that says all of it. -/
def plE (c : Cm) (t : Int) : Ev := ⟨ekd c.k, t, 0, if c.k = 1 then wrap64 (t + c.d) else 0, c.s, c.v, 0, 0, 0⟩
/-- What comes of a command. -/
def wshR (s : Sta) (asks rf : List Ak) (c : Cm) (t : Int) : Wr := if c.k = 4 then accR c.s t (wtg asks rf c.s) else if c.k = 5 then rejR (wtg asks rf c.s).isSome (decide (0 ≤ upAt s c.s)) else .ev (plE c t)
/-- What it makes of a draft. -/
def wshS (n : Nat) (c : Cm) (d d2 : Dr) : Wr → Prop
  | .no => False
  | .rf => d2 = ⟨d.s, d.ev, d.rf ++ [⟨0, c.s, c.v⟩]⟩
  | .ev x => ∃ s2, StR n d.s x s2 0 ∧ d2 = ⟨s2, d.ev ++ [x], d.rf⟩
theorem wsh_ev {s : Sta} {asks rf : List Ak} {c : Cm} {t : Int} {x : Ev} (h : wshR s asks rf c t = .ev x) : x.c = 0 ∧ (x.v = c.v ∨ ∃ (i : Nat) (a : Ak), asks[i]? = some a ∧ x.v = a.v) := by
  unfold wshR at h
  split at h
  · unfold wtg at h
    split at h
    · cases h
    · cases hf : asks.find? (fun d => eqS d.s c.s) with
      | none => rw [hf] at h; cases h
      | some a =>
        rw [hf] at h
        cases h
        obtain ⟨i, hi⟩ := List.getElem?_of_mem (List.mem_of_find?_eq_some hf)
        exact ⟨rfl, .inr ⟨i, a, hi, rfl⟩⟩
  · split at h
    · unfold rejR at h
      split at h <;> cases h
    · cases h
      exact ⟨rfl, .inl rfl⟩
/-- A command that is taken. -/
def TkS (n : Nat) (asks : List Ak) (last : Bool) (t : Int) (c : Cm) (d d2 : Dr) : Prop := MayC n c ∧ (clo c.k = true → last = true ∧ d.s.fresh = false) ∧ wshS n c d d2 (wshR d.s asks d.rf c t)
def TkP (lo Bd n : Nat) (va : Value) (asks : List Ak) (last : Bool) (t : Int) (c : Cm) (d : Dr) (w : World) (e : Ending) (w' : World) : Prop :=
  (∃ code : Int, e = .returned (.int .i64 code) ∧ ((code = 0 ∧ ∃ d2 cs2 ve2 vr2 es2 rs2, TkS (n + 1) asks last t c d d2 ∧ DrI lo Bd (n + 1) va d2 w' cs2 ve2 vr2 es2 rs2) ∨ (code ≠ 0 ∧ (∀ d2, ¬ TkS (n + 1) asks last t c d d2) ∧ (MayC (n + 1) c → clo c.k = true → last = true → d.s.fresh = true → code = 17)))) ∧ Below lo w w'
set_option maxHeartbeats 8000000 in
set_option maxRecDepth 100000 in
theorem take_calls (lo Bd n : Nat) (aa : Option Addr) (ac : Nat) (asks : List Ak) (tv : Tv) (k : Int) (s : ByteArray) (vk vx vb : Int) (vs : ByteArray) (la : Option Addr) (ll lc : Nat) (d : Int) (last : Bool) (t : Int) (dr : Dr) (cs : Array Value) (ve vr : Value) (es rs : List (Array Value)) (w : World) (h : DrI lo Bd (n + 1) (.slice aa asks.length ac) dr w cs ve vr es rs) (hv : IsP (fun b => b < lo) w (n + 1) (.agg #[.int .i64 vk, .int .i64 vx, .int .u64 vb, .string vs, .slice la ll lc]) tv) (hA : LkA (fun b => b < lo) (IsP (fun b => b < lo) w (n + 1)) w aa asks) (la' : asks.length ≤ 1000) (sa : ∀ (i : Nat) a, asks[i]? = some a → SmallW (n + 1) a.v) (sv : SmallW (n + 1) tv) (hz : SmallW (n + 1) zE) (hn : es.length ≤ 500) (hr : rs.length ≤ 500) :
    Calls Tryz.prog 28 #[.pointer (some ⟨Bd, 0, none⟩), .agg #[.int .i64 k, .string s, .int .i64 vk, .int .i64 vx, .int .u64 vb, .string vs, .slice la ll lc, .int .i64 d], .bool last, .int .i64 t] w (TkP lo Bd n (.slice aa asks.length ac) asks last t ⟨k, s, tv, d⟩ dr w) := by
  have HQ0 : Hid (∀ w', (∃ d2 cs2 ve2 vr2 es2 rs2, TkS (n + 1) asks last t ⟨k, s, tv, d⟩ dr d2 ∧ DrI lo Bd (n + 1) (.slice aa asks.length ac) d2 w' cs2 ve2 vr2 es2 rs2) → Below lo w w' → TkP lo Bd n (.slice aa asks.length ac) asks last t ⟨k, s, tv, d⟩ dr w (.returned (.int .i64 0)) w') := fun w' h1 h2 => ⟨⟨0, rfl, .inl ⟨rfl, h1⟩⟩, h2⟩
  have HQ1 : Hid (∀ code w', code ≠ 0 → (∀ d2, ¬ TkS (n + 1) asks last t ⟨k, s, tv, d⟩ dr d2) → (MayC (n + 1) ⟨k, s, tv, d⟩ → clo k = true → last = true → dr.s.fresh = true → code = 17) → Below lo w w' → TkP lo Bd n (.slice aa asks.length ac) asks last t ⟨k, s, tv, d⟩ dr w (.returned (.int .i64 code)) w') := fun code w' h1 h2 h4 h3 => ⟨⟨code, rfl, .inr ⟨h1, h2, h4⟩⟩, h3⟩
  generalize TkP lo Bd n (.slice aa asks.length ac) asks last t ⟨k, s, tv, d⟩ dr w = Q at HQ0 HQ1 ⊢
  have hcs := h.st.size
  have hi41 : (Tryz.prog.info? 41).map (·.size) = some cs.toList.length := info33l cs hcs
  have HW : Hid (DrI lo Bd (n + 1) (.slice aa asks.length ac) dr w cs ve vr es rs) := h
  have HL : Hid (lo ≤ Bd ∧ Bd < w.heap.size) := ⟨h.lob, h.ltB⟩
  have HV : Hid (IsP (fun b => b < lo) w (n + 1) (.agg #[.int .i64 vk, .int .i64 vx, .int .u64 vb, .string vs, .slice la ll lc]) tv) := hv
  have HA : Hid (LkA (fun b => b < lo) (IsP (fun b => b < lo) w (n + 1)) w aa asks ∧ asks.length ≤ 1000 ∧ (∀ (i : Nat) a, asks[i]? = some a → SmallW (n + 1) a.v) ∧ SmallW (n + 1) tv ∧ SmallW (n + 1) zE ∧ es.length ≤ 500 ∧ rs.length ≤ 500) := ⟨hA, la', sa, sv, hz, hn, hr⟩
  have b0 : Hid (Below w.heap.size w (w.alloc (.cells #[.int .i64 k, .string s, .int .i64 vk, .int .i64 vx, .int .u64 vb, .string vs, .slice la ll lc, .int .i64 d] 27))) := bel1 _ _
  have r5 : (w.alloc (.cells #[.int .i64 k, .string s, .int .i64 vk, .int .i64 vx, .int .u64 vb, .string vs, .slice la ll lc, .int .i64 d] 27)).heap[w.heap.size]? = some (.cells #[.int .i64 k, .string s, .int .i64 vk, .int .i64 vx, .int .u64 vb, .string vs, .slice la ll lc, .int .i64 d] 27 (0, 0)) := heap_alloc_new w _
  have KR : Hid (∀ W, Below (w.alloc (.cells #[.int .i64 k, .string s, .int .i64 vk, .int .i64 vx, .int .u64 vb, .string vs, .slice la ll lc, .int .i64 d] 27)).heap.size (w.alloc (.cells #[.int .i64 k, .string s, .int .i64 vk, .int .i64 vx, .int .u64 vb, .string vs, .slice la ll lc, .int .i64 d] 27)) W → Calls Tryz.prog 40 #[.agg cs, .agg #[.int .i64 k, .string s, .int .i64 vk, .int .i64 vx, .int .u64 vb, .string vs, .slice la ll lc, .int .i64 d], .bool last] W (RuP (MayC (n + 1) ⟨k, s, tv, d⟩) (clo k) last dr.s.fresh W)) := fun W hB => refuse_calls n tv k s vk vx vb vs la ll lc d last dr.s.fresh cs h.st.c21 W (hv.is.below (bel2 b0.out hB))
  have g1 := drf_range hcs (row_below b0.out h.row)
  have g2 := row_range r5
  have HZ : Hid (w.heap.size < (w.alloc (.cells #[.int .i64 k, .string s, .int .i64 vk, .int .i64 vx, .int .u64 vb, .string vs, .slice la ll lc, .int .i64 d] 27)).heap.size) := by show _ < _; simp
  clear h hv hA la' sa sv hz hn hr hcs
  generalize hg5 : w.heap.size = g5 at g2 r5
  have HG5 : Hid (w.heap.size = g5) := hg5
  clear hg5
  go_enter Tryz.func28, Tryz.ntmps28
  go_upto_region 1 with fail
  rw [HG5.out]
  generalize (w.alloc (.cells #[.int .i64 k, .string s, .int .i64 vk, .int .i64 vx, .int .u64 vb, .string vs, .slice la ll lc, .int .i64 d] 27)) = W0 at b0 r5 KR g1 g2 HZ ⊢
  refine wp_region_held_drew (S := (fun w' => w'.rangeAt Bd 0 cs.toList ∧ w'.rangeAt g5 0 (#[.int .i64 k, .string s, .int .i64 vk, .int .i64 vx, .int .u64 vb, .string vs, .slice la ll lc, .int .i64 d] : Array Value).toList)) (by kernel_rfl) ⟨g1, g2⟩ (fun hHeld => ?_)
  change wpAnyH _ _ _ _ _ _ _ _ (World.drew _)
  refine wpAnyH_take (i := 0) (oi := { dst := some 13, op := Go.Op.move (Go.Operand.tmp 0), type := 78, pos := "plan.go:35", after := #[], guard := none }) (v := ?_) rfl (by kernel_rfl) (by kernel_rfl) (by kernel_rfl) (fun _ _ _ h => h) (Or.inl ⟨by rfl, ?_⟩) hHeld ?_
  rotate_left 1
  · (intro w hSw; (try dsimp only at hSw); go_simp <;> with_reducible rfl)
  simp only [Act.put, List.setIfInBounds_toArray, List.set_cons_zero, List.set_cons_succ]
  refine wpAnyH_take (i := 1) (oi := { dst := some 14, op := Go.Op.nilCheck (Go.Operand.tmp 13), type := 0, pos := "plan.go:35", after := #[{ on := 0, ground := Go.Ground.data }], guard := none }) (v := ?_) rfl (by kernel_rfl) (by kernel_rfl) (by kernel_rfl) (fun _ _ _ h => h) (Or.inl ⟨by rfl, ?_⟩) hHeld ?_
  rotate_left 1
  · (intro w hSw; (try dsimp only at hSw); go_simp <;> with_reducible rfl)
  simp only [Act.put, List.setIfInBounds_toArray, List.set_cons_zero, List.set_cons_succ]
  refine wpAnyH_take (i := 2) (oi := { dst := some 15, op := Go.Op.fieldAddr 68 (Go.Operand.tmp 14) 0, type := 0, pos := "plan.go:35", after := #[{ on := 1, ground := Go.Ground.data }], guard := none }) (v := ?_) rfl (by kernel_rfl) (by kernel_rfl) (by kernel_rfl) (fun _ _ _ h => h) (Or.inl ⟨by rfl, ?_⟩) hHeld ?_
  rotate_left 1
  · (intro w hSw; (try dsimp only at hSw); go_simp <;> with_reducible rfl)
  simp only [Act.put, List.setIfInBounds_toArray, List.set_cons_zero, List.set_cons_succ]
  refine wpAnyH_take (i := 3) (oi := { dst := some 16, op := Go.Op.load 41 (Go.Operand.tmp 15), type := 41, pos := "plan.go:35", after := #[{ on := 2, ground := Go.Ground.data }], guard := none }) (v := _) rfl (by kernel_rfl) (by kernel_rfl) (by kernel_rfl) (fun _ _ _ h => h) (yieldsIf_load_mid rfl 41 _ rfl Bd 0 rfl cs.toList _ (fun w h => h.1) Tryz.underlying41 rfl hi41) hHeld ?_
  simp only [Act.put, List.setIfInBounds_toArray, List.set_cons_zero, List.set_cons_succ]
  refine wpAnyH_take (i := 4) (oi := { dst := some 17, op := Go.Op.load 27 (Go.Operand.tmp 5), type := 27, pos := "plan.go:35", after := #[], guard := none }) (v := _) rfl (by kernel_rfl) (by kernel_rfl) (by kernel_rfl) (fun _ _ _ h => h) (yieldsIf_load_mid rfl 27 _ rfl g5 0 rfl (#[.int .i64 k, .string s, .int .i64 vk, .int .i64 vx, .int .u64 vb, .string vs, .slice la ll lc, .int .i64 d] : Array Value).toList _ (fun w h => h.2) Tryz.underlying27 rfl info27s) hHeld ?_
  simp only [Act.put, List.setIfInBounds_toArray, List.set_cons_zero, List.set_cons_succ]
  refine wpAnyH_take (i := 5) (oi := { dst := some 18, op := Go.Op.move (Go.Operand.tmp 2), type := 4, pos := "plan.go:35", after := #[], guard := none }) (v := ?_) rfl (by kernel_rfl) (by kernel_rfl) (by kernel_rfl) (fun _ _ _ h => h) (Or.inl ⟨by rfl, ?_⟩) hHeld ?_
  rotate_left 1
  · (intro w hSw; (try dsimp only at hSw); go_simp <;> with_reducible rfl)
  simp only [Act.put, List.setIfInBounds_toArray, List.set_cons_zero, List.set_cons_succ]
  refine wpAnyH_ready (rs := [6]) (by kernel_rfl) (by simp) ?_
  refine AllReadyH.cons (o := { dst := some 19, op := Go.Op.call { callee := Go.Callee.value (Go.Operand.func 40), args := #[Go.Operand.tmp 16, Go.Operand.tmp 17, Go.Operand.tmp 18], argTypes := #[41, 27, 4] }, type := 29, pos := "plan.go:35", after := #[{ on := 3, ground := Go.Ground.data }, { on := 4, ground := Go.Ground.data }, { on := 5, ground := Go.Ground.data }], guard := none }) rfl (fun K hK => ?_) AllReadyH.nil
  go_simp
  refine (KR.out _ (Below.refl _ W0).drew).mono ?_
  rintro e w1 ⟨⟨r, rfl, hr1, hr2⟩, hb1⟩
  have hb : Below W0.heap.size W0 w1 := bel2 (Below.refl _ W0).drew hb1
  refine hK.out _ _ ⟨fun j v hv => cellW (g1 j v hv) hb, fun j v hv => cellW (g2 j v hv) hb⟩ (fun hHeld => ?_)
  clear hK K
  refine wpAnyH_take (i := 7) (oi := { dst := some 9, op := Go.Op.assign (Go.Operand.tmp 19), type := 29, pos := "plan.go:35", after := #[{ on := 6, ground := Go.Ground.data }, { on := 6, ground := Go.Ground.chain }, { on := 0, ground := Go.Ground.phase }, { on := 1, ground := Go.Ground.phase }, { on := 2, ground := Go.Ground.phase }, { on := 3, ground := Go.Ground.phase }, { on := 4, ground := Go.Ground.phase }, { on := 5, ground := Go.Ground.phase }, { on := 6, ground := Go.Ground.phase }], guard := none }) (v := ?_) rfl (by kernel_rfl) (by kernel_rfl) (by kernel_rfl) (fun _ _ _ h => h) (Or.inl ⟨by rfl, ?_⟩) hHeld ?_
  rotate_left 1
  · (intro w hSw; (try dsimp only at hSw); go_simp <;> with_reducible rfl)
  simp only [Act.put, List.setIfInBounds_toArray, List.set_cons_zero, List.set_cons_succ]
  refine wpAnyH_done (by kernel_rfl) ?_ _
  have HR : Hid ((MayC (n + 1) ⟨k, s, tv, d⟩ → r = if clo k && !last then 18 else if clo k && dr.s.fresh then 17 else 0) ∧ (¬ MayC (n + 1) ⟨k, s, tv, d⟩ → r = 18)) := ⟨hr1, hr2⟩
  have b1 : Hid (Below w.heap.size w w1) := bel2 b0.out hb
  have r5' := row_below hb r5
  clear hr1 hr2 hb hb1 g1 g2 r5 KR
  by_cases hr : r = 0
  · subst hr
    have HM : Hid (MayC (n + 1) ⟨k, s, tv, d⟩ ∧ (clo k = true → last = true ∧ dr.s.fresh = false)) := by
      have h0 := HR.out
      have hm : MayC (n + 1) ⟨k, s, tv, d⟩ := by
        by_cases hm : MayC (n + 1) ⟨k, s, tv, d⟩
        · exact hm
        · have := h0.2 hm; omega
      exact ⟨hm, rf_zero (h0.1 hm)⟩
    clear HR
    go_upto_region 4 with fail
    have h1 := HW.out.below b1.out
    have hds := drf_size h1.st.size (.slice aa asks.length ac) ve vr
    have hi68 : (Tryz.prog.info? 68).map (·.size) = some (drf cs (.slice aa asks.length ac) ve vr).toList.length := by rw [Array.length_toList]; exact info68s _ hds
    have g1 := row_range h1.row
    have g2 := row_range r5'
    obtain ⟨ra, rc, hvr⟩ : ∃ ra rc, vr = .slice ra dr.rf.length rc := by
      obtain ⟨a, c, e⟩ := owns_shape HW.out.rfo
      exact ⟨a, c, by rw [e, HW.out.rfn]⟩
    subst hvr
    have HB : Hid (Below w.heap.size w w1) := b1.out
    have KW : Hid (∀ W, Below w1.heap.size w1 W → Calls Tryz.prog 144 #[.agg (drf cs (.slice aa asks.length ac) ve (.slice ra dr.rf.length rc)), .string s] W (WtP (IsP (fun b => b < lo) w (n + 1)) (wtg asks dr.rf s) W)) := fun W hb => waiting_calls _ s asks dr.rf cs HW.out.st.size aa ra ac rc ve W (HA.out.1.at (bel2 b1.out hb)) ((HW.out.below (bel2 b1.out hb)).nms) HA.out.2.1 (by have := HW.out.rfn; have := HA.out.2.2.2.2.2.2; omega)
    have KU : Hid (∀ W, Below w1.heap.size w1 W → Calls Tryz.prog 150 #[.agg cs, .string s] W (UbP (decide (0 ≤ upAt dr.s s)) W)) := fun W hb => upd_calls (n + 1) cs dr.s s W ((HW.out.below (bel2 b1.out hb)).st.rs) (by have := HW.out.sm.lu; omega) HW.out.sm.sm
    have HDS : Hid ((drf cs (.slice aa asks.length ac) ve (.slice ra dr.rf.length rc)).size = 34 ∧ cs.size = 31) := ⟨hds, h1.st.size⟩
    clear h1 hds
    generalize hva : Value.slice aa asks.length ac = va at g1 hi68 KW HDS HQ0 HQ1 HW
    generalize hvr : Value.slice ra dr.rf.length rc = vr at g1 hi68 KW HDS HW
    have HVV : Hid (vr = .slice ra dr.rf.length rc) := hvr.symm
    clear hva hvr
    go_cut [10, 11, 12] (fun x10 x11 x12 wx => Jwe (IsP (fun b => b < lo) w (n + 1)) (wshR dr.s asks dr.rf ⟨k, s, tv, d⟩ t) w1 x10 x11 x12 wx)
    case first =>
      by_cases hk4 : k = 4
      · subst hk4
        have KV : Hid (∀ W, Below w1.heap.size w1 W → Calls Tryz.prog 145 #[.agg #[.string s, .int .i64 t], .agg (drf cs va ve vr)] W (WsP (IsP (fun b => b < lo) w (n + 1)) (wshR dr.s asks dr.rf ⟨4, s, tv, d⟩ t) W)) := fun W hb => acc_calls _ s t _ _ HDS.out.1 W fun W' hb' => KW.out W' (bel2 hb hb')
        have hnil := nil4 s t
        have hme := meth4 s t
        clear KW KU
        refine wp_region_held_drew (S := (fun w' => w'.rangeAt g5 0 (#[.int .i64 4, .string s, .int .i64 vk, .int .i64 vx, .int .u64 vb, .string vs, .slice la ll lc, .int .i64 d] : Array Value).toList ∧ w'.rangeAt Bd 0 (drf cs va ve vr).toList)) (by kernel_rfl) ⟨g2, g1⟩ (fun hHeld => ?_)
        change wpAnyH _ _ _ _ _ _ _ _ (World.drew _)
        refine wpAnyH_take (i := 0) (oi := { dst := some 24, op := Go.Op.load 27 (Go.Operand.tmp 5), type := 27, pos := "plan.go:38", after := #[], guard := none }) (v := _) rfl (by kernel_rfl) (by kernel_rfl) (by kernel_rfl) (fun _ _ _ h => h) (yieldsIf_load_mid rfl 27 _ rfl g5 0 rfl (#[.int .i64 4, .string s, .int .i64 vk, .int .i64 vx, .int .u64 vb, .string vs, .slice la ll lc, .int .i64 d] : Array Value).toList _ (fun w h => h.1) Tryz.underlying27 rfl info27s) hHeld ?_
        simp only [Act.put, List.setIfInBounds_toArray, List.set_cons_zero, List.set_cons_succ]
        refine wpAnyH_take (i := 1) (oi := { dst := some 25, op := Go.Op.move (Go.Operand.tmp 3), type := 3, pos := "plan.go:38", after := #[], guard := none }) (v := ?_) rfl (by kernel_rfl) (by kernel_rfl) (by kernel_rfl) (fun _ _ _ h => h) (Or.inl ⟨by rfl, ?_⟩) hHeld ?_
        rotate_left 1
        · (intro w hSw; (try dsimp only at hSw); go_simp <;> with_reducible rfl)
        simp only [Act.put, List.setIfInBounds_toArray, List.set_cons_zero, List.set_cons_succ]
        refine wpAnyH_take (i := 3) (oi := { dst := some 27, op := Go.Op.move (Go.Operand.tmp 0), type := 78, pos := "plan.go:38", after := #[], guard := none }) (v := ?_) rfl (by kernel_rfl) (by kernel_rfl) (by kernel_rfl) (fun _ _ _ h => h) (Or.inl ⟨by rfl, ?_⟩) hHeld ?_
        rotate_left 1
        · (intro w hSw; (try dsimp only at hSw); go_simp <;> with_reducible rfl)
        simp only [Act.put, List.setIfInBounds_toArray, List.set_cons_zero, List.set_cons_succ]
        refine wpAnyH_take (i := 4) (oi := { dst := some 28, op := Go.Op.nilCheck (Go.Operand.tmp 27), type := 0, pos := "plan.go:38", after := #[{ on := 3, ground := Go.Ground.data }], guard := none }) (v := ?_) rfl (by kernel_rfl) (by kernel_rfl) (by kernel_rfl) (fun _ _ _ h => h) (Or.inl ⟨by rfl, ?_⟩) hHeld ?_
        rotate_left 1
        · (intro w hSw; (try dsimp only at hSw); go_simp <;> with_reducible rfl)
        simp only [Act.put, List.setIfInBounds_toArray, List.set_cons_zero, List.set_cons_succ]
        refine wpAnyH_take (i := 5) (oi := { dst := some 29, op := Go.Op.load 68 (Go.Operand.tmp 28), type := 68, pos := "plan.go:38", after := #[{ on := 4, ground := Go.Ground.data }], guard := none }) (v := _) rfl (by kernel_rfl) (by kernel_rfl) (by kernel_rfl) (fun _ _ _ h => h) (yieldsIf_load_mid rfl 68 _ rfl Bd 0 rfl (drf cs va ve vr).toList _ (fun w h => h.2) Tryz.underlying68 rfl hi68) hHeld ?_
        simp only [Act.put, List.setIfInBounds_toArray, List.set_cons_zero, List.set_cons_succ]
        refine wpAnyH_ready (rs := [2, 14]) (by kernel_rfl) (by simp) ?_
        refine AllReadyH.cons (o := { dst := some 26, op := Go.Op.call { callee := Go.Callee.value (Go.Operand.func 41), args := #[Go.Operand.tmp 24, Go.Operand.tmp 25], argTypes := #[27, 3] }, type := 82, pos := "plan.go:38", after := #[{ on := 0, ground := Go.Ground.data }, { on := 1, ground := Go.Ground.data }], guard := none }) rfl (fun K hK => ?_) (AllReadyH.cons (o := { dst := some 10, op := Go.Op.alloc 54, type := 0, pos := "plan.go:38", after := #[], guard := none }) rfl (fun K hK => ?_) AllReadyH.nil)
        · go_simp
          refine (wish4_calls 4 s vk vx vb vs la ll lc d t rfl _).mono ?_
          rintro e w2 ⟨rfl, hb1⟩
          have hb : Below w1.heap.size w1 w2 := bel2 (Below.refl _ w1).drew hb1
          refine hK.out _ _ ⟨fun j v hv => cellW (g2 j v hv) hb, fun j v hv => cellW (g1 j v hv) hb⟩ (fun hHeld => ?_)
          clear hK K
          refine wpAnyH_take (i := 6) (oi := { dst := some 30, op := Go.Op.makeFunc (Go.Fn.method "usher/command.event") #[Go.Operand.tmp 26] #[], type := 84, pos := "plan.go:38", after := #[{ on := 2, ground := Go.Ground.data }], guard := none }) (v := ?_) rfl (by kernel_rfl) (by kernel_rfl) (by kernel_rfl) (fun _ _ _ h => h) (Or.inl ⟨by rfl, ?_⟩) hHeld ?_
          rotate_left 1
          · (intro w hSw; (try dsimp only at hSw); go_simp <;> with_reducible rfl)
          simp only [Act.put, List.setIfInBounds_toArray, List.set_cons_zero, List.set_cons_succ]
          refine wpAnyH_take (i := 7) (oi := { dst := some 31, op := Go.Op.nilCheck (Go.Operand.tmp 30), type := 84, pos := "plan.go:38", after := #[{ on := 6, ground := Go.Ground.data }], guard := none }) (v := ?_) rfl (by kernel_rfl) (by kernel_rfl) (by kernel_rfl) (fun _ _ _ h => h) (Or.inl ⟨by rfl, ?_⟩) hHeld ?_
          rotate_left 1
          · (intro w hSw; (try dsimp only at hSw); go_simp <;> with_reducible rfl)
          simp only [Act.put, List.setIfInBounds_toArray, List.set_cons_zero, List.set_cons_succ]
          refine wpAnyH_take (i := 8) (oi := { dst := some 32, op := Go.Op.move (Go.Operand.tmp 26), type := 82, pos := "plan.go:38", after := #[{ on := 2, ground := Go.Ground.data }, { on := 6, ground := Go.Ground.data }, { on := 7, ground := Go.Ground.data }], guard := none }) (v := ?_) rfl (by kernel_rfl) (by kernel_rfl) (by kernel_rfl) (fun _ _ _ h => h) (Or.inl ⟨by rfl, ?_⟩) hHeld ?_
          rotate_left 1
          · (intro w hSw; (try dsimp only at hSw); go_simp <;> with_reducible rfl)
          simp only [Act.put, List.setIfInBounds_toArray, List.set_cons_zero, List.set_cons_succ]
          refine wpAnyH_ready (rs := [9, 14]) (by kernel_rfl) (by simp) ?_
          refine AllReadyH.cons (o := { dst := some 33, op := Go.Op.call { callee := Go.Callee.invoke (Go.Operand.tmp 32) "usher/command.event", args := #[Go.Operand.tmp 29], argTypes := #[68] }, type := 80, pos := "plan.go:38", after := #[{ on := 8, ground := Go.Ground.data }, { on := 5, ground := Go.Ground.data }, { on := 2, ground := Go.Ground.chain }], guard := none }) rfl (fun K hK => ?_) (AllReadyH.cons (o := { dst := some 10, op := Go.Op.alloc 54, type := 0, pos := "plan.go:38", after := #[], guard := none }) rfl (fun K hK => ?_) AllReadyH.nil)
          · go_simp
            refine (KV.out _ hb).mono ?_
            rintro e w3 ⟨⟨es3, c3, o3, rfl, hs3, ho3, hw3⟩, hb3⟩
            have hbb : Below w1.heap.size w1 w3 := bel2 hb hb3
            have hi3 := info46s es3 hs3
            have z3 : zV13.size = es3.size := hs3.symm
            have a3 := all_one ho3
            refine hK.out _ _ ⟨fun j v hv => cellW (g2 j v hv) hbb, fun j v hv => cellW (g1 j v hv) hbb⟩ (fun hHeld => ?_)
            clear hK K
            refine wpAnyH_take (i := 10) (oi := { dst := some 23, op := Go.Op.move (Go.Operand.tmp 33), type := 80, pos := "plan.go:38", after := #[{ on := 9, ground := Go.Ground.data }], guard := none }) (v := ?_) rfl (by kernel_rfl) (by kernel_rfl) (by kernel_rfl) (fun _ _ _ h => h) (Or.inl ⟨by rfl, ?_⟩) hHeld ?_
            rotate_left 1
            · (intro w hSw; (try dsimp only at hSw); go_simp <;> with_reducible rfl)
            simp only [Act.put, List.setIfInBounds_toArray, List.set_cons_zero, List.set_cons_succ]
            refine wpAnyH_take (i := 11) (oi := { dst := some 34, op := Go.Op.extract (Go.Operand.tmp 23) 0, type := 54, pos := "plan.go:38", after := #[{ on := 10, ground := Go.Ground.data }], guard := none }) (v := ?_) rfl (by kernel_rfl) (by kernel_rfl) (by kernel_rfl) (fun _ _ _ h => h) (Or.inl ⟨by rfl, ?_⟩) hHeld ?_
            rotate_left 1
            · (intro w hSw; (try dsimp only at hSw); go_simp <;> with_reducible rfl)
            simp only [Act.put, List.setIfInBounds_toArray, List.set_cons_zero, List.set_cons_succ]
            refine wpAnyH_take (i := 12) (oi := { dst := some 35, op := Go.Op.extract (Go.Operand.tmp 23) 1, type := 4, pos := "plan.go:38", after := #[{ on := 10, ground := Go.Ground.data }, { on := 15, ground := Go.Ground.gcOnly Go.Departure.lateStores }], guard := none }) (v := ?_) rfl (by kernel_rfl) (by kernel_rfl) (by kernel_rfl) (fun _ _ _ h => h) (Or.inl ⟨by rfl, ?_⟩) hHeld ?_
            rotate_left 1
            · (intro w hSw; (try dsimp only at hSw); go_simp <;> with_reducible rfl)
            simp only [Act.put, List.setIfInBounds_toArray, List.set_cons_zero, List.set_cons_succ]
            refine wpAnyH_take (i := 13) (oi := { dst := some 36, op := Go.Op.extract (Go.Operand.tmp 23) 2, type := 4, pos := "plan.go:38", after := #[{ on := 10, ground := Go.Ground.data }, { on := 16, ground := Go.Ground.gcOnly Go.Departure.lateStores }], guard := none }) (v := ?_) rfl (by kernel_rfl) (by kernel_rfl) (by kernel_rfl) (fun _ _ _ h => h) (Or.inl ⟨by rfl, ?_⟩) hHeld ?_
            rotate_left 1
            · (intro w hSw; (try dsimp only at hSw); go_simp <;> with_reducible rfl)
            simp only [Act.put, List.setIfInBounds_toArray, List.set_cons_zero, List.set_cons_succ]
            refine wpAnyH_ready (rs := [14]) (by kernel_rfl) (by simp) ?_
            refine AllReadyH.cons (o := { dst := some 10, op := Go.Op.alloc 54, type := 0, pos := "plan.go:38", after := #[], guard := none }) rfl (fun K hK => ?_) AllReadyH.nil
            go_simp
            refine hK.out _ _ ⟨fun j v hv => cellW (g2 j v hv) (bel2 hbb (bel1 _ _)), fun j v hv => cellW (g1 j v hv) (bel2 hbb (bel1 _ _))⟩ (fun hHeld => ?_)
            clear hK K
            have n3 : (w3.alloc (.cells zV13 54)).heap[w3.heap.size]? = some (.cells zV13 54 (0, 0)) := heap_alloc_new w3 _
            refine wpAnyH_ready (rs := [15]) (by kernel_rfl) (by simp) ?_
            refine AllReadyH.cons (o := { dst := none, op := Go.Op.store 54 (Go.Operand.tmp 10) (Go.Operand.tmp 34), type := 0, pos := "plan.go:38", after := #[{ on := 14, ground := Go.Ground.data }, { on := 11, ground := Go.Ground.data }, { on := 9, ground := Go.Ground.chain }, { on := 0, ground := Go.Ground.phase }, { on := 1, ground := Go.Ground.phase }, { on := 2, ground := Go.Ground.phase }, { on := 3, ground := Go.Ground.phase }, { on := 4, ground := Go.Ground.phase }, { on := 5, ground := Go.Ground.phase }, { on := 6, ground := Go.Ground.phase }, { on := 7, ground := Go.Ground.phase }, { on := 8, ground := Go.Ground.phase }, { on := 9, ground := Go.Ground.phase }, { on := 10, ground := Go.Ground.phase }, { on := 11, ground := Go.Ground.phase }, { on := 12, ground := Go.Ground.textOnly Go.Departure.lateStores }, { on := 13, ground := Go.Ground.textOnly Go.Departure.lateStores }, { on := 14, ground := Go.Ground.phase }], guard := none }) rfl (fun K hK => ?_) AllReadyH.nil
            rw [if_pos (by rfl)]
            refine wp_store_row 54 _ _ rfl w3.heap.size es3 rfl rfl 54 zV13 n3 hi3 z3 a3 ?_
            refine hK.out _ _ ⟨fun j v hv => cellW (g2 j v hv) (below_setRow (bel2 hbb (bel1 _ _)) hbb.size _), fun j v hv => cellW (g1 j v hv) (below_setRow (bel2 hbb (bel1 _ _)) hbb.size _)⟩ (fun hHeld => ?_)
            clear hK K
            refine wpAnyH_take (i := 16) (oi := { dst := some 11, op := Go.Op.assign (Go.Operand.tmp 35), type := 4, pos := "plan.go:38", after := #[{ on := 12, ground := Go.Ground.data }, { on := 15, ground := Go.Ground.chain }, { on := 0, ground := Go.Ground.phase }, { on := 1, ground := Go.Ground.phase }, { on := 2, ground := Go.Ground.phase }, { on := 3, ground := Go.Ground.phase }, { on := 4, ground := Go.Ground.phase }, { on := 5, ground := Go.Ground.phase }, { on := 6, ground := Go.Ground.phase }, { on := 7, ground := Go.Ground.phase }, { on := 8, ground := Go.Ground.phase }, { on := 9, ground := Go.Ground.phase }, { on := 10, ground := Go.Ground.phase }, { on := 11, ground := Go.Ground.phase }, { on := 12, ground := Go.Ground.phase }, { on := 13, ground := Go.Ground.textOnly Go.Departure.lateStores }, { on := 14, ground := Go.Ground.phase }, { on := 15, ground := Go.Ground.phase }], guard := none }) (v := ?_) rfl (by kernel_rfl) (by kernel_rfl) (by kernel_rfl) (fun _ _ _ h => h) (Or.inl ⟨by rfl, ?_⟩) hHeld ?_
            rotate_left 1
            · (intro w hSw; (try dsimp only at hSw); go_simp <;> with_reducible rfl)
            simp only [Act.put, List.setIfInBounds_toArray, List.set_cons_zero, List.set_cons_succ]
            refine wpAnyH_take (i := 17) (oi := { dst := some 12, op := Go.Op.assign (Go.Operand.tmp 36), type := 4, pos := "plan.go:38", after := #[{ on := 13, ground := Go.Ground.data }, { on := 16, ground := Go.Ground.chain }, { on := 0, ground := Go.Ground.phase }, { on := 1, ground := Go.Ground.phase }, { on := 2, ground := Go.Ground.phase }, { on := 3, ground := Go.Ground.phase }, { on := 4, ground := Go.Ground.phase }, { on := 5, ground := Go.Ground.phase }, { on := 6, ground := Go.Ground.phase }, { on := 7, ground := Go.Ground.phase }, { on := 8, ground := Go.Ground.phase }, { on := 9, ground := Go.Ground.phase }, { on := 10, ground := Go.Ground.phase }, { on := 11, ground := Go.Ground.phase }, { on := 12, ground := Go.Ground.phase }, { on := 13, ground := Go.Ground.phase }, { on := 14, ground := Go.Ground.phase }, { on := 15, ground := Go.Ground.phase }, { on := 16, ground := Go.Ground.phase }], guard := none }) (v := ?_) rfl (by kernel_rfl) (by kernel_rfl) (by kernel_rfl) (fun _ _ _ h => h) (Or.inl ⟨by rfl, ?_⟩) hHeld ?_
            rotate_left 1
            · (intro w hSw; (try dsimp only at hSw); go_simp <;> with_reducible rfl)
            simp only [Act.put, List.setIfInBounds_toArray, List.set_cons_zero, List.set_cons_succ]
            refine wpAnyH_done (by kernel_rfl) ?_ _
            go_wp2_with fail
            go_meet
            exact ⟨_, es3, c3, o3, rfl, rfl, rfl, setRow_heap _ _ zV13 es3 54 (0, 0) n3, hbb.size, hs3, ho3, hw3, below_setRow (bel2 hbb (bel1 _ _)) hbb.size _⟩
          · go_simp
            have hba : Below w1.heap.size w1 (w2.alloc (.cells zV13 54)) := bel2 hb (bel1 _ _)
            refine hK.out _ _ ⟨fun j v hv => cellW (g2 j v hv) hba, fun j v hv => cellW (g1 j v hv) hba⟩ (fun hHeld => ?_)
            clear hK K
            refine wpAnyH_ready (rs := [9]) (by kernel_rfl) (by simp) ?_
            refine AllReadyH.cons (o := { dst := some 33, op := Go.Op.call { callee := Go.Callee.invoke (Go.Operand.tmp 32) "usher/command.event", args := #[Go.Operand.tmp 29], argTypes := #[68] }, type := 80, pos := "plan.go:38", after := #[{ on := 8, ground := Go.Ground.data }, { on := 5, ground := Go.Ground.data }, { on := 2, ground := Go.Ground.chain }], guard := none }) rfl (fun K hK => ?_) AllReadyH.nil
            go_simp
            refine (KV.out _ hba).mono ?_
            rintro e w3 ⟨⟨es3, c3, o3, rfl, hs3, ho3, hw3⟩, hb3⟩
            have hbb : Below w1.heap.size w1 w3 := bel2 hba hb3
            have hi3 := info46s es3 hs3
            have z3 : zV13.size = es3.size := hs3.symm
            have a3 := all_one ho3
            have n3 : w3.heap[w2.heap.size]? = some (.cells zV13 54 (0, 0)) := row_below hb3 (heap_alloc_new _ _)
            refine hK.out _ _ ⟨fun j v hv => cellW (g2 j v hv) hbb, fun j v hv => cellW (g1 j v hv) hbb⟩ (fun hHeld => ?_)
            clear hK K
            refine wpAnyH_take (i := 10) (oi := { dst := some 23, op := Go.Op.move (Go.Operand.tmp 33), type := 80, pos := "plan.go:38", after := #[{ on := 9, ground := Go.Ground.data }], guard := none }) (v := ?_) rfl (by kernel_rfl) (by kernel_rfl) (by kernel_rfl) (fun _ _ _ h => h) (Or.inl ⟨by rfl, ?_⟩) hHeld ?_
            rotate_left 1
            · (intro w hSw; (try dsimp only at hSw); go_simp <;> with_reducible rfl)
            simp only [Act.put, List.setIfInBounds_toArray, List.set_cons_zero, List.set_cons_succ]
            refine wpAnyH_take (i := 11) (oi := { dst := some 34, op := Go.Op.extract (Go.Operand.tmp 23) 0, type := 54, pos := "plan.go:38", after := #[{ on := 10, ground := Go.Ground.data }], guard := none }) (v := ?_) rfl (by kernel_rfl) (by kernel_rfl) (by kernel_rfl) (fun _ _ _ h => h) (Or.inl ⟨by rfl, ?_⟩) hHeld ?_
            rotate_left 1
            · (intro w hSw; (try dsimp only at hSw); go_simp <;> with_reducible rfl)
            simp only [Act.put, List.setIfInBounds_toArray, List.set_cons_zero, List.set_cons_succ]
            refine wpAnyH_take (i := 12) (oi := { dst := some 35, op := Go.Op.extract (Go.Operand.tmp 23) 1, type := 4, pos := "plan.go:38", after := #[{ on := 10, ground := Go.Ground.data }, { on := 15, ground := Go.Ground.gcOnly Go.Departure.lateStores }], guard := none }) (v := ?_) rfl (by kernel_rfl) (by kernel_rfl) (by kernel_rfl) (fun _ _ _ h => h) (Or.inl ⟨by rfl, ?_⟩) hHeld ?_
            rotate_left 1
            · (intro w hSw; (try dsimp only at hSw); go_simp <;> with_reducible rfl)
            simp only [Act.put, List.setIfInBounds_toArray, List.set_cons_zero, List.set_cons_succ]
            refine wpAnyH_take (i := 13) (oi := { dst := some 36, op := Go.Op.extract (Go.Operand.tmp 23) 2, type := 4, pos := "plan.go:38", after := #[{ on := 10, ground := Go.Ground.data }, { on := 16, ground := Go.Ground.gcOnly Go.Departure.lateStores }], guard := none }) (v := ?_) rfl (by kernel_rfl) (by kernel_rfl) (by kernel_rfl) (fun _ _ _ h => h) (Or.inl ⟨by rfl, ?_⟩) hHeld ?_
            rotate_left 1
            · (intro w hSw; (try dsimp only at hSw); go_simp <;> with_reducible rfl)
            simp only [Act.put, List.setIfInBounds_toArray, List.set_cons_zero, List.set_cons_succ]
            refine wpAnyH_ready (rs := [15]) (by kernel_rfl) (by simp) ?_
            refine AllReadyH.cons (o := { dst := none, op := Go.Op.store 54 (Go.Operand.tmp 10) (Go.Operand.tmp 34), type := 0, pos := "plan.go:38", after := #[{ on := 14, ground := Go.Ground.data }, { on := 11, ground := Go.Ground.data }, { on := 9, ground := Go.Ground.chain }, { on := 0, ground := Go.Ground.phase }, { on := 1, ground := Go.Ground.phase }, { on := 2, ground := Go.Ground.phase }, { on := 3, ground := Go.Ground.phase }, { on := 4, ground := Go.Ground.phase }, { on := 5, ground := Go.Ground.phase }, { on := 6, ground := Go.Ground.phase }, { on := 7, ground := Go.Ground.phase }, { on := 8, ground := Go.Ground.phase }, { on := 9, ground := Go.Ground.phase }, { on := 10, ground := Go.Ground.phase }, { on := 11, ground := Go.Ground.phase }, { on := 12, ground := Go.Ground.textOnly Go.Departure.lateStores }, { on := 13, ground := Go.Ground.textOnly Go.Departure.lateStores }, { on := 14, ground := Go.Ground.phase }], guard := none }) rfl (fun K hK => ?_) AllReadyH.nil
            rw [if_pos (by rfl)]
            refine wp_store_row 54 _ _ rfl w2.heap.size es3 rfl rfl 54 zV13 n3 hi3 z3 a3 ?_
            refine hK.out _ _ ⟨fun j v hv => cellW (g2 j v hv) (below_setRow hbb hb.size _), fun j v hv => cellW (g1 j v hv) (below_setRow hbb hb.size _)⟩ (fun hHeld => ?_)
            clear hK K
            refine wpAnyH_take (i := 16) (oi := { dst := some 11, op := Go.Op.assign (Go.Operand.tmp 35), type := 4, pos := "plan.go:38", after := #[{ on := 12, ground := Go.Ground.data }, { on := 15, ground := Go.Ground.chain }, { on := 0, ground := Go.Ground.phase }, { on := 1, ground := Go.Ground.phase }, { on := 2, ground := Go.Ground.phase }, { on := 3, ground := Go.Ground.phase }, { on := 4, ground := Go.Ground.phase }, { on := 5, ground := Go.Ground.phase }, { on := 6, ground := Go.Ground.phase }, { on := 7, ground := Go.Ground.phase }, { on := 8, ground := Go.Ground.phase }, { on := 9, ground := Go.Ground.phase }, { on := 10, ground := Go.Ground.phase }, { on := 11, ground := Go.Ground.phase }, { on := 12, ground := Go.Ground.phase }, { on := 13, ground := Go.Ground.textOnly Go.Departure.lateStores }, { on := 14, ground := Go.Ground.phase }, { on := 15, ground := Go.Ground.phase }], guard := none }) (v := ?_) rfl (by kernel_rfl) (by kernel_rfl) (by kernel_rfl) (fun _ _ _ h => h) (Or.inl ⟨by rfl, ?_⟩) hHeld ?_
            rotate_left 1
            · (intro w hSw; (try dsimp only at hSw); go_simp <;> with_reducible rfl)
            simp only [Act.put, List.setIfInBounds_toArray, List.set_cons_zero, List.set_cons_succ]
            refine wpAnyH_take (i := 17) (oi := { dst := some 12, op := Go.Op.assign (Go.Operand.tmp 36), type := 4, pos := "plan.go:38", after := #[{ on := 13, ground := Go.Ground.data }, { on := 16, ground := Go.Ground.chain }, { on := 0, ground := Go.Ground.phase }, { on := 1, ground := Go.Ground.phase }, { on := 2, ground := Go.Ground.phase }, { on := 3, ground := Go.Ground.phase }, { on := 4, ground := Go.Ground.phase }, { on := 5, ground := Go.Ground.phase }, { on := 6, ground := Go.Ground.phase }, { on := 7, ground := Go.Ground.phase }, { on := 8, ground := Go.Ground.phase }, { on := 9, ground := Go.Ground.phase }, { on := 10, ground := Go.Ground.phase }, { on := 11, ground := Go.Ground.phase }, { on := 12, ground := Go.Ground.phase }, { on := 13, ground := Go.Ground.phase }, { on := 14, ground := Go.Ground.phase }, { on := 15, ground := Go.Ground.phase }, { on := 16, ground := Go.Ground.phase }], guard := none }) (v := ?_) rfl (by kernel_rfl) (by kernel_rfl) (by kernel_rfl) (fun _ _ _ h => h) (Or.inl ⟨by rfl, ?_⟩) hHeld ?_
            rotate_left 1
            · (intro w hSw; (try dsimp only at hSw); go_simp <;> with_reducible rfl)
            simp only [Act.put, List.setIfInBounds_toArray, List.set_cons_zero, List.set_cons_succ]
            refine wpAnyH_done (by kernel_rfl) ?_ _
            go_wp2_with fail
            go_meet
            exact ⟨_, es3, c3, o3, rfl, rfl, rfl, setRow_heap _ _ zV13 es3 54 (0, 0) n3, hb.size, hs3, ho3, hw3, below_setRow hbb hb.size _⟩
        · go_simp
          have hb0 : Below w1.heap.size w1 (w1.alloc (.cells zV13 54)).drew := (bel1 _ _).drew
          refine hK.out _ _ ⟨fun j v hv => cellW (g2 j v hv) hb0, fun j v hv => cellW (g1 j v hv) hb0⟩ (fun hHeld => ?_)
          clear hK K
          refine wpAnyH_ready (rs := [2]) (by kernel_rfl) (by simp) ?_
          refine AllReadyH.cons (o := { dst := some 26, op := Go.Op.call { callee := Go.Callee.value (Go.Operand.func 41), args := #[Go.Operand.tmp 24, Go.Operand.tmp 25], argTypes := #[27, 3] }, type := 82, pos := "plan.go:38", after := #[{ on := 0, ground := Go.Ground.data }, { on := 1, ground := Go.Ground.data }], guard := none }) rfl (fun K hK => ?_) AllReadyH.nil
          go_simp
          refine (wish4_calls 4 s vk vx vb vs la ll lc d t rfl _).mono ?_
          rintro e w2 ⟨rfl, hb1⟩
          have hba : Below w1.heap.size w1 w2 := bel2 hb0 hb1
          have n2 : w2.heap[w1.heap.size]? = some (.cells zV13 54 (0, 0)) := row_below hb1 (heap_alloc_new w1 _)
          refine hK.out _ _ ⟨fun j v hv => cellW (g2 j v hv) hba, fun j v hv => cellW (g1 j v hv) hba⟩ (fun hHeld => ?_)
          clear hK K
          refine wpAnyH_take (i := 6) (oi := { dst := some 30, op := Go.Op.makeFunc (Go.Fn.method "usher/command.event") #[Go.Operand.tmp 26] #[], type := 84, pos := "plan.go:38", after := #[{ on := 2, ground := Go.Ground.data }], guard := none }) (v := ?_) rfl (by kernel_rfl) (by kernel_rfl) (by kernel_rfl) (fun _ _ _ h => h) (Or.inl ⟨by rfl, ?_⟩) hHeld ?_
          rotate_left 1
          · (intro w hSw; (try dsimp only at hSw); go_simp <;> with_reducible rfl)
          simp only [Act.put, List.setIfInBounds_toArray, List.set_cons_zero, List.set_cons_succ]
          refine wpAnyH_take (i := 7) (oi := { dst := some 31, op := Go.Op.nilCheck (Go.Operand.tmp 30), type := 84, pos := "plan.go:38", after := #[{ on := 6, ground := Go.Ground.data }], guard := none }) (v := ?_) rfl (by kernel_rfl) (by kernel_rfl) (by kernel_rfl) (fun _ _ _ h => h) (Or.inl ⟨by rfl, ?_⟩) hHeld ?_
          rotate_left 1
          · (intro w hSw; (try dsimp only at hSw); go_simp <;> with_reducible rfl)
          simp only [Act.put, List.setIfInBounds_toArray, List.set_cons_zero, List.set_cons_succ]
          refine wpAnyH_take (i := 8) (oi := { dst := some 32, op := Go.Op.move (Go.Operand.tmp 26), type := 82, pos := "plan.go:38", after := #[{ on := 2, ground := Go.Ground.data }, { on := 6, ground := Go.Ground.data }, { on := 7, ground := Go.Ground.data }], guard := none }) (v := ?_) rfl (by kernel_rfl) (by kernel_rfl) (by kernel_rfl) (fun _ _ _ h => h) (Or.inl ⟨by rfl, ?_⟩) hHeld ?_
          rotate_left 1
          · (intro w hSw; (try dsimp only at hSw); go_simp <;> with_reducible rfl)
          simp only [Act.put, List.setIfInBounds_toArray, List.set_cons_zero, List.set_cons_succ]
          refine wpAnyH_ready (rs := [9]) (by kernel_rfl) (by simp) ?_
          refine AllReadyH.cons (o := { dst := some 33, op := Go.Op.call { callee := Go.Callee.invoke (Go.Operand.tmp 32) "usher/command.event", args := #[Go.Operand.tmp 29], argTypes := #[68] }, type := 80, pos := "plan.go:38", after := #[{ on := 8, ground := Go.Ground.data }, { on := 5, ground := Go.Ground.data }, { on := 2, ground := Go.Ground.chain }], guard := none }) rfl (fun K hK => ?_) AllReadyH.nil
          go_simp
          refine (KV.out _ hba).mono ?_
          rintro e w3 ⟨⟨es3, c3, o3, rfl, hs3, ho3, hw3⟩, hb3⟩
          have hbb : Below w1.heap.size w1 w3 := bel2 hba hb3
          have hi3 := info46s es3 hs3
          have z3 : zV13.size = es3.size := hs3.symm
          have a3 := all_one ho3
          have n3 : w3.heap[w1.heap.size]? = some (.cells zV13 54 (0, 0)) := row_below hb3 n2
          refine hK.out _ _ ⟨fun j v hv => cellW (g2 j v hv) hbb, fun j v hv => cellW (g1 j v hv) hbb⟩ (fun hHeld => ?_)
          clear hK K
          refine wpAnyH_take (i := 10) (oi := { dst := some 23, op := Go.Op.move (Go.Operand.tmp 33), type := 80, pos := "plan.go:38", after := #[{ on := 9, ground := Go.Ground.data }], guard := none }) (v := ?_) rfl (by kernel_rfl) (by kernel_rfl) (by kernel_rfl) (fun _ _ _ h => h) (Or.inl ⟨by rfl, ?_⟩) hHeld ?_
          rotate_left 1
          · (intro w hSw; (try dsimp only at hSw); go_simp <;> with_reducible rfl)
          simp only [Act.put, List.setIfInBounds_toArray, List.set_cons_zero, List.set_cons_succ]
          refine wpAnyH_take (i := 11) (oi := { dst := some 34, op := Go.Op.extract (Go.Operand.tmp 23) 0, type := 54, pos := "plan.go:38", after := #[{ on := 10, ground := Go.Ground.data }], guard := none }) (v := ?_) rfl (by kernel_rfl) (by kernel_rfl) (by kernel_rfl) (fun _ _ _ h => h) (Or.inl ⟨by rfl, ?_⟩) hHeld ?_
          rotate_left 1
          · (intro w hSw; (try dsimp only at hSw); go_simp <;> with_reducible rfl)
          simp only [Act.put, List.setIfInBounds_toArray, List.set_cons_zero, List.set_cons_succ]
          refine wpAnyH_take (i := 12) (oi := { dst := some 35, op := Go.Op.extract (Go.Operand.tmp 23) 1, type := 4, pos := "plan.go:38", after := #[{ on := 10, ground := Go.Ground.data }, { on := 15, ground := Go.Ground.gcOnly Go.Departure.lateStores }], guard := none }) (v := ?_) rfl (by kernel_rfl) (by kernel_rfl) (by kernel_rfl) (fun _ _ _ h => h) (Or.inl ⟨by rfl, ?_⟩) hHeld ?_
          rotate_left 1
          · (intro w hSw; (try dsimp only at hSw); go_simp <;> with_reducible rfl)
          simp only [Act.put, List.setIfInBounds_toArray, List.set_cons_zero, List.set_cons_succ]
          refine wpAnyH_take (i := 13) (oi := { dst := some 36, op := Go.Op.extract (Go.Operand.tmp 23) 2, type := 4, pos := "plan.go:38", after := #[{ on := 10, ground := Go.Ground.data }, { on := 16, ground := Go.Ground.gcOnly Go.Departure.lateStores }], guard := none }) (v := ?_) rfl (by kernel_rfl) (by kernel_rfl) (by kernel_rfl) (fun _ _ _ h => h) (Or.inl ⟨by rfl, ?_⟩) hHeld ?_
          rotate_left 1
          · (intro w hSw; (try dsimp only at hSw); go_simp <;> with_reducible rfl)
          simp only [Act.put, List.setIfInBounds_toArray, List.set_cons_zero, List.set_cons_succ]
          refine wpAnyH_ready (rs := [15]) (by kernel_rfl) (by simp) ?_
          refine AllReadyH.cons (o := { dst := none, op := Go.Op.store 54 (Go.Operand.tmp 10) (Go.Operand.tmp 34), type := 0, pos := "plan.go:38", after := #[{ on := 14, ground := Go.Ground.data }, { on := 11, ground := Go.Ground.data }, { on := 9, ground := Go.Ground.chain }, { on := 0, ground := Go.Ground.phase }, { on := 1, ground := Go.Ground.phase }, { on := 2, ground := Go.Ground.phase }, { on := 3, ground := Go.Ground.phase }, { on := 4, ground := Go.Ground.phase }, { on := 5, ground := Go.Ground.phase }, { on := 6, ground := Go.Ground.phase }, { on := 7, ground := Go.Ground.phase }, { on := 8, ground := Go.Ground.phase }, { on := 9, ground := Go.Ground.phase }, { on := 10, ground := Go.Ground.phase }, { on := 11, ground := Go.Ground.phase }, { on := 12, ground := Go.Ground.textOnly Go.Departure.lateStores }, { on := 13, ground := Go.Ground.textOnly Go.Departure.lateStores }, { on := 14, ground := Go.Ground.phase }], guard := none }) rfl (fun K hK => ?_) AllReadyH.nil
          rw [if_pos (by rfl)]
          refine wp_store_row 54 _ _ rfl w1.heap.size es3 rfl rfl 54 zV13 n3 hi3 z3 a3 ?_
          refine hK.out _ _ ⟨fun j v hv => cellW (g2 j v hv) (below_setRow hbb (Nat.le_refl _) _), fun j v hv => cellW (g1 j v hv) (below_setRow hbb (Nat.le_refl _) _)⟩ (fun hHeld => ?_)
          clear hK K
          refine wpAnyH_take (i := 16) (oi := { dst := some 11, op := Go.Op.assign (Go.Operand.tmp 35), type := 4, pos := "plan.go:38", after := #[{ on := 12, ground := Go.Ground.data }, { on := 15, ground := Go.Ground.chain }, { on := 0, ground := Go.Ground.phase }, { on := 1, ground := Go.Ground.phase }, { on := 2, ground := Go.Ground.phase }, { on := 3, ground := Go.Ground.phase }, { on := 4, ground := Go.Ground.phase }, { on := 5, ground := Go.Ground.phase }, { on := 6, ground := Go.Ground.phase }, { on := 7, ground := Go.Ground.phase }, { on := 8, ground := Go.Ground.phase }, { on := 9, ground := Go.Ground.phase }, { on := 10, ground := Go.Ground.phase }, { on := 11, ground := Go.Ground.phase }, { on := 12, ground := Go.Ground.phase }, { on := 13, ground := Go.Ground.textOnly Go.Departure.lateStores }, { on := 14, ground := Go.Ground.phase }, { on := 15, ground := Go.Ground.phase }], guard := none }) (v := ?_) rfl (by kernel_rfl) (by kernel_rfl) (by kernel_rfl) (fun _ _ _ h => h) (Or.inl ⟨by rfl, ?_⟩) hHeld ?_
          rotate_left 1
          · (intro w hSw; (try dsimp only at hSw); go_simp <;> with_reducible rfl)
          simp only [Act.put, List.setIfInBounds_toArray, List.set_cons_zero, List.set_cons_succ]
          refine wpAnyH_take (i := 17) (oi := { dst := some 12, op := Go.Op.assign (Go.Operand.tmp 36), type := 4, pos := "plan.go:38", after := #[{ on := 13, ground := Go.Ground.data }, { on := 16, ground := Go.Ground.chain }, { on := 0, ground := Go.Ground.phase }, { on := 1, ground := Go.Ground.phase }, { on := 2, ground := Go.Ground.phase }, { on := 3, ground := Go.Ground.phase }, { on := 4, ground := Go.Ground.phase }, { on := 5, ground := Go.Ground.phase }, { on := 6, ground := Go.Ground.phase }, { on := 7, ground := Go.Ground.phase }, { on := 8, ground := Go.Ground.phase }, { on := 9, ground := Go.Ground.phase }, { on := 10, ground := Go.Ground.phase }, { on := 11, ground := Go.Ground.phase }, { on := 12, ground := Go.Ground.phase }, { on := 13, ground := Go.Ground.phase }, { on := 14, ground := Go.Ground.phase }, { on := 15, ground := Go.Ground.phase }, { on := 16, ground := Go.Ground.phase }], guard := none }) (v := ?_) rfl (by kernel_rfl) (by kernel_rfl) (by kernel_rfl) (fun _ _ _ h => h) (Or.inl ⟨by rfl, ?_⟩) hHeld ?_
          rotate_left 1
          · (intro w hSw; (try dsimp only at hSw); go_simp <;> with_reducible rfl)
          simp only [Act.put, List.setIfInBounds_toArray, List.set_cons_zero, List.set_cons_succ]
          refine wpAnyH_done (by kernel_rfl) ?_ _
          go_wp2_with fail
          go_meet
          exact ⟨_, es3, c3, o3, rfl, rfl, rfl, setRow_heap _ _ zV13 es3 54 (0, 0) n3, Nat.le_refl _, hs3, ho3, hw3, below_setRow hbb (Nat.le_refl _) _⟩
      by_cases hk5 : k = 5
      · subst hk5
        have KV : Hid (∀ W, Below w1.heap.size w1 W → Calls Tryz.prog 149 #[.agg #[.string s], .agg (drf cs va ve vr)] W (WsP (IsP (fun b => b < lo) w (n + 1)) (wshR dr.s asks dr.rf ⟨5, s, tv, d⟩ t) W)) := fun W hb => rej_calls _ s _ _ cs _ HDS.out.2 HDS.out.1 (fun j v hv => drf_st HDS.out.2 va ve vr hv) W (fun W' hb' => KW.out W' (bel2 hb hb')) fun W' hb' => KU.out W' (bel2 hb hb')
        have hnil := nil5 s
        have hme := meth5 s
        clear KW KU hk4
        refine wp_region_held_drew (S := (fun w' => w'.rangeAt g5 0 (#[.int .i64 5, .string s, .int .i64 vk, .int .i64 vx, .int .u64 vb, .string vs, .slice la ll lc, .int .i64 d] : Array Value).toList ∧ w'.rangeAt Bd 0 (drf cs va ve vr).toList)) (by kernel_rfl) ⟨g2, g1⟩ (fun hHeld => ?_)
        change wpAnyH _ _ _ _ _ _ _ _ (World.drew _)
        refine wpAnyH_take (i := 0) (oi := { dst := some 24, op := Go.Op.load 27 (Go.Operand.tmp 5), type := 27, pos := "plan.go:38", after := #[], guard := none }) (v := _) rfl (by kernel_rfl) (by kernel_rfl) (by kernel_rfl) (fun _ _ _ h => h) (yieldsIf_load_mid rfl 27 _ rfl g5 0 rfl (#[.int .i64 5, .string s, .int .i64 vk, .int .i64 vx, .int .u64 vb, .string vs, .slice la ll lc, .int .i64 d] : Array Value).toList _ (fun w h => h.1) Tryz.underlying27 rfl info27s) hHeld ?_
        simp only [Act.put, List.setIfInBounds_toArray, List.set_cons_zero, List.set_cons_succ]
        refine wpAnyH_take (i := 1) (oi := { dst := some 25, op := Go.Op.move (Go.Operand.tmp 3), type := 3, pos := "plan.go:38", after := #[], guard := none }) (v := ?_) rfl (by kernel_rfl) (by kernel_rfl) (by kernel_rfl) (fun _ _ _ h => h) (Or.inl ⟨by rfl, ?_⟩) hHeld ?_
        rotate_left 1
        · (intro w hSw; (try dsimp only at hSw); go_simp <;> with_reducible rfl)
        simp only [Act.put, List.setIfInBounds_toArray, List.set_cons_zero, List.set_cons_succ]
        refine wpAnyH_take (i := 3) (oi := { dst := some 27, op := Go.Op.move (Go.Operand.tmp 0), type := 78, pos := "plan.go:38", after := #[], guard := none }) (v := ?_) rfl (by kernel_rfl) (by kernel_rfl) (by kernel_rfl) (fun _ _ _ h => h) (Or.inl ⟨by rfl, ?_⟩) hHeld ?_
        rotate_left 1
        · (intro w hSw; (try dsimp only at hSw); go_simp <;> with_reducible rfl)
        simp only [Act.put, List.setIfInBounds_toArray, List.set_cons_zero, List.set_cons_succ]
        refine wpAnyH_take (i := 4) (oi := { dst := some 28, op := Go.Op.nilCheck (Go.Operand.tmp 27), type := 0, pos := "plan.go:38", after := #[{ on := 3, ground := Go.Ground.data }], guard := none }) (v := ?_) rfl (by kernel_rfl) (by kernel_rfl) (by kernel_rfl) (fun _ _ _ h => h) (Or.inl ⟨by rfl, ?_⟩) hHeld ?_
        rotate_left 1
        · (intro w hSw; (try dsimp only at hSw); go_simp <;> with_reducible rfl)
        simp only [Act.put, List.setIfInBounds_toArray, List.set_cons_zero, List.set_cons_succ]
        refine wpAnyH_take (i := 5) (oi := { dst := some 29, op := Go.Op.load 68 (Go.Operand.tmp 28), type := 68, pos := "plan.go:38", after := #[{ on := 4, ground := Go.Ground.data }], guard := none }) (v := _) rfl (by kernel_rfl) (by kernel_rfl) (by kernel_rfl) (fun _ _ _ h => h) (yieldsIf_load_mid rfl 68 _ rfl Bd 0 rfl (drf cs va ve vr).toList _ (fun w h => h.2) Tryz.underlying68 rfl hi68) hHeld ?_
        simp only [Act.put, List.setIfInBounds_toArray, List.set_cons_zero, List.set_cons_succ]
        refine wpAnyH_ready (rs := [2, 14]) (by kernel_rfl) (by simp) ?_
        refine AllReadyH.cons (o := { dst := some 26, op := Go.Op.call { callee := Go.Callee.value (Go.Operand.func 41), args := #[Go.Operand.tmp 24, Go.Operand.tmp 25], argTypes := #[27, 3] }, type := 82, pos := "plan.go:38", after := #[{ on := 0, ground := Go.Ground.data }, { on := 1, ground := Go.Ground.data }], guard := none }) rfl (fun K hK => ?_) (AllReadyH.cons (o := { dst := some 10, op := Go.Op.alloc 54, type := 0, pos := "plan.go:38", after := #[], guard := none }) rfl (fun K hK => ?_) AllReadyH.nil)
        · go_simp
          refine (wish5_calls 5 s vk vx vb vs la ll lc d t rfl _).mono ?_
          rintro e w2 ⟨rfl, hb1⟩
          have hb : Below w1.heap.size w1 w2 := bel2 (Below.refl _ w1).drew hb1
          refine hK.out _ _ ⟨fun j v hv => cellW (g2 j v hv) hb, fun j v hv => cellW (g1 j v hv) hb⟩ (fun hHeld => ?_)
          clear hK K
          refine wpAnyH_take (i := 6) (oi := { dst := some 30, op := Go.Op.makeFunc (Go.Fn.method "usher/command.event") #[Go.Operand.tmp 26] #[], type := 84, pos := "plan.go:38", after := #[{ on := 2, ground := Go.Ground.data }], guard := none }) (v := ?_) rfl (by kernel_rfl) (by kernel_rfl) (by kernel_rfl) (fun _ _ _ h => h) (Or.inl ⟨by rfl, ?_⟩) hHeld ?_
          rotate_left 1
          · (intro w hSw; (try dsimp only at hSw); go_simp <;> with_reducible rfl)
          simp only [Act.put, List.setIfInBounds_toArray, List.set_cons_zero, List.set_cons_succ]
          refine wpAnyH_take (i := 7) (oi := { dst := some 31, op := Go.Op.nilCheck (Go.Operand.tmp 30), type := 84, pos := "plan.go:38", after := #[{ on := 6, ground := Go.Ground.data }], guard := none }) (v := ?_) rfl (by kernel_rfl) (by kernel_rfl) (by kernel_rfl) (fun _ _ _ h => h) (Or.inl ⟨by rfl, ?_⟩) hHeld ?_
          rotate_left 1
          · (intro w hSw; (try dsimp only at hSw); go_simp <;> with_reducible rfl)
          simp only [Act.put, List.setIfInBounds_toArray, List.set_cons_zero, List.set_cons_succ]
          refine wpAnyH_take (i := 8) (oi := { dst := some 32, op := Go.Op.move (Go.Operand.tmp 26), type := 82, pos := "plan.go:38", after := #[{ on := 2, ground := Go.Ground.data }, { on := 6, ground := Go.Ground.data }, { on := 7, ground := Go.Ground.data }], guard := none }) (v := ?_) rfl (by kernel_rfl) (by kernel_rfl) (by kernel_rfl) (fun _ _ _ h => h) (Or.inl ⟨by rfl, ?_⟩) hHeld ?_
          rotate_left 1
          · (intro w hSw; (try dsimp only at hSw); go_simp <;> with_reducible rfl)
          simp only [Act.put, List.setIfInBounds_toArray, List.set_cons_zero, List.set_cons_succ]
          refine wpAnyH_ready (rs := [9, 14]) (by kernel_rfl) (by simp) ?_
          refine AllReadyH.cons (o := { dst := some 33, op := Go.Op.call { callee := Go.Callee.invoke (Go.Operand.tmp 32) "usher/command.event", args := #[Go.Operand.tmp 29], argTypes := #[68] }, type := 80, pos := "plan.go:38", after := #[{ on := 8, ground := Go.Ground.data }, { on := 5, ground := Go.Ground.data }, { on := 2, ground := Go.Ground.chain }], guard := none }) rfl (fun K hK => ?_) (AllReadyH.cons (o := { dst := some 10, op := Go.Op.alloc 54, type := 0, pos := "plan.go:38", after := #[], guard := none }) rfl (fun K hK => ?_) AllReadyH.nil)
          · go_simp
            refine (KV.out _ hb).mono ?_
            rintro e w3 ⟨⟨es3, c3, o3, rfl, hs3, ho3, hw3⟩, hb3⟩
            have hbb : Below w1.heap.size w1 w3 := bel2 hb hb3
            have hi3 := info46s es3 hs3
            have z3 : zV13.size = es3.size := hs3.symm
            have a3 := all_one ho3
            refine hK.out _ _ ⟨fun j v hv => cellW (g2 j v hv) hbb, fun j v hv => cellW (g1 j v hv) hbb⟩ (fun hHeld => ?_)
            clear hK K
            refine wpAnyH_take (i := 10) (oi := { dst := some 23, op := Go.Op.move (Go.Operand.tmp 33), type := 80, pos := "plan.go:38", after := #[{ on := 9, ground := Go.Ground.data }], guard := none }) (v := ?_) rfl (by kernel_rfl) (by kernel_rfl) (by kernel_rfl) (fun _ _ _ h => h) (Or.inl ⟨by rfl, ?_⟩) hHeld ?_
            rotate_left 1
            · (intro w hSw; (try dsimp only at hSw); go_simp <;> with_reducible rfl)
            simp only [Act.put, List.setIfInBounds_toArray, List.set_cons_zero, List.set_cons_succ]
            refine wpAnyH_take (i := 11) (oi := { dst := some 34, op := Go.Op.extract (Go.Operand.tmp 23) 0, type := 54, pos := "plan.go:38", after := #[{ on := 10, ground := Go.Ground.data }], guard := none }) (v := ?_) rfl (by kernel_rfl) (by kernel_rfl) (by kernel_rfl) (fun _ _ _ h => h) (Or.inl ⟨by rfl, ?_⟩) hHeld ?_
            rotate_left 1
            · (intro w hSw; (try dsimp only at hSw); go_simp <;> with_reducible rfl)
            simp only [Act.put, List.setIfInBounds_toArray, List.set_cons_zero, List.set_cons_succ]
            refine wpAnyH_take (i := 12) (oi := { dst := some 35, op := Go.Op.extract (Go.Operand.tmp 23) 1, type := 4, pos := "plan.go:38", after := #[{ on := 10, ground := Go.Ground.data }, { on := 15, ground := Go.Ground.gcOnly Go.Departure.lateStores }], guard := none }) (v := ?_) rfl (by kernel_rfl) (by kernel_rfl) (by kernel_rfl) (fun _ _ _ h => h) (Or.inl ⟨by rfl, ?_⟩) hHeld ?_
            rotate_left 1
            · (intro w hSw; (try dsimp only at hSw); go_simp <;> with_reducible rfl)
            simp only [Act.put, List.setIfInBounds_toArray, List.set_cons_zero, List.set_cons_succ]
            refine wpAnyH_take (i := 13) (oi := { dst := some 36, op := Go.Op.extract (Go.Operand.tmp 23) 2, type := 4, pos := "plan.go:38", after := #[{ on := 10, ground := Go.Ground.data }, { on := 16, ground := Go.Ground.gcOnly Go.Departure.lateStores }], guard := none }) (v := ?_) rfl (by kernel_rfl) (by kernel_rfl) (by kernel_rfl) (fun _ _ _ h => h) (Or.inl ⟨by rfl, ?_⟩) hHeld ?_
            rotate_left 1
            · (intro w hSw; (try dsimp only at hSw); go_simp <;> with_reducible rfl)
            simp only [Act.put, List.setIfInBounds_toArray, List.set_cons_zero, List.set_cons_succ]
            refine wpAnyH_ready (rs := [14]) (by kernel_rfl) (by simp) ?_
            refine AllReadyH.cons (o := { dst := some 10, op := Go.Op.alloc 54, type := 0, pos := "plan.go:38", after := #[], guard := none }) rfl (fun K hK => ?_) AllReadyH.nil
            go_simp
            refine hK.out _ _ ⟨fun j v hv => cellW (g2 j v hv) (bel2 hbb (bel1 _ _)), fun j v hv => cellW (g1 j v hv) (bel2 hbb (bel1 _ _))⟩ (fun hHeld => ?_)
            clear hK K
            have n3 : (w3.alloc (.cells zV13 54)).heap[w3.heap.size]? = some (.cells zV13 54 (0, 0)) := heap_alloc_new w3 _
            refine wpAnyH_ready (rs := [15]) (by kernel_rfl) (by simp) ?_
            refine AllReadyH.cons (o := { dst := none, op := Go.Op.store 54 (Go.Operand.tmp 10) (Go.Operand.tmp 34), type := 0, pos := "plan.go:38", after := #[{ on := 14, ground := Go.Ground.data }, { on := 11, ground := Go.Ground.data }, { on := 9, ground := Go.Ground.chain }, { on := 0, ground := Go.Ground.phase }, { on := 1, ground := Go.Ground.phase }, { on := 2, ground := Go.Ground.phase }, { on := 3, ground := Go.Ground.phase }, { on := 4, ground := Go.Ground.phase }, { on := 5, ground := Go.Ground.phase }, { on := 6, ground := Go.Ground.phase }, { on := 7, ground := Go.Ground.phase }, { on := 8, ground := Go.Ground.phase }, { on := 9, ground := Go.Ground.phase }, { on := 10, ground := Go.Ground.phase }, { on := 11, ground := Go.Ground.phase }, { on := 12, ground := Go.Ground.textOnly Go.Departure.lateStores }, { on := 13, ground := Go.Ground.textOnly Go.Departure.lateStores }, { on := 14, ground := Go.Ground.phase }], guard := none }) rfl (fun K hK => ?_) AllReadyH.nil
            rw [if_pos (by rfl)]
            refine wp_store_row 54 _ _ rfl w3.heap.size es3 rfl rfl 54 zV13 n3 hi3 z3 a3 ?_
            refine hK.out _ _ ⟨fun j v hv => cellW (g2 j v hv) (below_setRow (bel2 hbb (bel1 _ _)) hbb.size _), fun j v hv => cellW (g1 j v hv) (below_setRow (bel2 hbb (bel1 _ _)) hbb.size _)⟩ (fun hHeld => ?_)
            clear hK K
            refine wpAnyH_take (i := 16) (oi := { dst := some 11, op := Go.Op.assign (Go.Operand.tmp 35), type := 4, pos := "plan.go:38", after := #[{ on := 12, ground := Go.Ground.data }, { on := 15, ground := Go.Ground.chain }, { on := 0, ground := Go.Ground.phase }, { on := 1, ground := Go.Ground.phase }, { on := 2, ground := Go.Ground.phase }, { on := 3, ground := Go.Ground.phase }, { on := 4, ground := Go.Ground.phase }, { on := 5, ground := Go.Ground.phase }, { on := 6, ground := Go.Ground.phase }, { on := 7, ground := Go.Ground.phase }, { on := 8, ground := Go.Ground.phase }, { on := 9, ground := Go.Ground.phase }, { on := 10, ground := Go.Ground.phase }, { on := 11, ground := Go.Ground.phase }, { on := 12, ground := Go.Ground.phase }, { on := 13, ground := Go.Ground.textOnly Go.Departure.lateStores }, { on := 14, ground := Go.Ground.phase }, { on := 15, ground := Go.Ground.phase }], guard := none }) (v := ?_) rfl (by kernel_rfl) (by kernel_rfl) (by kernel_rfl) (fun _ _ _ h => h) (Or.inl ⟨by rfl, ?_⟩) hHeld ?_
            rotate_left 1
            · (intro w hSw; (try dsimp only at hSw); go_simp <;> with_reducible rfl)
            simp only [Act.put, List.setIfInBounds_toArray, List.set_cons_zero, List.set_cons_succ]
            refine wpAnyH_take (i := 17) (oi := { dst := some 12, op := Go.Op.assign (Go.Operand.tmp 36), type := 4, pos := "plan.go:38", after := #[{ on := 13, ground := Go.Ground.data }, { on := 16, ground := Go.Ground.chain }, { on := 0, ground := Go.Ground.phase }, { on := 1, ground := Go.Ground.phase }, { on := 2, ground := Go.Ground.phase }, { on := 3, ground := Go.Ground.phase }, { on := 4, ground := Go.Ground.phase }, { on := 5, ground := Go.Ground.phase }, { on := 6, ground := Go.Ground.phase }, { on := 7, ground := Go.Ground.phase }, { on := 8, ground := Go.Ground.phase }, { on := 9, ground := Go.Ground.phase }, { on := 10, ground := Go.Ground.phase }, { on := 11, ground := Go.Ground.phase }, { on := 12, ground := Go.Ground.phase }, { on := 13, ground := Go.Ground.phase }, { on := 14, ground := Go.Ground.phase }, { on := 15, ground := Go.Ground.phase }, { on := 16, ground := Go.Ground.phase }], guard := none }) (v := ?_) rfl (by kernel_rfl) (by kernel_rfl) (by kernel_rfl) (fun _ _ _ h => h) (Or.inl ⟨by rfl, ?_⟩) hHeld ?_
            rotate_left 1
            · (intro w hSw; (try dsimp only at hSw); go_simp <;> with_reducible rfl)
            simp only [Act.put, List.setIfInBounds_toArray, List.set_cons_zero, List.set_cons_succ]
            refine wpAnyH_done (by kernel_rfl) ?_ _
            go_wp2_with fail
            go_meet
            exact ⟨_, es3, c3, o3, rfl, rfl, rfl, setRow_heap _ _ zV13 es3 54 (0, 0) n3, hbb.size, hs3, ho3, hw3, below_setRow (bel2 hbb (bel1 _ _)) hbb.size _⟩
          · go_simp
            have hba : Below w1.heap.size w1 (w2.alloc (.cells zV13 54)) := bel2 hb (bel1 _ _)
            refine hK.out _ _ ⟨fun j v hv => cellW (g2 j v hv) hba, fun j v hv => cellW (g1 j v hv) hba⟩ (fun hHeld => ?_)
            clear hK K
            refine wpAnyH_ready (rs := [9]) (by kernel_rfl) (by simp) ?_
            refine AllReadyH.cons (o := { dst := some 33, op := Go.Op.call { callee := Go.Callee.invoke (Go.Operand.tmp 32) "usher/command.event", args := #[Go.Operand.tmp 29], argTypes := #[68] }, type := 80, pos := "plan.go:38", after := #[{ on := 8, ground := Go.Ground.data }, { on := 5, ground := Go.Ground.data }, { on := 2, ground := Go.Ground.chain }], guard := none }) rfl (fun K hK => ?_) AllReadyH.nil
            go_simp
            refine (KV.out _ hba).mono ?_
            rintro e w3 ⟨⟨es3, c3, o3, rfl, hs3, ho3, hw3⟩, hb3⟩
            have hbb : Below w1.heap.size w1 w3 := bel2 hba hb3
            have hi3 := info46s es3 hs3
            have z3 : zV13.size = es3.size := hs3.symm
            have a3 := all_one ho3
            have n3 : w3.heap[w2.heap.size]? = some (.cells zV13 54 (0, 0)) := row_below hb3 (heap_alloc_new _ _)
            refine hK.out _ _ ⟨fun j v hv => cellW (g2 j v hv) hbb, fun j v hv => cellW (g1 j v hv) hbb⟩ (fun hHeld => ?_)
            clear hK K
            refine wpAnyH_take (i := 10) (oi := { dst := some 23, op := Go.Op.move (Go.Operand.tmp 33), type := 80, pos := "plan.go:38", after := #[{ on := 9, ground := Go.Ground.data }], guard := none }) (v := ?_) rfl (by kernel_rfl) (by kernel_rfl) (by kernel_rfl) (fun _ _ _ h => h) (Or.inl ⟨by rfl, ?_⟩) hHeld ?_
            rotate_left 1
            · (intro w hSw; (try dsimp only at hSw); go_simp <;> with_reducible rfl)
            simp only [Act.put, List.setIfInBounds_toArray, List.set_cons_zero, List.set_cons_succ]
            refine wpAnyH_take (i := 11) (oi := { dst := some 34, op := Go.Op.extract (Go.Operand.tmp 23) 0, type := 54, pos := "plan.go:38", after := #[{ on := 10, ground := Go.Ground.data }], guard := none }) (v := ?_) rfl (by kernel_rfl) (by kernel_rfl) (by kernel_rfl) (fun _ _ _ h => h) (Or.inl ⟨by rfl, ?_⟩) hHeld ?_
            rotate_left 1
            · (intro w hSw; (try dsimp only at hSw); go_simp <;> with_reducible rfl)
            simp only [Act.put, List.setIfInBounds_toArray, List.set_cons_zero, List.set_cons_succ]
            refine wpAnyH_take (i := 12) (oi := { dst := some 35, op := Go.Op.extract (Go.Operand.tmp 23) 1, type := 4, pos := "plan.go:38", after := #[{ on := 10, ground := Go.Ground.data }, { on := 15, ground := Go.Ground.gcOnly Go.Departure.lateStores }], guard := none }) (v := ?_) rfl (by kernel_rfl) (by kernel_rfl) (by kernel_rfl) (fun _ _ _ h => h) (Or.inl ⟨by rfl, ?_⟩) hHeld ?_
            rotate_left 1
            · (intro w hSw; (try dsimp only at hSw); go_simp <;> with_reducible rfl)
            simp only [Act.put, List.setIfInBounds_toArray, List.set_cons_zero, List.set_cons_succ]
            refine wpAnyH_take (i := 13) (oi := { dst := some 36, op := Go.Op.extract (Go.Operand.tmp 23) 2, type := 4, pos := "plan.go:38", after := #[{ on := 10, ground := Go.Ground.data }, { on := 16, ground := Go.Ground.gcOnly Go.Departure.lateStores }], guard := none }) (v := ?_) rfl (by kernel_rfl) (by kernel_rfl) (by kernel_rfl) (fun _ _ _ h => h) (Or.inl ⟨by rfl, ?_⟩) hHeld ?_
            rotate_left 1
            · (intro w hSw; (try dsimp only at hSw); go_simp <;> with_reducible rfl)
            simp only [Act.put, List.setIfInBounds_toArray, List.set_cons_zero, List.set_cons_succ]
            refine wpAnyH_ready (rs := [15]) (by kernel_rfl) (by simp) ?_
            refine AllReadyH.cons (o := { dst := none, op := Go.Op.store 54 (Go.Operand.tmp 10) (Go.Operand.tmp 34), type := 0, pos := "plan.go:38", after := #[{ on := 14, ground := Go.Ground.data }, { on := 11, ground := Go.Ground.data }, { on := 9, ground := Go.Ground.chain }, { on := 0, ground := Go.Ground.phase }, { on := 1, ground := Go.Ground.phase }, { on := 2, ground := Go.Ground.phase }, { on := 3, ground := Go.Ground.phase }, { on := 4, ground := Go.Ground.phase }, { on := 5, ground := Go.Ground.phase }, { on := 6, ground := Go.Ground.phase }, { on := 7, ground := Go.Ground.phase }, { on := 8, ground := Go.Ground.phase }, { on := 9, ground := Go.Ground.phase }, { on := 10, ground := Go.Ground.phase }, { on := 11, ground := Go.Ground.phase }, { on := 12, ground := Go.Ground.textOnly Go.Departure.lateStores }, { on := 13, ground := Go.Ground.textOnly Go.Departure.lateStores }, { on := 14, ground := Go.Ground.phase }], guard := none }) rfl (fun K hK => ?_) AllReadyH.nil
            rw [if_pos (by rfl)]
            refine wp_store_row 54 _ _ rfl w2.heap.size es3 rfl rfl 54 zV13 n3 hi3 z3 a3 ?_
            refine hK.out _ _ ⟨fun j v hv => cellW (g2 j v hv) (below_setRow hbb hb.size _), fun j v hv => cellW (g1 j v hv) (below_setRow hbb hb.size _)⟩ (fun hHeld => ?_)
            clear hK K
            refine wpAnyH_take (i := 16) (oi := { dst := some 11, op := Go.Op.assign (Go.Operand.tmp 35), type := 4, pos := "plan.go:38", after := #[{ on := 12, ground := Go.Ground.data }, { on := 15, ground := Go.Ground.chain }, { on := 0, ground := Go.Ground.phase }, { on := 1, ground := Go.Ground.phase }, { on := 2, ground := Go.Ground.phase }, { on := 3, ground := Go.Ground.phase }, { on := 4, ground := Go.Ground.phase }, { on := 5, ground := Go.Ground.phase }, { on := 6, ground := Go.Ground.phase }, { on := 7, ground := Go.Ground.phase }, { on := 8, ground := Go.Ground.phase }, { on := 9, ground := Go.Ground.phase }, { on := 10, ground := Go.Ground.phase }, { on := 11, ground := Go.Ground.phase }, { on := 12, ground := Go.Ground.phase }, { on := 13, ground := Go.Ground.textOnly Go.Departure.lateStores }, { on := 14, ground := Go.Ground.phase }, { on := 15, ground := Go.Ground.phase }], guard := none }) (v := ?_) rfl (by kernel_rfl) (by kernel_rfl) (by kernel_rfl) (fun _ _ _ h => h) (Or.inl ⟨by rfl, ?_⟩) hHeld ?_
            rotate_left 1
            · (intro w hSw; (try dsimp only at hSw); go_simp <;> with_reducible rfl)
            simp only [Act.put, List.setIfInBounds_toArray, List.set_cons_zero, List.set_cons_succ]
            refine wpAnyH_take (i := 17) (oi := { dst := some 12, op := Go.Op.assign (Go.Operand.tmp 36), type := 4, pos := "plan.go:38", after := #[{ on := 13, ground := Go.Ground.data }, { on := 16, ground := Go.Ground.chain }, { on := 0, ground := Go.Ground.phase }, { on := 1, ground := Go.Ground.phase }, { on := 2, ground := Go.Ground.phase }, { on := 3, ground := Go.Ground.phase }, { on := 4, ground := Go.Ground.phase }, { on := 5, ground := Go.Ground.phase }, { on := 6, ground := Go.Ground.phase }, { on := 7, ground := Go.Ground.phase }, { on := 8, ground := Go.Ground.phase }, { on := 9, ground := Go.Ground.phase }, { on := 10, ground := Go.Ground.phase }, { on := 11, ground := Go.Ground.phase }, { on := 12, ground := Go.Ground.phase }, { on := 13, ground := Go.Ground.phase }, { on := 14, ground := Go.Ground.phase }, { on := 15, ground := Go.Ground.phase }, { on := 16, ground := Go.Ground.phase }], guard := none }) (v := ?_) rfl (by kernel_rfl) (by kernel_rfl) (by kernel_rfl) (fun _ _ _ h => h) (Or.inl ⟨by rfl, ?_⟩) hHeld ?_
            rotate_left 1
            · (intro w hSw; (try dsimp only at hSw); go_simp <;> with_reducible rfl)
            simp only [Act.put, List.setIfInBounds_toArray, List.set_cons_zero, List.set_cons_succ]
            refine wpAnyH_done (by kernel_rfl) ?_ _
            go_wp2_with fail
            go_meet
            exact ⟨_, es3, c3, o3, rfl, rfl, rfl, setRow_heap _ _ zV13 es3 54 (0, 0) n3, hb.size, hs3, ho3, hw3, below_setRow hbb hb.size _⟩
        · go_simp
          have hb0 : Below w1.heap.size w1 (w1.alloc (.cells zV13 54)).drew := (bel1 _ _).drew
          refine hK.out _ _ ⟨fun j v hv => cellW (g2 j v hv) hb0, fun j v hv => cellW (g1 j v hv) hb0⟩ (fun hHeld => ?_)
          clear hK K
          refine wpAnyH_ready (rs := [2]) (by kernel_rfl) (by simp) ?_
          refine AllReadyH.cons (o := { dst := some 26, op := Go.Op.call { callee := Go.Callee.value (Go.Operand.func 41), args := #[Go.Operand.tmp 24, Go.Operand.tmp 25], argTypes := #[27, 3] }, type := 82, pos := "plan.go:38", after := #[{ on := 0, ground := Go.Ground.data }, { on := 1, ground := Go.Ground.data }], guard := none }) rfl (fun K hK => ?_) AllReadyH.nil
          go_simp
          refine (wish5_calls 5 s vk vx vb vs la ll lc d t rfl _).mono ?_
          rintro e w2 ⟨rfl, hb1⟩
          have hba : Below w1.heap.size w1 w2 := bel2 hb0 hb1
          have n2 : w2.heap[w1.heap.size]? = some (.cells zV13 54 (0, 0)) := row_below hb1 (heap_alloc_new w1 _)
          refine hK.out _ _ ⟨fun j v hv => cellW (g2 j v hv) hba, fun j v hv => cellW (g1 j v hv) hba⟩ (fun hHeld => ?_)
          clear hK K
          refine wpAnyH_take (i := 6) (oi := { dst := some 30, op := Go.Op.makeFunc (Go.Fn.method "usher/command.event") #[Go.Operand.tmp 26] #[], type := 84, pos := "plan.go:38", after := #[{ on := 2, ground := Go.Ground.data }], guard := none }) (v := ?_) rfl (by kernel_rfl) (by kernel_rfl) (by kernel_rfl) (fun _ _ _ h => h) (Or.inl ⟨by rfl, ?_⟩) hHeld ?_
          rotate_left 1
          · (intro w hSw; (try dsimp only at hSw); go_simp <;> with_reducible rfl)
          simp only [Act.put, List.setIfInBounds_toArray, List.set_cons_zero, List.set_cons_succ]
          refine wpAnyH_take (i := 7) (oi := { dst := some 31, op := Go.Op.nilCheck (Go.Operand.tmp 30), type := 84, pos := "plan.go:38", after := #[{ on := 6, ground := Go.Ground.data }], guard := none }) (v := ?_) rfl (by kernel_rfl) (by kernel_rfl) (by kernel_rfl) (fun _ _ _ h => h) (Or.inl ⟨by rfl, ?_⟩) hHeld ?_
          rotate_left 1
          · (intro w hSw; (try dsimp only at hSw); go_simp <;> with_reducible rfl)
          simp only [Act.put, List.setIfInBounds_toArray, List.set_cons_zero, List.set_cons_succ]
          refine wpAnyH_take (i := 8) (oi := { dst := some 32, op := Go.Op.move (Go.Operand.tmp 26), type := 82, pos := "plan.go:38", after := #[{ on := 2, ground := Go.Ground.data }, { on := 6, ground := Go.Ground.data }, { on := 7, ground := Go.Ground.data }], guard := none }) (v := ?_) rfl (by kernel_rfl) (by kernel_rfl) (by kernel_rfl) (fun _ _ _ h => h) (Or.inl ⟨by rfl, ?_⟩) hHeld ?_
          rotate_left 1
          · (intro w hSw; (try dsimp only at hSw); go_simp <;> with_reducible rfl)
          simp only [Act.put, List.setIfInBounds_toArray, List.set_cons_zero, List.set_cons_succ]
          refine wpAnyH_ready (rs := [9]) (by kernel_rfl) (by simp) ?_
          refine AllReadyH.cons (o := { dst := some 33, op := Go.Op.call { callee := Go.Callee.invoke (Go.Operand.tmp 32) "usher/command.event", args := #[Go.Operand.tmp 29], argTypes := #[68] }, type := 80, pos := "plan.go:38", after := #[{ on := 8, ground := Go.Ground.data }, { on := 5, ground := Go.Ground.data }, { on := 2, ground := Go.Ground.chain }], guard := none }) rfl (fun K hK => ?_) AllReadyH.nil
          go_simp
          refine (KV.out _ hba).mono ?_
          rintro e w3 ⟨⟨es3, c3, o3, rfl, hs3, ho3, hw3⟩, hb3⟩
          have hbb : Below w1.heap.size w1 w3 := bel2 hba hb3
          have hi3 := info46s es3 hs3
          have z3 : zV13.size = es3.size := hs3.symm
          have a3 := all_one ho3
          have n3 : w3.heap[w1.heap.size]? = some (.cells zV13 54 (0, 0)) := row_below hb3 n2
          refine hK.out _ _ ⟨fun j v hv => cellW (g2 j v hv) hbb, fun j v hv => cellW (g1 j v hv) hbb⟩ (fun hHeld => ?_)
          clear hK K
          refine wpAnyH_take (i := 10) (oi := { dst := some 23, op := Go.Op.move (Go.Operand.tmp 33), type := 80, pos := "plan.go:38", after := #[{ on := 9, ground := Go.Ground.data }], guard := none }) (v := ?_) rfl (by kernel_rfl) (by kernel_rfl) (by kernel_rfl) (fun _ _ _ h => h) (Or.inl ⟨by rfl, ?_⟩) hHeld ?_
          rotate_left 1
          · (intro w hSw; (try dsimp only at hSw); go_simp <;> with_reducible rfl)
          simp only [Act.put, List.setIfInBounds_toArray, List.set_cons_zero, List.set_cons_succ]
          refine wpAnyH_take (i := 11) (oi := { dst := some 34, op := Go.Op.extract (Go.Operand.tmp 23) 0, type := 54, pos := "plan.go:38", after := #[{ on := 10, ground := Go.Ground.data }], guard := none }) (v := ?_) rfl (by kernel_rfl) (by kernel_rfl) (by kernel_rfl) (fun _ _ _ h => h) (Or.inl ⟨by rfl, ?_⟩) hHeld ?_
          rotate_left 1
          · (intro w hSw; (try dsimp only at hSw); go_simp <;> with_reducible rfl)
          simp only [Act.put, List.setIfInBounds_toArray, List.set_cons_zero, List.set_cons_succ]
          refine wpAnyH_take (i := 12) (oi := { dst := some 35, op := Go.Op.extract (Go.Operand.tmp 23) 1, type := 4, pos := "plan.go:38", after := #[{ on := 10, ground := Go.Ground.data }, { on := 15, ground := Go.Ground.gcOnly Go.Departure.lateStores }], guard := none }) (v := ?_) rfl (by kernel_rfl) (by kernel_rfl) (by kernel_rfl) (fun _ _ _ h => h) (Or.inl ⟨by rfl, ?_⟩) hHeld ?_
          rotate_left 1
          · (intro w hSw; (try dsimp only at hSw); go_simp <;> with_reducible rfl)
          simp only [Act.put, List.setIfInBounds_toArray, List.set_cons_zero, List.set_cons_succ]
          refine wpAnyH_take (i := 13) (oi := { dst := some 36, op := Go.Op.extract (Go.Operand.tmp 23) 2, type := 4, pos := "plan.go:38", after := #[{ on := 10, ground := Go.Ground.data }, { on := 16, ground := Go.Ground.gcOnly Go.Departure.lateStores }], guard := none }) (v := ?_) rfl (by kernel_rfl) (by kernel_rfl) (by kernel_rfl) (fun _ _ _ h => h) (Or.inl ⟨by rfl, ?_⟩) hHeld ?_
          rotate_left 1
          · (intro w hSw; (try dsimp only at hSw); go_simp <;> with_reducible rfl)
          simp only [Act.put, List.setIfInBounds_toArray, List.set_cons_zero, List.set_cons_succ]
          refine wpAnyH_ready (rs := [15]) (by kernel_rfl) (by simp) ?_
          refine AllReadyH.cons (o := { dst := none, op := Go.Op.store 54 (Go.Operand.tmp 10) (Go.Operand.tmp 34), type := 0, pos := "plan.go:38", after := #[{ on := 14, ground := Go.Ground.data }, { on := 11, ground := Go.Ground.data }, { on := 9, ground := Go.Ground.chain }, { on := 0, ground := Go.Ground.phase }, { on := 1, ground := Go.Ground.phase }, { on := 2, ground := Go.Ground.phase }, { on := 3, ground := Go.Ground.phase }, { on := 4, ground := Go.Ground.phase }, { on := 5, ground := Go.Ground.phase }, { on := 6, ground := Go.Ground.phase }, { on := 7, ground := Go.Ground.phase }, { on := 8, ground := Go.Ground.phase }, { on := 9, ground := Go.Ground.phase }, { on := 10, ground := Go.Ground.phase }, { on := 11, ground := Go.Ground.phase }, { on := 12, ground := Go.Ground.textOnly Go.Departure.lateStores }, { on := 13, ground := Go.Ground.textOnly Go.Departure.lateStores }, { on := 14, ground := Go.Ground.phase }], guard := none }) rfl (fun K hK => ?_) AllReadyH.nil
          rw [if_pos (by rfl)]
          refine wp_store_row 54 _ _ rfl w1.heap.size es3 rfl rfl 54 zV13 n3 hi3 z3 a3 ?_
          refine hK.out _ _ ⟨fun j v hv => cellW (g2 j v hv) (below_setRow hbb (Nat.le_refl _) _), fun j v hv => cellW (g1 j v hv) (below_setRow hbb (Nat.le_refl _) _)⟩ (fun hHeld => ?_)
          clear hK K
          refine wpAnyH_take (i := 16) (oi := { dst := some 11, op := Go.Op.assign (Go.Operand.tmp 35), type := 4, pos := "plan.go:38", after := #[{ on := 12, ground := Go.Ground.data }, { on := 15, ground := Go.Ground.chain }, { on := 0, ground := Go.Ground.phase }, { on := 1, ground := Go.Ground.phase }, { on := 2, ground := Go.Ground.phase }, { on := 3, ground := Go.Ground.phase }, { on := 4, ground := Go.Ground.phase }, { on := 5, ground := Go.Ground.phase }, { on := 6, ground := Go.Ground.phase }, { on := 7, ground := Go.Ground.phase }, { on := 8, ground := Go.Ground.phase }, { on := 9, ground := Go.Ground.phase }, { on := 10, ground := Go.Ground.phase }, { on := 11, ground := Go.Ground.phase }, { on := 12, ground := Go.Ground.phase }, { on := 13, ground := Go.Ground.textOnly Go.Departure.lateStores }, { on := 14, ground := Go.Ground.phase }, { on := 15, ground := Go.Ground.phase }], guard := none }) (v := ?_) rfl (by kernel_rfl) (by kernel_rfl) (by kernel_rfl) (fun _ _ _ h => h) (Or.inl ⟨by rfl, ?_⟩) hHeld ?_
          rotate_left 1
          · (intro w hSw; (try dsimp only at hSw); go_simp <;> with_reducible rfl)
          simp only [Act.put, List.setIfInBounds_toArray, List.set_cons_zero, List.set_cons_succ]
          refine wpAnyH_take (i := 17) (oi := { dst := some 12, op := Go.Op.assign (Go.Operand.tmp 36), type := 4, pos := "plan.go:38", after := #[{ on := 13, ground := Go.Ground.data }, { on := 16, ground := Go.Ground.chain }, { on := 0, ground := Go.Ground.phase }, { on := 1, ground := Go.Ground.phase }, { on := 2, ground := Go.Ground.phase }, { on := 3, ground := Go.Ground.phase }, { on := 4, ground := Go.Ground.phase }, { on := 5, ground := Go.Ground.phase }, { on := 6, ground := Go.Ground.phase }, { on := 7, ground := Go.Ground.phase }, { on := 8, ground := Go.Ground.phase }, { on := 9, ground := Go.Ground.phase }, { on := 10, ground := Go.Ground.phase }, { on := 11, ground := Go.Ground.phase }, { on := 12, ground := Go.Ground.phase }, { on := 13, ground := Go.Ground.phase }, { on := 14, ground := Go.Ground.phase }, { on := 15, ground := Go.Ground.phase }, { on := 16, ground := Go.Ground.phase }], guard := none }) (v := ?_) rfl (by kernel_rfl) (by kernel_rfl) (by kernel_rfl) (fun _ _ _ h => h) (Or.inl ⟨by rfl, ?_⟩) hHeld ?_
          rotate_left 1
          · (intro w hSw; (try dsimp only at hSw); go_simp <;> with_reducible rfl)
          simp only [Act.put, List.setIfInBounds_toArray, List.set_cons_zero, List.set_cons_succ]
          refine wpAnyH_done (by kernel_rfl) ?_ _
          go_wp2_with fail
          go_meet
          exact ⟨_, es3, c3, o3, rfl, rfl, rfl, setRow_heap _ _ zV13 es3 54 (0, 0) n3, Nat.le_refl _, hs3, ho3, hw3, below_setRow hbb (Nat.le_refl _) _⟩
      by_cases hk1 : k = 1
      · subst hk1
        have KV : Hid (∀ W, Below w1.heap.size w1 W → Calls Tryz.prog 151 #[.agg (evL (ekd 1) t (wrap64 (t + d)) s vk vx vb vs la ll lc), .agg (drf cs va ve vr)] W (WsP (IsP (fun b => b < lo) w (n + 1)) (wshR dr.s asks dr.rf ⟨1, s, tv, d⟩ t) W)) := fun W hb => plain_calls _ _ _ (plE ⟨1, s, tv, d⟩ t) W (evL_is HV.out)
        have hnil := nilN (.agg (evL (ekd 1) t (wrap64 (t + d)) s vk vx vb vs la ll lc))
        have hme := methN (.agg (evL (ekd 1) t (wrap64 (t + d)) s vk vx vb vs la ll lc))
        clear KW KU hk4 hk5
        refine wp_region_held_drew (S := (fun w' => w'.rangeAt g5 0 (#[.int .i64 1, .string s, .int .i64 vk, .int .i64 vx, .int .u64 vb, .string vs, .slice la ll lc, .int .i64 d] : Array Value).toList ∧ w'.rangeAt Bd 0 (drf cs va ve vr).toList)) (by kernel_rfl) ⟨g2, g1⟩ (fun hHeld => ?_)
        change wpAnyH _ _ _ _ _ _ _ _ (World.drew _)
        refine wpAnyH_take (i := 0) (oi := { dst := some 24, op := Go.Op.load 27 (Go.Operand.tmp 5), type := 27, pos := "plan.go:38", after := #[], guard := none }) (v := _) rfl (by kernel_rfl) (by kernel_rfl) (by kernel_rfl) (fun _ _ _ h => h) (yieldsIf_load_mid rfl 27 _ rfl g5 0 rfl (#[.int .i64 1, .string s, .int .i64 vk, .int .i64 vx, .int .u64 vb, .string vs, .slice la ll lc, .int .i64 d] : Array Value).toList _ (fun w h => h.1) Tryz.underlying27 rfl info27s) hHeld ?_
        simp only [Act.put, List.setIfInBounds_toArray, List.set_cons_zero, List.set_cons_succ]
        refine wpAnyH_take (i := 1) (oi := { dst := some 25, op := Go.Op.move (Go.Operand.tmp 3), type := 3, pos := "plan.go:38", after := #[], guard := none }) (v := ?_) rfl (by kernel_rfl) (by kernel_rfl) (by kernel_rfl) (fun _ _ _ h => h) (Or.inl ⟨by rfl, ?_⟩) hHeld ?_
        rotate_left 1
        · (intro w hSw; (try dsimp only at hSw); go_simp <;> with_reducible rfl)
        simp only [Act.put, List.setIfInBounds_toArray, List.set_cons_zero, List.set_cons_succ]
        refine wpAnyH_take (i := 3) (oi := { dst := some 27, op := Go.Op.move (Go.Operand.tmp 0), type := 78, pos := "plan.go:38", after := #[], guard := none }) (v := ?_) rfl (by kernel_rfl) (by kernel_rfl) (by kernel_rfl) (fun _ _ _ h => h) (Or.inl ⟨by rfl, ?_⟩) hHeld ?_
        rotate_left 1
        · (intro w hSw; (try dsimp only at hSw); go_simp <;> with_reducible rfl)
        simp only [Act.put, List.setIfInBounds_toArray, List.set_cons_zero, List.set_cons_succ]
        refine wpAnyH_take (i := 4) (oi := { dst := some 28, op := Go.Op.nilCheck (Go.Operand.tmp 27), type := 0, pos := "plan.go:38", after := #[{ on := 3, ground := Go.Ground.data }], guard := none }) (v := ?_) rfl (by kernel_rfl) (by kernel_rfl) (by kernel_rfl) (fun _ _ _ h => h) (Or.inl ⟨by rfl, ?_⟩) hHeld ?_
        rotate_left 1
        · (intro w hSw; (try dsimp only at hSw); go_simp <;> with_reducible rfl)
        simp only [Act.put, List.setIfInBounds_toArray, List.set_cons_zero, List.set_cons_succ]
        refine wpAnyH_take (i := 5) (oi := { dst := some 29, op := Go.Op.load 68 (Go.Operand.tmp 28), type := 68, pos := "plan.go:38", after := #[{ on := 4, ground := Go.Ground.data }], guard := none }) (v := _) rfl (by kernel_rfl) (by kernel_rfl) (by kernel_rfl) (fun _ _ _ h => h) (yieldsIf_load_mid rfl 68 _ rfl Bd 0 rfl (drf cs va ve vr).toList _ (fun w h => h.2) Tryz.underlying68 rfl hi68) hHeld ?_
        simp only [Act.put, List.setIfInBounds_toArray, List.set_cons_zero, List.set_cons_succ]
        refine wpAnyH_ready (rs := [2, 14]) (by kernel_rfl) (by simp) ?_
        refine AllReadyH.cons (o := { dst := some 26, op := Go.Op.call { callee := Go.Callee.value (Go.Operand.func 41), args := #[Go.Operand.tmp 24, Go.Operand.tmp 25], argTypes := #[27, 3] }, type := 82, pos := "plan.go:38", after := #[{ on := 0, ground := Go.Ground.data }, { on := 1, ground := Go.Ground.data }], guard := none }) rfl (fun K hK => ?_) (AllReadyH.cons (o := { dst := some 10, op := Go.Op.alloc 54, type := 0, pos := "plan.go:38", after := #[], guard := none }) rfl (fun K hK => ?_) AllReadyH.nil)
        · go_simp
          refine (wish1_calls 1 s vk vx vb vs la ll lc d t rfl _).mono ?_
          rintro e w2 ⟨rfl, hb1⟩
          have hb : Below w1.heap.size w1 w2 := bel2 (Below.refl _ w1).drew hb1
          refine hK.out _ _ ⟨fun j v hv => cellW (g2 j v hv) hb, fun j v hv => cellW (g1 j v hv) hb⟩ (fun hHeld => ?_)
          clear hK K
          refine wpAnyH_take (i := 6) (oi := { dst := some 30, op := Go.Op.makeFunc (Go.Fn.method "usher/command.event") #[Go.Operand.tmp 26] #[], type := 84, pos := "plan.go:38", after := #[{ on := 2, ground := Go.Ground.data }], guard := none }) (v := ?_) rfl (by kernel_rfl) (by kernel_rfl) (by kernel_rfl) (fun _ _ _ h => h) (Or.inl ⟨by rfl, ?_⟩) hHeld ?_
          rotate_left 1
          · (intro w hSw; (try dsimp only at hSw); go_simp <;> with_reducible rfl)
          simp only [Act.put, List.setIfInBounds_toArray, List.set_cons_zero, List.set_cons_succ]
          refine wpAnyH_take (i := 7) (oi := { dst := some 31, op := Go.Op.nilCheck (Go.Operand.tmp 30), type := 84, pos := "plan.go:38", after := #[{ on := 6, ground := Go.Ground.data }], guard := none }) (v := ?_) rfl (by kernel_rfl) (by kernel_rfl) (by kernel_rfl) (fun _ _ _ h => h) (Or.inl ⟨by rfl, ?_⟩) hHeld ?_
          rotate_left 1
          · (intro w hSw; (try dsimp only at hSw); go_simp <;> with_reducible rfl)
          simp only [Act.put, List.setIfInBounds_toArray, List.set_cons_zero, List.set_cons_succ]
          refine wpAnyH_take (i := 8) (oi := { dst := some 32, op := Go.Op.move (Go.Operand.tmp 26), type := 82, pos := "plan.go:38", after := #[{ on := 2, ground := Go.Ground.data }, { on := 6, ground := Go.Ground.data }, { on := 7, ground := Go.Ground.data }], guard := none }) (v := ?_) rfl (by kernel_rfl) (by kernel_rfl) (by kernel_rfl) (fun _ _ _ h => h) (Or.inl ⟨by rfl, ?_⟩) hHeld ?_
          rotate_left 1
          · (intro w hSw; (try dsimp only at hSw); go_simp <;> with_reducible rfl)
          simp only [Act.put, List.setIfInBounds_toArray, List.set_cons_zero, List.set_cons_succ]
          refine wpAnyH_ready (rs := [9, 14]) (by kernel_rfl) (by simp) ?_
          refine AllReadyH.cons (o := { dst := some 33, op := Go.Op.call { callee := Go.Callee.invoke (Go.Operand.tmp 32) "usher/command.event", args := #[Go.Operand.tmp 29], argTypes := #[68] }, type := 80, pos := "plan.go:38", after := #[{ on := 8, ground := Go.Ground.data }, { on := 5, ground := Go.Ground.data }, { on := 2, ground := Go.Ground.chain }], guard := none }) rfl (fun K hK => ?_) (AllReadyH.cons (o := { dst := some 10, op := Go.Op.alloc 54, type := 0, pos := "plan.go:38", after := #[], guard := none }) rfl (fun K hK => ?_) AllReadyH.nil)
          · go_simp
            refine (KV.out _ hb).mono ?_
            rintro e w3 ⟨⟨es3, c3, o3, rfl, hs3, ho3, hw3⟩, hb3⟩
            have hbb : Below w1.heap.size w1 w3 := bel2 hb hb3
            have hi3 := info46s es3 hs3
            have z3 : zV13.size = es3.size := hs3.symm
            have a3 := all_one ho3
            refine hK.out _ _ ⟨fun j v hv => cellW (g2 j v hv) hbb, fun j v hv => cellW (g1 j v hv) hbb⟩ (fun hHeld => ?_)
            clear hK K
            refine wpAnyH_take (i := 10) (oi := { dst := some 23, op := Go.Op.move (Go.Operand.tmp 33), type := 80, pos := "plan.go:38", after := #[{ on := 9, ground := Go.Ground.data }], guard := none }) (v := ?_) rfl (by kernel_rfl) (by kernel_rfl) (by kernel_rfl) (fun _ _ _ h => h) (Or.inl ⟨by rfl, ?_⟩) hHeld ?_
            rotate_left 1
            · (intro w hSw; (try dsimp only at hSw); go_simp <;> with_reducible rfl)
            simp only [Act.put, List.setIfInBounds_toArray, List.set_cons_zero, List.set_cons_succ]
            refine wpAnyH_take (i := 11) (oi := { dst := some 34, op := Go.Op.extract (Go.Operand.tmp 23) 0, type := 54, pos := "plan.go:38", after := #[{ on := 10, ground := Go.Ground.data }], guard := none }) (v := ?_) rfl (by kernel_rfl) (by kernel_rfl) (by kernel_rfl) (fun _ _ _ h => h) (Or.inl ⟨by rfl, ?_⟩) hHeld ?_
            rotate_left 1
            · (intro w hSw; (try dsimp only at hSw); go_simp <;> with_reducible rfl)
            simp only [Act.put, List.setIfInBounds_toArray, List.set_cons_zero, List.set_cons_succ]
            refine wpAnyH_take (i := 12) (oi := { dst := some 35, op := Go.Op.extract (Go.Operand.tmp 23) 1, type := 4, pos := "plan.go:38", after := #[{ on := 10, ground := Go.Ground.data }, { on := 15, ground := Go.Ground.gcOnly Go.Departure.lateStores }], guard := none }) (v := ?_) rfl (by kernel_rfl) (by kernel_rfl) (by kernel_rfl) (fun _ _ _ h => h) (Or.inl ⟨by rfl, ?_⟩) hHeld ?_
            rotate_left 1
            · (intro w hSw; (try dsimp only at hSw); go_simp <;> with_reducible rfl)
            simp only [Act.put, List.setIfInBounds_toArray, List.set_cons_zero, List.set_cons_succ]
            refine wpAnyH_take (i := 13) (oi := { dst := some 36, op := Go.Op.extract (Go.Operand.tmp 23) 2, type := 4, pos := "plan.go:38", after := #[{ on := 10, ground := Go.Ground.data }, { on := 16, ground := Go.Ground.gcOnly Go.Departure.lateStores }], guard := none }) (v := ?_) rfl (by kernel_rfl) (by kernel_rfl) (by kernel_rfl) (fun _ _ _ h => h) (Or.inl ⟨by rfl, ?_⟩) hHeld ?_
            rotate_left 1
            · (intro w hSw; (try dsimp only at hSw); go_simp <;> with_reducible rfl)
            simp only [Act.put, List.setIfInBounds_toArray, List.set_cons_zero, List.set_cons_succ]
            refine wpAnyH_ready (rs := [14]) (by kernel_rfl) (by simp) ?_
            refine AllReadyH.cons (o := { dst := some 10, op := Go.Op.alloc 54, type := 0, pos := "plan.go:38", after := #[], guard := none }) rfl (fun K hK => ?_) AllReadyH.nil
            go_simp
            refine hK.out _ _ ⟨fun j v hv => cellW (g2 j v hv) (bel2 hbb (bel1 _ _)), fun j v hv => cellW (g1 j v hv) (bel2 hbb (bel1 _ _))⟩ (fun hHeld => ?_)
            clear hK K
            have n3 : (w3.alloc (.cells zV13 54)).heap[w3.heap.size]? = some (.cells zV13 54 (0, 0)) := heap_alloc_new w3 _
            refine wpAnyH_ready (rs := [15]) (by kernel_rfl) (by simp) ?_
            refine AllReadyH.cons (o := { dst := none, op := Go.Op.store 54 (Go.Operand.tmp 10) (Go.Operand.tmp 34), type := 0, pos := "plan.go:38", after := #[{ on := 14, ground := Go.Ground.data }, { on := 11, ground := Go.Ground.data }, { on := 9, ground := Go.Ground.chain }, { on := 0, ground := Go.Ground.phase }, { on := 1, ground := Go.Ground.phase }, { on := 2, ground := Go.Ground.phase }, { on := 3, ground := Go.Ground.phase }, { on := 4, ground := Go.Ground.phase }, { on := 5, ground := Go.Ground.phase }, { on := 6, ground := Go.Ground.phase }, { on := 7, ground := Go.Ground.phase }, { on := 8, ground := Go.Ground.phase }, { on := 9, ground := Go.Ground.phase }, { on := 10, ground := Go.Ground.phase }, { on := 11, ground := Go.Ground.phase }, { on := 12, ground := Go.Ground.textOnly Go.Departure.lateStores }, { on := 13, ground := Go.Ground.textOnly Go.Departure.lateStores }, { on := 14, ground := Go.Ground.phase }], guard := none }) rfl (fun K hK => ?_) AllReadyH.nil
            rw [if_pos (by rfl)]
            refine wp_store_row 54 _ _ rfl w3.heap.size es3 rfl rfl 54 zV13 n3 hi3 z3 a3 ?_
            refine hK.out _ _ ⟨fun j v hv => cellW (g2 j v hv) (below_setRow (bel2 hbb (bel1 _ _)) hbb.size _), fun j v hv => cellW (g1 j v hv) (below_setRow (bel2 hbb (bel1 _ _)) hbb.size _)⟩ (fun hHeld => ?_)
            clear hK K
            refine wpAnyH_take (i := 16) (oi := { dst := some 11, op := Go.Op.assign (Go.Operand.tmp 35), type := 4, pos := "plan.go:38", after := #[{ on := 12, ground := Go.Ground.data }, { on := 15, ground := Go.Ground.chain }, { on := 0, ground := Go.Ground.phase }, { on := 1, ground := Go.Ground.phase }, { on := 2, ground := Go.Ground.phase }, { on := 3, ground := Go.Ground.phase }, { on := 4, ground := Go.Ground.phase }, { on := 5, ground := Go.Ground.phase }, { on := 6, ground := Go.Ground.phase }, { on := 7, ground := Go.Ground.phase }, { on := 8, ground := Go.Ground.phase }, { on := 9, ground := Go.Ground.phase }, { on := 10, ground := Go.Ground.phase }, { on := 11, ground := Go.Ground.phase }, { on := 12, ground := Go.Ground.phase }, { on := 13, ground := Go.Ground.textOnly Go.Departure.lateStores }, { on := 14, ground := Go.Ground.phase }, { on := 15, ground := Go.Ground.phase }], guard := none }) (v := ?_) rfl (by kernel_rfl) (by kernel_rfl) (by kernel_rfl) (fun _ _ _ h => h) (Or.inl ⟨by rfl, ?_⟩) hHeld ?_
            rotate_left 1
            · (intro w hSw; (try dsimp only at hSw); go_simp <;> with_reducible rfl)
            simp only [Act.put, List.setIfInBounds_toArray, List.set_cons_zero, List.set_cons_succ]
            refine wpAnyH_take (i := 17) (oi := { dst := some 12, op := Go.Op.assign (Go.Operand.tmp 36), type := 4, pos := "plan.go:38", after := #[{ on := 13, ground := Go.Ground.data }, { on := 16, ground := Go.Ground.chain }, { on := 0, ground := Go.Ground.phase }, { on := 1, ground := Go.Ground.phase }, { on := 2, ground := Go.Ground.phase }, { on := 3, ground := Go.Ground.phase }, { on := 4, ground := Go.Ground.phase }, { on := 5, ground := Go.Ground.phase }, { on := 6, ground := Go.Ground.phase }, { on := 7, ground := Go.Ground.phase }, { on := 8, ground := Go.Ground.phase }, { on := 9, ground := Go.Ground.phase }, { on := 10, ground := Go.Ground.phase }, { on := 11, ground := Go.Ground.phase }, { on := 12, ground := Go.Ground.phase }, { on := 13, ground := Go.Ground.phase }, { on := 14, ground := Go.Ground.phase }, { on := 15, ground := Go.Ground.phase }, { on := 16, ground := Go.Ground.phase }], guard := none }) (v := ?_) rfl (by kernel_rfl) (by kernel_rfl) (by kernel_rfl) (fun _ _ _ h => h) (Or.inl ⟨by rfl, ?_⟩) hHeld ?_
            rotate_left 1
            · (intro w hSw; (try dsimp only at hSw); go_simp <;> with_reducible rfl)
            simp only [Act.put, List.setIfInBounds_toArray, List.set_cons_zero, List.set_cons_succ]
            refine wpAnyH_done (by kernel_rfl) ?_ _
            go_wp2_with fail
            go_meet
            exact ⟨_, es3, c3, o3, rfl, rfl, rfl, setRow_heap _ _ zV13 es3 54 (0, 0) n3, hbb.size, hs3, ho3, hw3, below_setRow (bel2 hbb (bel1 _ _)) hbb.size _⟩
          · go_simp
            have hba : Below w1.heap.size w1 (w2.alloc (.cells zV13 54)) := bel2 hb (bel1 _ _)
            refine hK.out _ _ ⟨fun j v hv => cellW (g2 j v hv) hba, fun j v hv => cellW (g1 j v hv) hba⟩ (fun hHeld => ?_)
            clear hK K
            refine wpAnyH_ready (rs := [9]) (by kernel_rfl) (by simp) ?_
            refine AllReadyH.cons (o := { dst := some 33, op := Go.Op.call { callee := Go.Callee.invoke (Go.Operand.tmp 32) "usher/command.event", args := #[Go.Operand.tmp 29], argTypes := #[68] }, type := 80, pos := "plan.go:38", after := #[{ on := 8, ground := Go.Ground.data }, { on := 5, ground := Go.Ground.data }, { on := 2, ground := Go.Ground.chain }], guard := none }) rfl (fun K hK => ?_) AllReadyH.nil
            go_simp
            refine (KV.out _ hba).mono ?_
            rintro e w3 ⟨⟨es3, c3, o3, rfl, hs3, ho3, hw3⟩, hb3⟩
            have hbb : Below w1.heap.size w1 w3 := bel2 hba hb3
            have hi3 := info46s es3 hs3
            have z3 : zV13.size = es3.size := hs3.symm
            have a3 := all_one ho3
            have n3 : w3.heap[w2.heap.size]? = some (.cells zV13 54 (0, 0)) := row_below hb3 (heap_alloc_new _ _)
            refine hK.out _ _ ⟨fun j v hv => cellW (g2 j v hv) hbb, fun j v hv => cellW (g1 j v hv) hbb⟩ (fun hHeld => ?_)
            clear hK K
            refine wpAnyH_take (i := 10) (oi := { dst := some 23, op := Go.Op.move (Go.Operand.tmp 33), type := 80, pos := "plan.go:38", after := #[{ on := 9, ground := Go.Ground.data }], guard := none }) (v := ?_) rfl (by kernel_rfl) (by kernel_rfl) (by kernel_rfl) (fun _ _ _ h => h) (Or.inl ⟨by rfl, ?_⟩) hHeld ?_
            rotate_left 1
            · (intro w hSw; (try dsimp only at hSw); go_simp <;> with_reducible rfl)
            simp only [Act.put, List.setIfInBounds_toArray, List.set_cons_zero, List.set_cons_succ]
            refine wpAnyH_take (i := 11) (oi := { dst := some 34, op := Go.Op.extract (Go.Operand.tmp 23) 0, type := 54, pos := "plan.go:38", after := #[{ on := 10, ground := Go.Ground.data }], guard := none }) (v := ?_) rfl (by kernel_rfl) (by kernel_rfl) (by kernel_rfl) (fun _ _ _ h => h) (Or.inl ⟨by rfl, ?_⟩) hHeld ?_
            rotate_left 1
            · (intro w hSw; (try dsimp only at hSw); go_simp <;> with_reducible rfl)
            simp only [Act.put, List.setIfInBounds_toArray, List.set_cons_zero, List.set_cons_succ]
            refine wpAnyH_take (i := 12) (oi := { dst := some 35, op := Go.Op.extract (Go.Operand.tmp 23) 1, type := 4, pos := "plan.go:38", after := #[{ on := 10, ground := Go.Ground.data }, { on := 15, ground := Go.Ground.gcOnly Go.Departure.lateStores }], guard := none }) (v := ?_) rfl (by kernel_rfl) (by kernel_rfl) (by kernel_rfl) (fun _ _ _ h => h) (Or.inl ⟨by rfl, ?_⟩) hHeld ?_
            rotate_left 1
            · (intro w hSw; (try dsimp only at hSw); go_simp <;> with_reducible rfl)
            simp only [Act.put, List.setIfInBounds_toArray, List.set_cons_zero, List.set_cons_succ]
            refine wpAnyH_take (i := 13) (oi := { dst := some 36, op := Go.Op.extract (Go.Operand.tmp 23) 2, type := 4, pos := "plan.go:38", after := #[{ on := 10, ground := Go.Ground.data }, { on := 16, ground := Go.Ground.gcOnly Go.Departure.lateStores }], guard := none }) (v := ?_) rfl (by kernel_rfl) (by kernel_rfl) (by kernel_rfl) (fun _ _ _ h => h) (Or.inl ⟨by rfl, ?_⟩) hHeld ?_
            rotate_left 1
            · (intro w hSw; (try dsimp only at hSw); go_simp <;> with_reducible rfl)
            simp only [Act.put, List.setIfInBounds_toArray, List.set_cons_zero, List.set_cons_succ]
            refine wpAnyH_ready (rs := [15]) (by kernel_rfl) (by simp) ?_
            refine AllReadyH.cons (o := { dst := none, op := Go.Op.store 54 (Go.Operand.tmp 10) (Go.Operand.tmp 34), type := 0, pos := "plan.go:38", after := #[{ on := 14, ground := Go.Ground.data }, { on := 11, ground := Go.Ground.data }, { on := 9, ground := Go.Ground.chain }, { on := 0, ground := Go.Ground.phase }, { on := 1, ground := Go.Ground.phase }, { on := 2, ground := Go.Ground.phase }, { on := 3, ground := Go.Ground.phase }, { on := 4, ground := Go.Ground.phase }, { on := 5, ground := Go.Ground.phase }, { on := 6, ground := Go.Ground.phase }, { on := 7, ground := Go.Ground.phase }, { on := 8, ground := Go.Ground.phase }, { on := 9, ground := Go.Ground.phase }, { on := 10, ground := Go.Ground.phase }, { on := 11, ground := Go.Ground.phase }, { on := 12, ground := Go.Ground.textOnly Go.Departure.lateStores }, { on := 13, ground := Go.Ground.textOnly Go.Departure.lateStores }, { on := 14, ground := Go.Ground.phase }], guard := none }) rfl (fun K hK => ?_) AllReadyH.nil
            rw [if_pos (by rfl)]
            refine wp_store_row 54 _ _ rfl w2.heap.size es3 rfl rfl 54 zV13 n3 hi3 z3 a3 ?_
            refine hK.out _ _ ⟨fun j v hv => cellW (g2 j v hv) (below_setRow hbb hb.size _), fun j v hv => cellW (g1 j v hv) (below_setRow hbb hb.size _)⟩ (fun hHeld => ?_)
            clear hK K
            refine wpAnyH_take (i := 16) (oi := { dst := some 11, op := Go.Op.assign (Go.Operand.tmp 35), type := 4, pos := "plan.go:38", after := #[{ on := 12, ground := Go.Ground.data }, { on := 15, ground := Go.Ground.chain }, { on := 0, ground := Go.Ground.phase }, { on := 1, ground := Go.Ground.phase }, { on := 2, ground := Go.Ground.phase }, { on := 3, ground := Go.Ground.phase }, { on := 4, ground := Go.Ground.phase }, { on := 5, ground := Go.Ground.phase }, { on := 6, ground := Go.Ground.phase }, { on := 7, ground := Go.Ground.phase }, { on := 8, ground := Go.Ground.phase }, { on := 9, ground := Go.Ground.phase }, { on := 10, ground := Go.Ground.phase }, { on := 11, ground := Go.Ground.phase }, { on := 12, ground := Go.Ground.phase }, { on := 13, ground := Go.Ground.textOnly Go.Departure.lateStores }, { on := 14, ground := Go.Ground.phase }, { on := 15, ground := Go.Ground.phase }], guard := none }) (v := ?_) rfl (by kernel_rfl) (by kernel_rfl) (by kernel_rfl) (fun _ _ _ h => h) (Or.inl ⟨by rfl, ?_⟩) hHeld ?_
            rotate_left 1
            · (intro w hSw; (try dsimp only at hSw); go_simp <;> with_reducible rfl)
            simp only [Act.put, List.setIfInBounds_toArray, List.set_cons_zero, List.set_cons_succ]
            refine wpAnyH_take (i := 17) (oi := { dst := some 12, op := Go.Op.assign (Go.Operand.tmp 36), type := 4, pos := "plan.go:38", after := #[{ on := 13, ground := Go.Ground.data }, { on := 16, ground := Go.Ground.chain }, { on := 0, ground := Go.Ground.phase }, { on := 1, ground := Go.Ground.phase }, { on := 2, ground := Go.Ground.phase }, { on := 3, ground := Go.Ground.phase }, { on := 4, ground := Go.Ground.phase }, { on := 5, ground := Go.Ground.phase }, { on := 6, ground := Go.Ground.phase }, { on := 7, ground := Go.Ground.phase }, { on := 8, ground := Go.Ground.phase }, { on := 9, ground := Go.Ground.phase }, { on := 10, ground := Go.Ground.phase }, { on := 11, ground := Go.Ground.phase }, { on := 12, ground := Go.Ground.phase }, { on := 13, ground := Go.Ground.phase }, { on := 14, ground := Go.Ground.phase }, { on := 15, ground := Go.Ground.phase }, { on := 16, ground := Go.Ground.phase }], guard := none }) (v := ?_) rfl (by kernel_rfl) (by kernel_rfl) (by kernel_rfl) (fun _ _ _ h => h) (Or.inl ⟨by rfl, ?_⟩) hHeld ?_
            rotate_left 1
            · (intro w hSw; (try dsimp only at hSw); go_simp <;> with_reducible rfl)
            simp only [Act.put, List.setIfInBounds_toArray, List.set_cons_zero, List.set_cons_succ]
            refine wpAnyH_done (by kernel_rfl) ?_ _
            go_wp2_with fail
            go_meet
            exact ⟨_, es3, c3, o3, rfl, rfl, rfl, setRow_heap _ _ zV13 es3 54 (0, 0) n3, hb.size, hs3, ho3, hw3, below_setRow hbb hb.size _⟩
        · go_simp
          have hb0 : Below w1.heap.size w1 (w1.alloc (.cells zV13 54)).drew := (bel1 _ _).drew
          refine hK.out _ _ ⟨fun j v hv => cellW (g2 j v hv) hb0, fun j v hv => cellW (g1 j v hv) hb0⟩ (fun hHeld => ?_)
          clear hK K
          refine wpAnyH_ready (rs := [2]) (by kernel_rfl) (by simp) ?_
          refine AllReadyH.cons (o := { dst := some 26, op := Go.Op.call { callee := Go.Callee.value (Go.Operand.func 41), args := #[Go.Operand.tmp 24, Go.Operand.tmp 25], argTypes := #[27, 3] }, type := 82, pos := "plan.go:38", after := #[{ on := 0, ground := Go.Ground.data }, { on := 1, ground := Go.Ground.data }], guard := none }) rfl (fun K hK => ?_) AllReadyH.nil
          go_simp
          refine (wish1_calls 1 s vk vx vb vs la ll lc d t rfl _).mono ?_
          rintro e w2 ⟨rfl, hb1⟩
          have hba : Below w1.heap.size w1 w2 := bel2 hb0 hb1
          have n2 : w2.heap[w1.heap.size]? = some (.cells zV13 54 (0, 0)) := row_below hb1 (heap_alloc_new w1 _)
          refine hK.out _ _ ⟨fun j v hv => cellW (g2 j v hv) hba, fun j v hv => cellW (g1 j v hv) hba⟩ (fun hHeld => ?_)
          clear hK K
          refine wpAnyH_take (i := 6) (oi := { dst := some 30, op := Go.Op.makeFunc (Go.Fn.method "usher/command.event") #[Go.Operand.tmp 26] #[], type := 84, pos := "plan.go:38", after := #[{ on := 2, ground := Go.Ground.data }], guard := none }) (v := ?_) rfl (by kernel_rfl) (by kernel_rfl) (by kernel_rfl) (fun _ _ _ h => h) (Or.inl ⟨by rfl, ?_⟩) hHeld ?_
          rotate_left 1
          · (intro w hSw; (try dsimp only at hSw); go_simp <;> with_reducible rfl)
          simp only [Act.put, List.setIfInBounds_toArray, List.set_cons_zero, List.set_cons_succ]
          refine wpAnyH_take (i := 7) (oi := { dst := some 31, op := Go.Op.nilCheck (Go.Operand.tmp 30), type := 84, pos := "plan.go:38", after := #[{ on := 6, ground := Go.Ground.data }], guard := none }) (v := ?_) rfl (by kernel_rfl) (by kernel_rfl) (by kernel_rfl) (fun _ _ _ h => h) (Or.inl ⟨by rfl, ?_⟩) hHeld ?_
          rotate_left 1
          · (intro w hSw; (try dsimp only at hSw); go_simp <;> with_reducible rfl)
          simp only [Act.put, List.setIfInBounds_toArray, List.set_cons_zero, List.set_cons_succ]
          refine wpAnyH_take (i := 8) (oi := { dst := some 32, op := Go.Op.move (Go.Operand.tmp 26), type := 82, pos := "plan.go:38", after := #[{ on := 2, ground := Go.Ground.data }, { on := 6, ground := Go.Ground.data }, { on := 7, ground := Go.Ground.data }], guard := none }) (v := ?_) rfl (by kernel_rfl) (by kernel_rfl) (by kernel_rfl) (fun _ _ _ h => h) (Or.inl ⟨by rfl, ?_⟩) hHeld ?_
          rotate_left 1
          · (intro w hSw; (try dsimp only at hSw); go_simp <;> with_reducible rfl)
          simp only [Act.put, List.setIfInBounds_toArray, List.set_cons_zero, List.set_cons_succ]
          refine wpAnyH_ready (rs := [9]) (by kernel_rfl) (by simp) ?_
          refine AllReadyH.cons (o := { dst := some 33, op := Go.Op.call { callee := Go.Callee.invoke (Go.Operand.tmp 32) "usher/command.event", args := #[Go.Operand.tmp 29], argTypes := #[68] }, type := 80, pos := "plan.go:38", after := #[{ on := 8, ground := Go.Ground.data }, { on := 5, ground := Go.Ground.data }, { on := 2, ground := Go.Ground.chain }], guard := none }) rfl (fun K hK => ?_) AllReadyH.nil
          go_simp
          refine (KV.out _ hba).mono ?_
          rintro e w3 ⟨⟨es3, c3, o3, rfl, hs3, ho3, hw3⟩, hb3⟩
          have hbb : Below w1.heap.size w1 w3 := bel2 hba hb3
          have hi3 := info46s es3 hs3
          have z3 : zV13.size = es3.size := hs3.symm
          have a3 := all_one ho3
          have n3 : w3.heap[w1.heap.size]? = some (.cells zV13 54 (0, 0)) := row_below hb3 n2
          refine hK.out _ _ ⟨fun j v hv => cellW (g2 j v hv) hbb, fun j v hv => cellW (g1 j v hv) hbb⟩ (fun hHeld => ?_)
          clear hK K
          refine wpAnyH_take (i := 10) (oi := { dst := some 23, op := Go.Op.move (Go.Operand.tmp 33), type := 80, pos := "plan.go:38", after := #[{ on := 9, ground := Go.Ground.data }], guard := none }) (v := ?_) rfl (by kernel_rfl) (by kernel_rfl) (by kernel_rfl) (fun _ _ _ h => h) (Or.inl ⟨by rfl, ?_⟩) hHeld ?_
          rotate_left 1
          · (intro w hSw; (try dsimp only at hSw); go_simp <;> with_reducible rfl)
          simp only [Act.put, List.setIfInBounds_toArray, List.set_cons_zero, List.set_cons_succ]
          refine wpAnyH_take (i := 11) (oi := { dst := some 34, op := Go.Op.extract (Go.Operand.tmp 23) 0, type := 54, pos := "plan.go:38", after := #[{ on := 10, ground := Go.Ground.data }], guard := none }) (v := ?_) rfl (by kernel_rfl) (by kernel_rfl) (by kernel_rfl) (fun _ _ _ h => h) (Or.inl ⟨by rfl, ?_⟩) hHeld ?_
          rotate_left 1
          · (intro w hSw; (try dsimp only at hSw); go_simp <;> with_reducible rfl)
          simp only [Act.put, List.setIfInBounds_toArray, List.set_cons_zero, List.set_cons_succ]
          refine wpAnyH_take (i := 12) (oi := { dst := some 35, op := Go.Op.extract (Go.Operand.tmp 23) 1, type := 4, pos := "plan.go:38", after := #[{ on := 10, ground := Go.Ground.data }, { on := 15, ground := Go.Ground.gcOnly Go.Departure.lateStores }], guard := none }) (v := ?_) rfl (by kernel_rfl) (by kernel_rfl) (by kernel_rfl) (fun _ _ _ h => h) (Or.inl ⟨by rfl, ?_⟩) hHeld ?_
          rotate_left 1
          · (intro w hSw; (try dsimp only at hSw); go_simp <;> with_reducible rfl)
          simp only [Act.put, List.setIfInBounds_toArray, List.set_cons_zero, List.set_cons_succ]
          refine wpAnyH_take (i := 13) (oi := { dst := some 36, op := Go.Op.extract (Go.Operand.tmp 23) 2, type := 4, pos := "plan.go:38", after := #[{ on := 10, ground := Go.Ground.data }, { on := 16, ground := Go.Ground.gcOnly Go.Departure.lateStores }], guard := none }) (v := ?_) rfl (by kernel_rfl) (by kernel_rfl) (by kernel_rfl) (fun _ _ _ h => h) (Or.inl ⟨by rfl, ?_⟩) hHeld ?_
          rotate_left 1
          · (intro w hSw; (try dsimp only at hSw); go_simp <;> with_reducible rfl)
          simp only [Act.put, List.setIfInBounds_toArray, List.set_cons_zero, List.set_cons_succ]
          refine wpAnyH_ready (rs := [15]) (by kernel_rfl) (by simp) ?_
          refine AllReadyH.cons (o := { dst := none, op := Go.Op.store 54 (Go.Operand.tmp 10) (Go.Operand.tmp 34), type := 0, pos := "plan.go:38", after := #[{ on := 14, ground := Go.Ground.data }, { on := 11, ground := Go.Ground.data }, { on := 9, ground := Go.Ground.chain }, { on := 0, ground := Go.Ground.phase }, { on := 1, ground := Go.Ground.phase }, { on := 2, ground := Go.Ground.phase }, { on := 3, ground := Go.Ground.phase }, { on := 4, ground := Go.Ground.phase }, { on := 5, ground := Go.Ground.phase }, { on := 6, ground := Go.Ground.phase }, { on := 7, ground := Go.Ground.phase }, { on := 8, ground := Go.Ground.phase }, { on := 9, ground := Go.Ground.phase }, { on := 10, ground := Go.Ground.phase }, { on := 11, ground := Go.Ground.phase }, { on := 12, ground := Go.Ground.textOnly Go.Departure.lateStores }, { on := 13, ground := Go.Ground.textOnly Go.Departure.lateStores }, { on := 14, ground := Go.Ground.phase }], guard := none }) rfl (fun K hK => ?_) AllReadyH.nil
          rw [if_pos (by rfl)]
          refine wp_store_row 54 _ _ rfl w1.heap.size es3 rfl rfl 54 zV13 n3 hi3 z3 a3 ?_
          refine hK.out _ _ ⟨fun j v hv => cellW (g2 j v hv) (below_setRow hbb (Nat.le_refl _) _), fun j v hv => cellW (g1 j v hv) (below_setRow hbb (Nat.le_refl _) _)⟩ (fun hHeld => ?_)
          clear hK K
          refine wpAnyH_take (i := 16) (oi := { dst := some 11, op := Go.Op.assign (Go.Operand.tmp 35), type := 4, pos := "plan.go:38", after := #[{ on := 12, ground := Go.Ground.data }, { on := 15, ground := Go.Ground.chain }, { on := 0, ground := Go.Ground.phase }, { on := 1, ground := Go.Ground.phase }, { on := 2, ground := Go.Ground.phase }, { on := 3, ground := Go.Ground.phase }, { on := 4, ground := Go.Ground.phase }, { on := 5, ground := Go.Ground.phase }, { on := 6, ground := Go.Ground.phase }, { on := 7, ground := Go.Ground.phase }, { on := 8, ground := Go.Ground.phase }, { on := 9, ground := Go.Ground.phase }, { on := 10, ground := Go.Ground.phase }, { on := 11, ground := Go.Ground.phase }, { on := 12, ground := Go.Ground.phase }, { on := 13, ground := Go.Ground.textOnly Go.Departure.lateStores }, { on := 14, ground := Go.Ground.phase }, { on := 15, ground := Go.Ground.phase }], guard := none }) (v := ?_) rfl (by kernel_rfl) (by kernel_rfl) (by kernel_rfl) (fun _ _ _ h => h) (Or.inl ⟨by rfl, ?_⟩) hHeld ?_
          rotate_left 1
          · (intro w hSw; (try dsimp only at hSw); go_simp <;> with_reducible rfl)
          simp only [Act.put, List.setIfInBounds_toArray, List.set_cons_zero, List.set_cons_succ]
          refine wpAnyH_take (i := 17) (oi := { dst := some 12, op := Go.Op.assign (Go.Operand.tmp 36), type := 4, pos := "plan.go:38", after := #[{ on := 13, ground := Go.Ground.data }, { on := 16, ground := Go.Ground.chain }, { on := 0, ground := Go.Ground.phase }, { on := 1, ground := Go.Ground.phase }, { on := 2, ground := Go.Ground.phase }, { on := 3, ground := Go.Ground.phase }, { on := 4, ground := Go.Ground.phase }, { on := 5, ground := Go.Ground.phase }, { on := 6, ground := Go.Ground.phase }, { on := 7, ground := Go.Ground.phase }, { on := 8, ground := Go.Ground.phase }, { on := 9, ground := Go.Ground.phase }, { on := 10, ground := Go.Ground.phase }, { on := 11, ground := Go.Ground.phase }, { on := 12, ground := Go.Ground.phase }, { on := 13, ground := Go.Ground.phase }, { on := 14, ground := Go.Ground.phase }, { on := 15, ground := Go.Ground.phase }, { on := 16, ground := Go.Ground.phase }], guard := none }) (v := ?_) rfl (by kernel_rfl) (by kernel_rfl) (by kernel_rfl) (fun _ _ _ h => h) (Or.inl ⟨by rfl, ?_⟩) hHeld ?_
          rotate_left 1
          · (intro w hSw; (try dsimp only at hSw); go_simp <;> with_reducible rfl)
          simp only [Act.put, List.setIfInBounds_toArray, List.set_cons_zero, List.set_cons_succ]
          refine wpAnyH_done (by kernel_rfl) ?_ _
          go_wp2_with fail
          go_meet
          exact ⟨_, es3, c3, o3, rfl, rfl, rfl, setRow_heap _ _ zV13 es3 54 (0, 0) n3, Nat.le_refl _, hs3, ho3, hw3, below_setRow hbb (Nat.le_refl _) _⟩
      have KV : Hid (∀ W, Below w1.heap.size w1 W → Calls Tryz.prog 151 #[.agg (evL (ekd k) t 0 s vk vx vb vs la ll lc), .agg (drf cs va ve vr)] W (WsP (IsP (fun b => b < lo) w (n + 1)) (wshR dr.s asks dr.rf ⟨k, s, tv, d⟩ t) W)) := fun W hb => by
        have e : wshR dr.s asks dr.rf ⟨k, s, tv, d⟩ t = .ev (plE ⟨k, s, tv, d⟩ t) := by unfold wshR; rw [if_neg hk4, if_neg hk5]
        rw [e]
        refine plain_calls _ _ _ (plE ⟨k, s, tv, d⟩ t) W ?_
        have e2 : plE ⟨k, s, tv, d⟩ t = ⟨ekd k, t, 0, 0, s, tv, 0, 0, 0⟩ := by unfold plE; rw [if_neg hk1]
        rw [e2]
        exact evL_is HV.out
      have hnil := nilN (.agg (evL (ekd k) t 0 s vk vx vb vs la ll lc))
      have hme := methN (.agg (evL (ekd k) t 0 s vk vx vb vs la ll lc))
      have HK4 : Hid (k ≠ 4) := hk4
      have HK5 : Hid (k ≠ 5) := hk5
      have HK1 : Hid (k ≠ 1) := hk1
      clear KW KU hk4 hk5 hk1
      refine wp_region_held_drew (S := (fun w' => w'.rangeAt g5 0 (#[.int .i64 k, .string s, .int .i64 vk, .int .i64 vx, .int .u64 vb, .string vs, .slice la ll lc, .int .i64 d] : Array Value).toList ∧ w'.rangeAt Bd 0 (drf cs va ve vr).toList)) (by kernel_rfl) ⟨g2, g1⟩ (fun hHeld => ?_)
      change wpAnyH _ _ _ _ _ _ _ _ (World.drew _)
      refine wpAnyH_take (i := 0) (oi := { dst := some 24, op := Go.Op.load 27 (Go.Operand.tmp 5), type := 27, pos := "plan.go:38", after := #[], guard := none }) (v := _) rfl (by kernel_rfl) (by kernel_rfl) (by kernel_rfl) (fun _ _ _ h => h) (yieldsIf_load_mid rfl 27 _ rfl g5 0 rfl (#[.int .i64 k, .string s, .int .i64 vk, .int .i64 vx, .int .u64 vb, .string vs, .slice la ll lc, .int .i64 d] : Array Value).toList _ (fun w h => h.1) Tryz.underlying27 rfl info27s) hHeld ?_
      simp only [Act.put, List.setIfInBounds_toArray, List.set_cons_zero, List.set_cons_succ]
      refine wpAnyH_take (i := 1) (oi := { dst := some 25, op := Go.Op.move (Go.Operand.tmp 3), type := 3, pos := "plan.go:38", after := #[], guard := none }) (v := ?_) rfl (by kernel_rfl) (by kernel_rfl) (by kernel_rfl) (fun _ _ _ h => h) (Or.inl ⟨by rfl, ?_⟩) hHeld ?_
      rotate_left 1
      · (intro w hSw; (try dsimp only at hSw); go_simp <;> with_reducible rfl)
      simp only [Act.put, List.setIfInBounds_toArray, List.set_cons_zero, List.set_cons_succ]
      refine wpAnyH_take (i := 3) (oi := { dst := some 27, op := Go.Op.move (Go.Operand.tmp 0), type := 78, pos := "plan.go:38", after := #[], guard := none }) (v := ?_) rfl (by kernel_rfl) (by kernel_rfl) (by kernel_rfl) (fun _ _ _ h => h) (Or.inl ⟨by rfl, ?_⟩) hHeld ?_
      rotate_left 1
      · (intro w hSw; (try dsimp only at hSw); go_simp <;> with_reducible rfl)
      simp only [Act.put, List.setIfInBounds_toArray, List.set_cons_zero, List.set_cons_succ]
      refine wpAnyH_take (i := 4) (oi := { dst := some 28, op := Go.Op.nilCheck (Go.Operand.tmp 27), type := 0, pos := "plan.go:38", after := #[{ on := 3, ground := Go.Ground.data }], guard := none }) (v := ?_) rfl (by kernel_rfl) (by kernel_rfl) (by kernel_rfl) (fun _ _ _ h => h) (Or.inl ⟨by rfl, ?_⟩) hHeld ?_
      rotate_left 1
      · (intro w hSw; (try dsimp only at hSw); go_simp <;> with_reducible rfl)
      simp only [Act.put, List.setIfInBounds_toArray, List.set_cons_zero, List.set_cons_succ]
      refine wpAnyH_take (i := 5) (oi := { dst := some 29, op := Go.Op.load 68 (Go.Operand.tmp 28), type := 68, pos := "plan.go:38", after := #[{ on := 4, ground := Go.Ground.data }], guard := none }) (v := _) rfl (by kernel_rfl) (by kernel_rfl) (by kernel_rfl) (fun _ _ _ h => h) (yieldsIf_load_mid rfl 68 _ rfl Bd 0 rfl (drf cs va ve vr).toList _ (fun w h => h.2) Tryz.underlying68 rfl hi68) hHeld ?_
      simp only [Act.put, List.setIfInBounds_toArray, List.set_cons_zero, List.set_cons_succ]
      refine wpAnyH_ready (rs := [2, 14]) (by kernel_rfl) (by simp) ?_
      refine AllReadyH.cons (o := { dst := some 26, op := Go.Op.call { callee := Go.Callee.value (Go.Operand.func 41), args := #[Go.Operand.tmp 24, Go.Operand.tmp 25], argTypes := #[27, 3] }, type := 82, pos := "plan.go:38", after := #[{ on := 0, ground := Go.Ground.data }, { on := 1, ground := Go.Ground.data }], guard := none }) rfl (fun K hK => ?_) (AllReadyH.cons (o := { dst := some 10, op := Go.Op.alloc 54, type := 0, pos := "plan.go:38", after := #[], guard := none }) rfl (fun K hK => ?_) AllReadyH.nil)
      · go_simp
        refine (wishN_calls k s vk vx vb vs la ll lc d t HK4.out HK5.out HK1.out _).mono ?_
        rintro e w2 ⟨rfl, hb1⟩
        have hb : Below w1.heap.size w1 w2 := bel2 (Below.refl _ w1).drew hb1
        refine hK.out _ _ ⟨fun j v hv => cellW (g2 j v hv) hb, fun j v hv => cellW (g1 j v hv) hb⟩ (fun hHeld => ?_)
        clear hK K
        refine wpAnyH_take (i := 6) (oi := { dst := some 30, op := Go.Op.makeFunc (Go.Fn.method "usher/command.event") #[Go.Operand.tmp 26] #[], type := 84, pos := "plan.go:38", after := #[{ on := 2, ground := Go.Ground.data }], guard := none }) (v := ?_) rfl (by kernel_rfl) (by kernel_rfl) (by kernel_rfl) (fun _ _ _ h => h) (Or.inl ⟨by rfl, ?_⟩) hHeld ?_
        rotate_left 1
        · (intro w hSw; (try dsimp only at hSw); go_simp <;> with_reducible rfl)
        simp only [Act.put, List.setIfInBounds_toArray, List.set_cons_zero, List.set_cons_succ]
        refine wpAnyH_take (i := 7) (oi := { dst := some 31, op := Go.Op.nilCheck (Go.Operand.tmp 30), type := 84, pos := "plan.go:38", after := #[{ on := 6, ground := Go.Ground.data }], guard := none }) (v := ?_) rfl (by kernel_rfl) (by kernel_rfl) (by kernel_rfl) (fun _ _ _ h => h) (Or.inl ⟨by rfl, ?_⟩) hHeld ?_
        rotate_left 1
        · (intro w hSw; (try dsimp only at hSw); go_simp <;> with_reducible rfl)
        simp only [Act.put, List.setIfInBounds_toArray, List.set_cons_zero, List.set_cons_succ]
        refine wpAnyH_take (i := 8) (oi := { dst := some 32, op := Go.Op.move (Go.Operand.tmp 26), type := 82, pos := "plan.go:38", after := #[{ on := 2, ground := Go.Ground.data }, { on := 6, ground := Go.Ground.data }, { on := 7, ground := Go.Ground.data }], guard := none }) (v := ?_) rfl (by kernel_rfl) (by kernel_rfl) (by kernel_rfl) (fun _ _ _ h => h) (Or.inl ⟨by rfl, ?_⟩) hHeld ?_
        rotate_left 1
        · (intro w hSw; (try dsimp only at hSw); go_simp <;> with_reducible rfl)
        simp only [Act.put, List.setIfInBounds_toArray, List.set_cons_zero, List.set_cons_succ]
        refine wpAnyH_ready (rs := [9, 14]) (by kernel_rfl) (by simp) ?_
        refine AllReadyH.cons (o := { dst := some 33, op := Go.Op.call { callee := Go.Callee.invoke (Go.Operand.tmp 32) "usher/command.event", args := #[Go.Operand.tmp 29], argTypes := #[68] }, type := 80, pos := "plan.go:38", after := #[{ on := 8, ground := Go.Ground.data }, { on := 5, ground := Go.Ground.data }, { on := 2, ground := Go.Ground.chain }], guard := none }) rfl (fun K hK => ?_) (AllReadyH.cons (o := { dst := some 10, op := Go.Op.alloc 54, type := 0, pos := "plan.go:38", after := #[], guard := none }) rfl (fun K hK => ?_) AllReadyH.nil)
        · go_simp
          refine (KV.out _ hb).mono ?_
          rintro e w3 ⟨⟨es3, c3, o3, rfl, hs3, ho3, hw3⟩, hb3⟩
          have hbb : Below w1.heap.size w1 w3 := bel2 hb hb3
          have hi3 := info46s es3 hs3
          have z3 : zV13.size = es3.size := hs3.symm
          have a3 := all_one ho3
          refine hK.out _ _ ⟨fun j v hv => cellW (g2 j v hv) hbb, fun j v hv => cellW (g1 j v hv) hbb⟩ (fun hHeld => ?_)
          clear hK K
          refine wpAnyH_take (i := 10) (oi := { dst := some 23, op := Go.Op.move (Go.Operand.tmp 33), type := 80, pos := "plan.go:38", after := #[{ on := 9, ground := Go.Ground.data }], guard := none }) (v := ?_) rfl (by kernel_rfl) (by kernel_rfl) (by kernel_rfl) (fun _ _ _ h => h) (Or.inl ⟨by rfl, ?_⟩) hHeld ?_
          rotate_left 1
          · (intro w hSw; (try dsimp only at hSw); go_simp <;> with_reducible rfl)
          simp only [Act.put, List.setIfInBounds_toArray, List.set_cons_zero, List.set_cons_succ]
          refine wpAnyH_take (i := 11) (oi := { dst := some 34, op := Go.Op.extract (Go.Operand.tmp 23) 0, type := 54, pos := "plan.go:38", after := #[{ on := 10, ground := Go.Ground.data }], guard := none }) (v := ?_) rfl (by kernel_rfl) (by kernel_rfl) (by kernel_rfl) (fun _ _ _ h => h) (Or.inl ⟨by rfl, ?_⟩) hHeld ?_
          rotate_left 1
          · (intro w hSw; (try dsimp only at hSw); go_simp <;> with_reducible rfl)
          simp only [Act.put, List.setIfInBounds_toArray, List.set_cons_zero, List.set_cons_succ]
          refine wpAnyH_take (i := 12) (oi := { dst := some 35, op := Go.Op.extract (Go.Operand.tmp 23) 1, type := 4, pos := "plan.go:38", after := #[{ on := 10, ground := Go.Ground.data }, { on := 15, ground := Go.Ground.gcOnly Go.Departure.lateStores }], guard := none }) (v := ?_) rfl (by kernel_rfl) (by kernel_rfl) (by kernel_rfl) (fun _ _ _ h => h) (Or.inl ⟨by rfl, ?_⟩) hHeld ?_
          rotate_left 1
          · (intro w hSw; (try dsimp only at hSw); go_simp <;> with_reducible rfl)
          simp only [Act.put, List.setIfInBounds_toArray, List.set_cons_zero, List.set_cons_succ]
          refine wpAnyH_take (i := 13) (oi := { dst := some 36, op := Go.Op.extract (Go.Operand.tmp 23) 2, type := 4, pos := "plan.go:38", after := #[{ on := 10, ground := Go.Ground.data }, { on := 16, ground := Go.Ground.gcOnly Go.Departure.lateStores }], guard := none }) (v := ?_) rfl (by kernel_rfl) (by kernel_rfl) (by kernel_rfl) (fun _ _ _ h => h) (Or.inl ⟨by rfl, ?_⟩) hHeld ?_
          rotate_left 1
          · (intro w hSw; (try dsimp only at hSw); go_simp <;> with_reducible rfl)
          simp only [Act.put, List.setIfInBounds_toArray, List.set_cons_zero, List.set_cons_succ]
          refine wpAnyH_ready (rs := [14]) (by kernel_rfl) (by simp) ?_
          refine AllReadyH.cons (o := { dst := some 10, op := Go.Op.alloc 54, type := 0, pos := "plan.go:38", after := #[], guard := none }) rfl (fun K hK => ?_) AllReadyH.nil
          go_simp
          refine hK.out _ _ ⟨fun j v hv => cellW (g2 j v hv) (bel2 hbb (bel1 _ _)), fun j v hv => cellW (g1 j v hv) (bel2 hbb (bel1 _ _))⟩ (fun hHeld => ?_)
          clear hK K
          have n3 : (w3.alloc (.cells zV13 54)).heap[w3.heap.size]? = some (.cells zV13 54 (0, 0)) := heap_alloc_new w3 _
          refine wpAnyH_ready (rs := [15]) (by kernel_rfl) (by simp) ?_
          refine AllReadyH.cons (o := { dst := none, op := Go.Op.store 54 (Go.Operand.tmp 10) (Go.Operand.tmp 34), type := 0, pos := "plan.go:38", after := #[{ on := 14, ground := Go.Ground.data }, { on := 11, ground := Go.Ground.data }, { on := 9, ground := Go.Ground.chain }, { on := 0, ground := Go.Ground.phase }, { on := 1, ground := Go.Ground.phase }, { on := 2, ground := Go.Ground.phase }, { on := 3, ground := Go.Ground.phase }, { on := 4, ground := Go.Ground.phase }, { on := 5, ground := Go.Ground.phase }, { on := 6, ground := Go.Ground.phase }, { on := 7, ground := Go.Ground.phase }, { on := 8, ground := Go.Ground.phase }, { on := 9, ground := Go.Ground.phase }, { on := 10, ground := Go.Ground.phase }, { on := 11, ground := Go.Ground.phase }, { on := 12, ground := Go.Ground.textOnly Go.Departure.lateStores }, { on := 13, ground := Go.Ground.textOnly Go.Departure.lateStores }, { on := 14, ground := Go.Ground.phase }], guard := none }) rfl (fun K hK => ?_) AllReadyH.nil
          rw [if_pos (by rfl)]
          refine wp_store_row 54 _ _ rfl w3.heap.size es3 rfl rfl 54 zV13 n3 hi3 z3 a3 ?_
          refine hK.out _ _ ⟨fun j v hv => cellW (g2 j v hv) (below_setRow (bel2 hbb (bel1 _ _)) hbb.size _), fun j v hv => cellW (g1 j v hv) (below_setRow (bel2 hbb (bel1 _ _)) hbb.size _)⟩ (fun hHeld => ?_)
          clear hK K
          refine wpAnyH_take (i := 16) (oi := { dst := some 11, op := Go.Op.assign (Go.Operand.tmp 35), type := 4, pos := "plan.go:38", after := #[{ on := 12, ground := Go.Ground.data }, { on := 15, ground := Go.Ground.chain }, { on := 0, ground := Go.Ground.phase }, { on := 1, ground := Go.Ground.phase }, { on := 2, ground := Go.Ground.phase }, { on := 3, ground := Go.Ground.phase }, { on := 4, ground := Go.Ground.phase }, { on := 5, ground := Go.Ground.phase }, { on := 6, ground := Go.Ground.phase }, { on := 7, ground := Go.Ground.phase }, { on := 8, ground := Go.Ground.phase }, { on := 9, ground := Go.Ground.phase }, { on := 10, ground := Go.Ground.phase }, { on := 11, ground := Go.Ground.phase }, { on := 12, ground := Go.Ground.phase }, { on := 13, ground := Go.Ground.textOnly Go.Departure.lateStores }, { on := 14, ground := Go.Ground.phase }, { on := 15, ground := Go.Ground.phase }], guard := none }) (v := ?_) rfl (by kernel_rfl) (by kernel_rfl) (by kernel_rfl) (fun _ _ _ h => h) (Or.inl ⟨by rfl, ?_⟩) hHeld ?_
          rotate_left 1
          · (intro w hSw; (try dsimp only at hSw); go_simp <;> with_reducible rfl)
          simp only [Act.put, List.setIfInBounds_toArray, List.set_cons_zero, List.set_cons_succ]
          refine wpAnyH_take (i := 17) (oi := { dst := some 12, op := Go.Op.assign (Go.Operand.tmp 36), type := 4, pos := "plan.go:38", after := #[{ on := 13, ground := Go.Ground.data }, { on := 16, ground := Go.Ground.chain }, { on := 0, ground := Go.Ground.phase }, { on := 1, ground := Go.Ground.phase }, { on := 2, ground := Go.Ground.phase }, { on := 3, ground := Go.Ground.phase }, { on := 4, ground := Go.Ground.phase }, { on := 5, ground := Go.Ground.phase }, { on := 6, ground := Go.Ground.phase }, { on := 7, ground := Go.Ground.phase }, { on := 8, ground := Go.Ground.phase }, { on := 9, ground := Go.Ground.phase }, { on := 10, ground := Go.Ground.phase }, { on := 11, ground := Go.Ground.phase }, { on := 12, ground := Go.Ground.phase }, { on := 13, ground := Go.Ground.phase }, { on := 14, ground := Go.Ground.phase }, { on := 15, ground := Go.Ground.phase }, { on := 16, ground := Go.Ground.phase }], guard := none }) (v := ?_) rfl (by kernel_rfl) (by kernel_rfl) (by kernel_rfl) (fun _ _ _ h => h) (Or.inl ⟨by rfl, ?_⟩) hHeld ?_
          rotate_left 1
          · (intro w hSw; (try dsimp only at hSw); go_simp <;> with_reducible rfl)
          simp only [Act.put, List.setIfInBounds_toArray, List.set_cons_zero, List.set_cons_succ]
          refine wpAnyH_done (by kernel_rfl) ?_ _
          go_wp2_with fail
          go_meet
          exact ⟨_, es3, c3, o3, rfl, rfl, rfl, setRow_heap _ _ zV13 es3 54 (0, 0) n3, hbb.size, hs3, ho3, hw3, below_setRow (bel2 hbb (bel1 _ _)) hbb.size _⟩
        · go_simp
          have hba : Below w1.heap.size w1 (w2.alloc (.cells zV13 54)) := bel2 hb (bel1 _ _)
          refine hK.out _ _ ⟨fun j v hv => cellW (g2 j v hv) hba, fun j v hv => cellW (g1 j v hv) hba⟩ (fun hHeld => ?_)
          clear hK K
          refine wpAnyH_ready (rs := [9]) (by kernel_rfl) (by simp) ?_
          refine AllReadyH.cons (o := { dst := some 33, op := Go.Op.call { callee := Go.Callee.invoke (Go.Operand.tmp 32) "usher/command.event", args := #[Go.Operand.tmp 29], argTypes := #[68] }, type := 80, pos := "plan.go:38", after := #[{ on := 8, ground := Go.Ground.data }, { on := 5, ground := Go.Ground.data }, { on := 2, ground := Go.Ground.chain }], guard := none }) rfl (fun K hK => ?_) AllReadyH.nil
          go_simp
          refine (KV.out _ hba).mono ?_
          rintro e w3 ⟨⟨es3, c3, o3, rfl, hs3, ho3, hw3⟩, hb3⟩
          have hbb : Below w1.heap.size w1 w3 := bel2 hba hb3
          have hi3 := info46s es3 hs3
          have z3 : zV13.size = es3.size := hs3.symm
          have a3 := all_one ho3
          have n3 : w3.heap[w2.heap.size]? = some (.cells zV13 54 (0, 0)) := row_below hb3 (heap_alloc_new _ _)
          refine hK.out _ _ ⟨fun j v hv => cellW (g2 j v hv) hbb, fun j v hv => cellW (g1 j v hv) hbb⟩ (fun hHeld => ?_)
          clear hK K
          refine wpAnyH_take (i := 10) (oi := { dst := some 23, op := Go.Op.move (Go.Operand.tmp 33), type := 80, pos := "plan.go:38", after := #[{ on := 9, ground := Go.Ground.data }], guard := none }) (v := ?_) rfl (by kernel_rfl) (by kernel_rfl) (by kernel_rfl) (fun _ _ _ h => h) (Or.inl ⟨by rfl, ?_⟩) hHeld ?_
          rotate_left 1
          · (intro w hSw; (try dsimp only at hSw); go_simp <;> with_reducible rfl)
          simp only [Act.put, List.setIfInBounds_toArray, List.set_cons_zero, List.set_cons_succ]
          refine wpAnyH_take (i := 11) (oi := { dst := some 34, op := Go.Op.extract (Go.Operand.tmp 23) 0, type := 54, pos := "plan.go:38", after := #[{ on := 10, ground := Go.Ground.data }], guard := none }) (v := ?_) rfl (by kernel_rfl) (by kernel_rfl) (by kernel_rfl) (fun _ _ _ h => h) (Or.inl ⟨by rfl, ?_⟩) hHeld ?_
          rotate_left 1
          · (intro w hSw; (try dsimp only at hSw); go_simp <;> with_reducible rfl)
          simp only [Act.put, List.setIfInBounds_toArray, List.set_cons_zero, List.set_cons_succ]
          refine wpAnyH_take (i := 12) (oi := { dst := some 35, op := Go.Op.extract (Go.Operand.tmp 23) 1, type := 4, pos := "plan.go:38", after := #[{ on := 10, ground := Go.Ground.data }, { on := 15, ground := Go.Ground.gcOnly Go.Departure.lateStores }], guard := none }) (v := ?_) rfl (by kernel_rfl) (by kernel_rfl) (by kernel_rfl) (fun _ _ _ h => h) (Or.inl ⟨by rfl, ?_⟩) hHeld ?_
          rotate_left 1
          · (intro w hSw; (try dsimp only at hSw); go_simp <;> with_reducible rfl)
          simp only [Act.put, List.setIfInBounds_toArray, List.set_cons_zero, List.set_cons_succ]
          refine wpAnyH_take (i := 13) (oi := { dst := some 36, op := Go.Op.extract (Go.Operand.tmp 23) 2, type := 4, pos := "plan.go:38", after := #[{ on := 10, ground := Go.Ground.data }, { on := 16, ground := Go.Ground.gcOnly Go.Departure.lateStores }], guard := none }) (v := ?_) rfl (by kernel_rfl) (by kernel_rfl) (by kernel_rfl) (fun _ _ _ h => h) (Or.inl ⟨by rfl, ?_⟩) hHeld ?_
          rotate_left 1
          · (intro w hSw; (try dsimp only at hSw); go_simp <;> with_reducible rfl)
          simp only [Act.put, List.setIfInBounds_toArray, List.set_cons_zero, List.set_cons_succ]
          refine wpAnyH_ready (rs := [15]) (by kernel_rfl) (by simp) ?_
          refine AllReadyH.cons (o := { dst := none, op := Go.Op.store 54 (Go.Operand.tmp 10) (Go.Operand.tmp 34), type := 0, pos := "plan.go:38", after := #[{ on := 14, ground := Go.Ground.data }, { on := 11, ground := Go.Ground.data }, { on := 9, ground := Go.Ground.chain }, { on := 0, ground := Go.Ground.phase }, { on := 1, ground := Go.Ground.phase }, { on := 2, ground := Go.Ground.phase }, { on := 3, ground := Go.Ground.phase }, { on := 4, ground := Go.Ground.phase }, { on := 5, ground := Go.Ground.phase }, { on := 6, ground := Go.Ground.phase }, { on := 7, ground := Go.Ground.phase }, { on := 8, ground := Go.Ground.phase }, { on := 9, ground := Go.Ground.phase }, { on := 10, ground := Go.Ground.phase }, { on := 11, ground := Go.Ground.phase }, { on := 12, ground := Go.Ground.textOnly Go.Departure.lateStores }, { on := 13, ground := Go.Ground.textOnly Go.Departure.lateStores }, { on := 14, ground := Go.Ground.phase }], guard := none }) rfl (fun K hK => ?_) AllReadyH.nil
          rw [if_pos (by rfl)]
          refine wp_store_row 54 _ _ rfl w2.heap.size es3 rfl rfl 54 zV13 n3 hi3 z3 a3 ?_
          refine hK.out _ _ ⟨fun j v hv => cellW (g2 j v hv) (below_setRow hbb hb.size _), fun j v hv => cellW (g1 j v hv) (below_setRow hbb hb.size _)⟩ (fun hHeld => ?_)
          clear hK K
          refine wpAnyH_take (i := 16) (oi := { dst := some 11, op := Go.Op.assign (Go.Operand.tmp 35), type := 4, pos := "plan.go:38", after := #[{ on := 12, ground := Go.Ground.data }, { on := 15, ground := Go.Ground.chain }, { on := 0, ground := Go.Ground.phase }, { on := 1, ground := Go.Ground.phase }, { on := 2, ground := Go.Ground.phase }, { on := 3, ground := Go.Ground.phase }, { on := 4, ground := Go.Ground.phase }, { on := 5, ground := Go.Ground.phase }, { on := 6, ground := Go.Ground.phase }, { on := 7, ground := Go.Ground.phase }, { on := 8, ground := Go.Ground.phase }, { on := 9, ground := Go.Ground.phase }, { on := 10, ground := Go.Ground.phase }, { on := 11, ground := Go.Ground.phase }, { on := 12, ground := Go.Ground.phase }, { on := 13, ground := Go.Ground.textOnly Go.Departure.lateStores }, { on := 14, ground := Go.Ground.phase }, { on := 15, ground := Go.Ground.phase }], guard := none }) (v := ?_) rfl (by kernel_rfl) (by kernel_rfl) (by kernel_rfl) (fun _ _ _ h => h) (Or.inl ⟨by rfl, ?_⟩) hHeld ?_
          rotate_left 1
          · (intro w hSw; (try dsimp only at hSw); go_simp <;> with_reducible rfl)
          simp only [Act.put, List.setIfInBounds_toArray, List.set_cons_zero, List.set_cons_succ]
          refine wpAnyH_take (i := 17) (oi := { dst := some 12, op := Go.Op.assign (Go.Operand.tmp 36), type := 4, pos := "plan.go:38", after := #[{ on := 13, ground := Go.Ground.data }, { on := 16, ground := Go.Ground.chain }, { on := 0, ground := Go.Ground.phase }, { on := 1, ground := Go.Ground.phase }, { on := 2, ground := Go.Ground.phase }, { on := 3, ground := Go.Ground.phase }, { on := 4, ground := Go.Ground.phase }, { on := 5, ground := Go.Ground.phase }, { on := 6, ground := Go.Ground.phase }, { on := 7, ground := Go.Ground.phase }, { on := 8, ground := Go.Ground.phase }, { on := 9, ground := Go.Ground.phase }, { on := 10, ground := Go.Ground.phase }, { on := 11, ground := Go.Ground.phase }, { on := 12, ground := Go.Ground.phase }, { on := 13, ground := Go.Ground.phase }, { on := 14, ground := Go.Ground.phase }, { on := 15, ground := Go.Ground.phase }, { on := 16, ground := Go.Ground.phase }], guard := none }) (v := ?_) rfl (by kernel_rfl) (by kernel_rfl) (by kernel_rfl) (fun _ _ _ h => h) (Or.inl ⟨by rfl, ?_⟩) hHeld ?_
          rotate_left 1
          · (intro w hSw; (try dsimp only at hSw); go_simp <;> with_reducible rfl)
          simp only [Act.put, List.setIfInBounds_toArray, List.set_cons_zero, List.set_cons_succ]
          refine wpAnyH_done (by kernel_rfl) ?_ _
          go_wp2_with fail
          go_meet
          exact ⟨_, es3, c3, o3, rfl, rfl, rfl, setRow_heap _ _ zV13 es3 54 (0, 0) n3, hb.size, hs3, ho3, hw3, below_setRow hbb hb.size _⟩
      · go_simp
        have hb0 : Below w1.heap.size w1 (w1.alloc (.cells zV13 54)).drew := (bel1 _ _).drew
        refine hK.out _ _ ⟨fun j v hv => cellW (g2 j v hv) hb0, fun j v hv => cellW (g1 j v hv) hb0⟩ (fun hHeld => ?_)
        clear hK K
        refine wpAnyH_ready (rs := [2]) (by kernel_rfl) (by simp) ?_
        refine AllReadyH.cons (o := { dst := some 26, op := Go.Op.call { callee := Go.Callee.value (Go.Operand.func 41), args := #[Go.Operand.tmp 24, Go.Operand.tmp 25], argTypes := #[27, 3] }, type := 82, pos := "plan.go:38", after := #[{ on := 0, ground := Go.Ground.data }, { on := 1, ground := Go.Ground.data }], guard := none }) rfl (fun K hK => ?_) AllReadyH.nil
        go_simp
        refine (wishN_calls k s vk vx vb vs la ll lc d t HK4.out HK5.out HK1.out _).mono ?_
        rintro e w2 ⟨rfl, hb1⟩
        have hba : Below w1.heap.size w1 w2 := bel2 hb0 hb1
        have n2 : w2.heap[w1.heap.size]? = some (.cells zV13 54 (0, 0)) := row_below hb1 (heap_alloc_new w1 _)
        refine hK.out _ _ ⟨fun j v hv => cellW (g2 j v hv) hba, fun j v hv => cellW (g1 j v hv) hba⟩ (fun hHeld => ?_)
        clear hK K
        refine wpAnyH_take (i := 6) (oi := { dst := some 30, op := Go.Op.makeFunc (Go.Fn.method "usher/command.event") #[Go.Operand.tmp 26] #[], type := 84, pos := "plan.go:38", after := #[{ on := 2, ground := Go.Ground.data }], guard := none }) (v := ?_) rfl (by kernel_rfl) (by kernel_rfl) (by kernel_rfl) (fun _ _ _ h => h) (Or.inl ⟨by rfl, ?_⟩) hHeld ?_
        rotate_left 1
        · (intro w hSw; (try dsimp only at hSw); go_simp <;> with_reducible rfl)
        simp only [Act.put, List.setIfInBounds_toArray, List.set_cons_zero, List.set_cons_succ]
        refine wpAnyH_take (i := 7) (oi := { dst := some 31, op := Go.Op.nilCheck (Go.Operand.tmp 30), type := 84, pos := "plan.go:38", after := #[{ on := 6, ground := Go.Ground.data }], guard := none }) (v := ?_) rfl (by kernel_rfl) (by kernel_rfl) (by kernel_rfl) (fun _ _ _ h => h) (Or.inl ⟨by rfl, ?_⟩) hHeld ?_
        rotate_left 1
        · (intro w hSw; (try dsimp only at hSw); go_simp <;> with_reducible rfl)
        simp only [Act.put, List.setIfInBounds_toArray, List.set_cons_zero, List.set_cons_succ]
        refine wpAnyH_take (i := 8) (oi := { dst := some 32, op := Go.Op.move (Go.Operand.tmp 26), type := 82, pos := "plan.go:38", after := #[{ on := 2, ground := Go.Ground.data }, { on := 6, ground := Go.Ground.data }, { on := 7, ground := Go.Ground.data }], guard := none }) (v := ?_) rfl (by kernel_rfl) (by kernel_rfl) (by kernel_rfl) (fun _ _ _ h => h) (Or.inl ⟨by rfl, ?_⟩) hHeld ?_
        rotate_left 1
        · (intro w hSw; (try dsimp only at hSw); go_simp <;> with_reducible rfl)
        simp only [Act.put, List.setIfInBounds_toArray, List.set_cons_zero, List.set_cons_succ]
        refine wpAnyH_ready (rs := [9]) (by kernel_rfl) (by simp) ?_
        refine AllReadyH.cons (o := { dst := some 33, op := Go.Op.call { callee := Go.Callee.invoke (Go.Operand.tmp 32) "usher/command.event", args := #[Go.Operand.tmp 29], argTypes := #[68] }, type := 80, pos := "plan.go:38", after := #[{ on := 8, ground := Go.Ground.data }, { on := 5, ground := Go.Ground.data }, { on := 2, ground := Go.Ground.chain }], guard := none }) rfl (fun K hK => ?_) AllReadyH.nil
        go_simp
        refine (KV.out _ hba).mono ?_
        rintro e w3 ⟨⟨es3, c3, o3, rfl, hs3, ho3, hw3⟩, hb3⟩
        have hbb : Below w1.heap.size w1 w3 := bel2 hba hb3
        have hi3 := info46s es3 hs3
        have z3 : zV13.size = es3.size := hs3.symm
        have a3 := all_one ho3
        have n3 : w3.heap[w1.heap.size]? = some (.cells zV13 54 (0, 0)) := row_below hb3 n2
        refine hK.out _ _ ⟨fun j v hv => cellW (g2 j v hv) hbb, fun j v hv => cellW (g1 j v hv) hbb⟩ (fun hHeld => ?_)
        clear hK K
        refine wpAnyH_take (i := 10) (oi := { dst := some 23, op := Go.Op.move (Go.Operand.tmp 33), type := 80, pos := "plan.go:38", after := #[{ on := 9, ground := Go.Ground.data }], guard := none }) (v := ?_) rfl (by kernel_rfl) (by kernel_rfl) (by kernel_rfl) (fun _ _ _ h => h) (Or.inl ⟨by rfl, ?_⟩) hHeld ?_
        rotate_left 1
        · (intro w hSw; (try dsimp only at hSw); go_simp <;> with_reducible rfl)
        simp only [Act.put, List.setIfInBounds_toArray, List.set_cons_zero, List.set_cons_succ]
        refine wpAnyH_take (i := 11) (oi := { dst := some 34, op := Go.Op.extract (Go.Operand.tmp 23) 0, type := 54, pos := "plan.go:38", after := #[{ on := 10, ground := Go.Ground.data }], guard := none }) (v := ?_) rfl (by kernel_rfl) (by kernel_rfl) (by kernel_rfl) (fun _ _ _ h => h) (Or.inl ⟨by rfl, ?_⟩) hHeld ?_
        rotate_left 1
        · (intro w hSw; (try dsimp only at hSw); go_simp <;> with_reducible rfl)
        simp only [Act.put, List.setIfInBounds_toArray, List.set_cons_zero, List.set_cons_succ]
        refine wpAnyH_take (i := 12) (oi := { dst := some 35, op := Go.Op.extract (Go.Operand.tmp 23) 1, type := 4, pos := "plan.go:38", after := #[{ on := 10, ground := Go.Ground.data }, { on := 15, ground := Go.Ground.gcOnly Go.Departure.lateStores }], guard := none }) (v := ?_) rfl (by kernel_rfl) (by kernel_rfl) (by kernel_rfl) (fun _ _ _ h => h) (Or.inl ⟨by rfl, ?_⟩) hHeld ?_
        rotate_left 1
        · (intro w hSw; (try dsimp only at hSw); go_simp <;> with_reducible rfl)
        simp only [Act.put, List.setIfInBounds_toArray, List.set_cons_zero, List.set_cons_succ]
        refine wpAnyH_take (i := 13) (oi := { dst := some 36, op := Go.Op.extract (Go.Operand.tmp 23) 2, type := 4, pos := "plan.go:38", after := #[{ on := 10, ground := Go.Ground.data }, { on := 16, ground := Go.Ground.gcOnly Go.Departure.lateStores }], guard := none }) (v := ?_) rfl (by kernel_rfl) (by kernel_rfl) (by kernel_rfl) (fun _ _ _ h => h) (Or.inl ⟨by rfl, ?_⟩) hHeld ?_
        rotate_left 1
        · (intro w hSw; (try dsimp only at hSw); go_simp <;> with_reducible rfl)
        simp only [Act.put, List.setIfInBounds_toArray, List.set_cons_zero, List.set_cons_succ]
        refine wpAnyH_ready (rs := [15]) (by kernel_rfl) (by simp) ?_
        refine AllReadyH.cons (o := { dst := none, op := Go.Op.store 54 (Go.Operand.tmp 10) (Go.Operand.tmp 34), type := 0, pos := "plan.go:38", after := #[{ on := 14, ground := Go.Ground.data }, { on := 11, ground := Go.Ground.data }, { on := 9, ground := Go.Ground.chain }, { on := 0, ground := Go.Ground.phase }, { on := 1, ground := Go.Ground.phase }, { on := 2, ground := Go.Ground.phase }, { on := 3, ground := Go.Ground.phase }, { on := 4, ground := Go.Ground.phase }, { on := 5, ground := Go.Ground.phase }, { on := 6, ground := Go.Ground.phase }, { on := 7, ground := Go.Ground.phase }, { on := 8, ground := Go.Ground.phase }, { on := 9, ground := Go.Ground.phase }, { on := 10, ground := Go.Ground.phase }, { on := 11, ground := Go.Ground.phase }, { on := 12, ground := Go.Ground.textOnly Go.Departure.lateStores }, { on := 13, ground := Go.Ground.textOnly Go.Departure.lateStores }, { on := 14, ground := Go.Ground.phase }], guard := none }) rfl (fun K hK => ?_) AllReadyH.nil
        rw [if_pos (by rfl)]
        refine wp_store_row 54 _ _ rfl w1.heap.size es3 rfl rfl 54 zV13 n3 hi3 z3 a3 ?_
        refine hK.out _ _ ⟨fun j v hv => cellW (g2 j v hv) (below_setRow hbb (Nat.le_refl _) _), fun j v hv => cellW (g1 j v hv) (below_setRow hbb (Nat.le_refl _) _)⟩ (fun hHeld => ?_)
        clear hK K
        refine wpAnyH_take (i := 16) (oi := { dst := some 11, op := Go.Op.assign (Go.Operand.tmp 35), type := 4, pos := "plan.go:38", after := #[{ on := 12, ground := Go.Ground.data }, { on := 15, ground := Go.Ground.chain }, { on := 0, ground := Go.Ground.phase }, { on := 1, ground := Go.Ground.phase }, { on := 2, ground := Go.Ground.phase }, { on := 3, ground := Go.Ground.phase }, { on := 4, ground := Go.Ground.phase }, { on := 5, ground := Go.Ground.phase }, { on := 6, ground := Go.Ground.phase }, { on := 7, ground := Go.Ground.phase }, { on := 8, ground := Go.Ground.phase }, { on := 9, ground := Go.Ground.phase }, { on := 10, ground := Go.Ground.phase }, { on := 11, ground := Go.Ground.phase }, { on := 12, ground := Go.Ground.phase }, { on := 13, ground := Go.Ground.textOnly Go.Departure.lateStores }, { on := 14, ground := Go.Ground.phase }, { on := 15, ground := Go.Ground.phase }], guard := none }) (v := ?_) rfl (by kernel_rfl) (by kernel_rfl) (by kernel_rfl) (fun _ _ _ h => h) (Or.inl ⟨by rfl, ?_⟩) hHeld ?_
        rotate_left 1
        · (intro w hSw; (try dsimp only at hSw); go_simp <;> with_reducible rfl)
        simp only [Act.put, List.setIfInBounds_toArray, List.set_cons_zero, List.set_cons_succ]
        refine wpAnyH_take (i := 17) (oi := { dst := some 12, op := Go.Op.assign (Go.Operand.tmp 36), type := 4, pos := "plan.go:38", after := #[{ on := 13, ground := Go.Ground.data }, { on := 16, ground := Go.Ground.chain }, { on := 0, ground := Go.Ground.phase }, { on := 1, ground := Go.Ground.phase }, { on := 2, ground := Go.Ground.phase }, { on := 3, ground := Go.Ground.phase }, { on := 4, ground := Go.Ground.phase }, { on := 5, ground := Go.Ground.phase }, { on := 6, ground := Go.Ground.phase }, { on := 7, ground := Go.Ground.phase }, { on := 8, ground := Go.Ground.phase }, { on := 9, ground := Go.Ground.phase }, { on := 10, ground := Go.Ground.phase }, { on := 11, ground := Go.Ground.phase }, { on := 12, ground := Go.Ground.phase }, { on := 13, ground := Go.Ground.phase }, { on := 14, ground := Go.Ground.phase }, { on := 15, ground := Go.Ground.phase }, { on := 16, ground := Go.Ground.phase }], guard := none }) (v := ?_) rfl (by kernel_rfl) (by kernel_rfl) (by kernel_rfl) (fun _ _ _ h => h) (Or.inl ⟨by rfl, ?_⟩) hHeld ?_
        rotate_left 1
        · (intro w hSw; (try dsimp only at hSw); go_simp <;> with_reducible rfl)
        simp only [Act.put, List.setIfInBounds_toArray, List.set_cons_zero, List.set_cons_succ]
        refine wpAnyH_done (by kernel_rfl) ?_ _
        go_wp2_with fail
        go_meet
        exact ⟨_, es3, c3, o3, rfl, rfl, rfl, setRow_heap _ _ zV13 es3 54 (0, 0) n3, Nat.le_refl _, hs3, ho3, hw3, below_setRow hbb (Nat.le_refl _) _⟩
    case rest =>
      obtain ⟨g, es3, c3, o3, rfl, rfl, rfl, r10, hg, hs3, ho3, hw3, hb3⟩ := hcut
      have b2 : Hid (Below w.heap.size w wc) := bel2 HB.out hb3
      have HD : Hid (DrI lo Bd (n + 1) va dr wc cs ve vr es rs) := HW.out.below b2.out
      have r5c := row_below hb3 r5'
      have HBl : Hid (Below lo w wc) := b2.out.mono (by have := HL.out; omega)
      have hi3 := info46s es3 hs3
      clear KW KU g1 g2 hi68 hb3 hg hs3 ho3 r5'
      cases hwr : wshR dr.s asks dr.rf ⟨k, s, tv, d⟩ t with
      | no =>
        rw [hwr] at hw3
        have HWR : Hid (wshR dr.s asks dr.rf ⟨k, s, tv, d⟩ t = .no) := hwr
        obtain rfl : o3 = false := hw3
        clear hwr
        go_wp2_with fail
        exact HQ1.out 18 _ (by decide) (fun d2 hT => by have := hT.2.2; rw [HWR.out] at this; exact this) (fun hm hc hl hf => by have := (HM.out.2 hc).2; rw [hf] at this; cases this) HBl.out
      | ev x =>
        rw [hwr] at hw3
        have HWR : Hid (wshR dr.s asks dr.rf ⟨k, s, tv, d⟩ t = .ev x) := hwr
        obtain ⟨rfl, rfl, hx⟩ := hw3
        have hpx := wsh_ev hwr
        have KA : Hid (Calls Tryz.prog 42 #[.pointer (some ⟨Bd, 0, none⟩), .agg es3] wc (AddP lo Bd n va dr x wc)) := add_calls lo Bd n va dr x cs es3 ve vr es rs wc HD.out (hx.map fun v t hv => hv.keep (fun _ _ h => h) (fun b hl hb => b2.out.block b hl)) (by rw [hpx.1]; decide) (by
          rcases hpx.2 with e | ⟨i, a, ha, e⟩
          · rw [e]; exact HA.out.2.2.2.1
          · rw [e]; exact HA.out.2.2.1 i a ha) HA.out.2.2.2.2.1 HA.out.2.2.2.2.2.1
        clear hwr hx hpx
        go_wp2_with (refine wpList_load_row rfl 54 _ rfl g rfl 54 es3 (0, 0) _ r10 Tryz.underlying54 rfl hi3 ?_)
        refine KA.out.mono ?_
        rintro e w4 ⟨⟨code, rfl, hcase⟩, hb4⟩
        have HB4 : Hid (Below lo w w4) := HBl.out.trans hb4
        have HC : Hid ((code = 0 ∧ ∃ s2 cs2 ve2 vr2 es2 rs2, StR (n + 1) dr.s x s2 0 ∧ DrI lo Bd (n + 1) va ⟨s2, dr.ev ++ [x], dr.rf⟩ w4 cs2 ve2 vr2 es2 rs2) ∨ (code ≠ 0 ∧ ∀ s2, ¬ StR (n + 1) dr.s x s2 0)) := hcase
        clear hcase hb4 KA r10
        go_wp2_with fail
        rcases HC.out with ⟨rfl, s2, cs2, ve2, vr2, es2, rs2, hst, hd2⟩ | ⟨hc0, hno⟩
        · exact HQ0.out _ ⟨⟨s2, dr.ev ++ [x], dr.rf⟩, cs2, ve2, vr2, es2, rs2, ⟨HM.out.1, HM.out.2, by rw [HWR.out]; exact ⟨s2, hst, rfl⟩⟩, hd2⟩ HB4.out
        · exact HQ1.out code _ hc0 (fun d2 hT => by have := hT.2.2; rw [HWR.out] at this; obtain ⟨s2, h2, _⟩ := this; exact hno s2 h2) (fun hm hc hl hf => by have := (HM.out.2 hc).2; rw [hf] at this; cases this) HB4.out
      | rf =>
        rw [hwr] at hw3
        have HWR : Hid (wshR dr.s asks dr.rf ⟨k, s, tv, d⟩ t = .rf) := hwr
        obtain ⟨rfl, rfl⟩ := hw3
        have H8 : Hid (At8 wc g5 (.int .i64 k) (.string s) (.int .i64 vk) (.int .i64 vx) (.int .u64 vb) (.string vs) (.slice la ll lc) (.int .i64 d)) := at8_row r5c
        have c33 : wc.cell? ⟨Bd, 33, none⟩ = some vr := row_cell HD.out.row (drf_33 HD.out.st.size va ve vr)
        have CV : Hid (∀ W, Below wc.heap.size wc W → _) := fun W hb => cloneW (n + 1) _ _ W (HV.out.is.below (bel2 b2.out hb)) HA.out.2.2.2.1
        clear hwr r10 hi3
        go_upto_region 9 with fail
        refine wp_region_held_drew (S := (fun w' => w'.cell? ⟨g5, 0, none⟩ = some (.int .i64 k) ∧ w'.cell? ⟨g5, 1, none⟩ = some (.string s) ∧ w'.cell? ⟨g5, 2, none⟩ = some (.int .i64 vk) ∧ w'.cell? ⟨g5, 3, none⟩ = some (.int .i64 vx) ∧ w'.cell? ⟨g5, 4, none⟩ = some (.int .u64 vb) ∧ w'.cell? ⟨g5, 5, none⟩ = some (.string vs) ∧ w'.cell? ⟨g5, 6, none⟩ = some (.slice la ll lc) ∧ w'.cell? ⟨g5, 7, none⟩ = some (.int .i64 d))) (by kernel_rfl) H8.out (fun hHeld => ?_)
        change wpAnyH _ _ _ _ _ _ _ _ (World.drew _)
        refine wpAnyH_take (i := 0) (oi := { dst := some 45, op := Go.Op.move (Go.Operand.tmp 0), type := 78, pos := "plan.go:45", after := #[], guard := none }) (v := ?_) rfl (by kernel_rfl) (by kernel_rfl) (by kernel_rfl) (fun _ _ _ h => h) (Or.inl ⟨by rfl, ?_⟩) hHeld ?_
        rotate_left 1
        · (intro w hSw; (try dsimp only at hSw); go_simp <;> with_reducible rfl)
        simp only [Act.put, List.setIfInBounds_toArray, List.set_cons_zero, List.set_cons_succ]
        refine wpAnyH_take (i := 1) (oi := { dst := some 46, op := Go.Op.move (Go.Operand.tmp 0), type := 78, pos := "plan.go:45", after := #[], guard := none }) (v := ?_) rfl (by kernel_rfl) (by kernel_rfl) (by kernel_rfl) (fun _ _ _ h => h) (Or.inl ⟨by rfl, ?_⟩) hHeld ?_
        rotate_left 1
        · (intro w hSw; (try dsimp only at hSw); go_simp <;> with_reducible rfl)
        simp only [Act.put, List.setIfInBounds_toArray, List.set_cons_zero, List.set_cons_succ]
        refine wpAnyH_take (i := 2) (oi := { dst := some 47, op := Go.Op.nilCheck (Go.Operand.tmp 46), type := 0, pos := "plan.go:45", after := #[{ on := 1, ground := Go.Ground.data }], guard := none }) (v := ?_) rfl (by kernel_rfl) (by kernel_rfl) (by kernel_rfl) (fun _ _ _ h => h) (Or.inl ⟨by rfl, ?_⟩) hHeld ?_
        rotate_left 1
        · (intro w hSw; (try dsimp only at hSw); go_simp <;> with_reducible rfl)
        simp only [Act.put, List.setIfInBounds_toArray, List.set_cons_zero, List.set_cons_succ]
        refine wpAnyH_take (i := 3) (oi := { dst := some 48, op := Go.Op.fieldAddr 68 (Go.Operand.tmp 47) 3, type := 0, pos := "plan.go:45", after := #[{ on := 2, ground := Go.Ground.data }], guard := none }) (v := ?_) rfl (by kernel_rfl) (by kernel_rfl) (by kernel_rfl) (fun _ _ _ h => h) (Or.inl ⟨by rfl, ?_⟩) hHeld ?_
        rotate_left 1
        · (intro w hSw; (try dsimp only at hSw); go_simp <;> with_reducible rfl)
        simp only [Act.put, List.setIfInBounds_toArray, List.set_cons_zero, List.set_cons_succ]
        refine wpAnyH_take (i := 5) (oi := { dst := some 50, op := Go.Op.fieldAddr 27 (Go.Operand.tmp 5) 1, type := 0, pos := "plan.go:45", after := #[], guard := none }) (v := ?_) rfl (by kernel_rfl) (by kernel_rfl) (by kernel_rfl) (fun _ _ _ h => h) (Or.inl ⟨by rfl, ?_⟩) hHeld ?_
        rotate_left 1
        · (intro w hSw; (try dsimp only at hSw); go_simp <;> with_reducible rfl)
        simp only [Act.put, List.setIfInBounds_toArray, List.set_cons_zero, List.set_cons_succ]
        refine wpAnyH_take (i := 6) (oi := { dst := some 51, op := Go.Op.load 9 (Go.Operand.tmp 50), type := 9, pos := "plan.go:45", after := #[{ on := 5, ground := Go.Ground.data }], guard := none }) (v := ?_) rfl (by kernel_rfl) (by kernel_rfl) (by kernel_rfl) (fun _ _ _ h => h) (Or.inl ⟨by rfl, ?_⟩) hHeld ?_
        rotate_left 1
        · (intro w hSw; (try dsimp only at hSw); go_simp <;> with_reducible rfl)
        simp only [Act.put, List.setIfInBounds_toArray, List.set_cons_zero, List.set_cons_succ]
        refine wpAnyH_take (i := 7) (oi := { dst := some 52, op := Go.Op.fieldAddr 27 (Go.Operand.tmp 5) 2, type := 0, pos := "plan.go:45", after := #[], guard := none }) (v := ?_) rfl (by kernel_rfl) (by kernel_rfl) (by kernel_rfl) (fun _ _ _ h => h) (Or.inl ⟨by rfl, ?_⟩) hHeld ?_
        rotate_left 1
        · (intro w hSw; (try dsimp only at hSw); go_simp <;> with_reducible rfl)
        simp only [Act.put, List.setIfInBounds_toArray, List.set_cons_zero, List.set_cons_succ]
        refine wpAnyH_take (i := 8) (oi := { dst := some 53, op := Go.Op.load 25 (Go.Operand.tmp 52), type := 25, pos := "plan.go:45", after := #[{ on := 7, ground := Go.Ground.data }], guard := none }) (v := ?_) rfl (by kernel_rfl) (by kernel_rfl) (by kernel_rfl) (fun _ _ _ h => h) (Or.inl ⟨by rfl, ?_⟩) hHeld ?_
        rotate_left 1
        · (intro w hSw; (try dsimp only at hSw); go_simp <;> with_reducible rfl)
        simp only [Act.put, List.setIfInBounds_toArray, List.set_cons_zero, List.set_cons_succ]
        refine wpAnyH_ready (rs := [4, 9]) (by kernel_rfl) (by simp) ?_
        refine AllReadyH.cons (o := { dst := some 49, op := Go.Op.load 42 (Go.Operand.tmp 48), type := 42, pos := "plan.go:45", after := #[{ on := 3, ground := Go.Ground.data }], guard := none }) rfl (fun K hK => ?_) (AllReadyH.cons (o := { dst := some 54, op := Go.Op.call { callee := Go.Callee.value (Go.Operand.func 43), args := #[Go.Operand.tmp 53], argTypes := #[25] }, type := 25, pos := "plan.go:45", after := #[{ on := 8, ground := Go.Ground.data }], guard := none }) rfl (fun K hK => ?_) AllReadyH.nil)
        · go_simp
          refine hK.out _ _ H8.out (fun hHeld => ?_)
          clear hK K
          refine wpAnyH_ready (rs := [9]) (by kernel_rfl) (by simp) ?_
          refine AllReadyH.cons (o := { dst := some 54, op := Go.Op.call { callee := Go.Callee.value (Go.Operand.func 43), args := #[Go.Operand.tmp 53], argTypes := #[25] }, type := 25, pos := "plan.go:45", after := #[{ on := 8, ground := Go.Ground.data }], guard := none }) rfl (fun K hK => ?_) AllReadyH.nil
          go_simp
          refine (CV.out _ (Below.refl _ wc).drew).mono ?_
          rintro e w4 ⟨⟨v4, rfl, hn4⟩, hb4⟩
          obtain ⟨k4, x4, b4, s4, a4, m4, c4, rfl⟩ := hn4.shape
          have hbc : Below wc.heap.size wc w4 := bel2 (Below.refl _ wc).drew hb4
          have hD4 := (HD.out.below hbc).below (bel1 w4 (.cells (#[.int .i64 0, .string s, .int .i64 k4, .int .i64 x4, .int .u64 b4, .string s4, .slice a4 m4 c4] : Array Value) 48))
          have hI4 : IsA (IsP (okD Bd ve vr) (w4.alloc (.cells (#[.int .i64 0, .string s, .int .i64 k4, .int .i64 x4, .int .u64 b4, .string s4, .slice a4 m4 c4] : Array Value) 48)) (n + 1)) (#[.int .i64 0, .string s, .int .i64 k4, .int .i64 x4, .int .u64 b4, .string s4, .slice a4 m4 c4] : Array Value) ⟨0, s, tv⟩ := { size := rfl, c0 := rfl, c1 := rfl, v := ⟨k4, x4, b4, s4, a4, m4, c4, rfl, rfl, rfl, rfl, rfl, hn4.isP.keep (fun b _ hf => HD.out.fresh hf.1) (fun b hl _ => (bel1 w4 _).block b hl)⟩ }
          obtain ⟨a', c', w', hrun, hrow', hD5, hB5, hkp5⟩ := hD4.addRf (src := w4.heap.size) (r := (#[.int .i64 0, .string s, .int .i64 k4, .int .i64 x4, .int .u64 b4, .string s4, .slice a4 m4 c4] : Array Value)) (x := ⟨0, s, tv⟩) (t := 48) (fr := (0, 0)) (heap_alloc_new w4 _) (by have := HA.out.2.2.2.2.2.2; omega) hI4
          have HRun : Hid (∀ ty, (Builtin.append_ #[42, 42] ty #[vr, .slice (some ⟨w4.heap.size, 0, none⟩) 1 1]).run Tryz.prog (w4.alloc (.cells (#[.int .i64 0, .string s, .int .i64 k4, .int .i64 x4, .int .u64 b4, .string s4, .slice a4 m4 c4] : Array Value) 48)) = .ok (.slice a' (rs.length + 1) c') w') := hrun
          have HD9 : Hid (∃ d2 cs2 ve2 vr2 es2 rs2, TkS (n + 1) asks last t ⟨k, s, tv, d⟩ dr d2 ∧ DrI lo Bd (n + 1) va d2 (w'.setCell ⟨Bd, 33, none⟩ (.slice a' (rs.length + 1) c')) cs2 ve2 vr2 es2 rs2) := ⟨_, cs, ve, _, es, _, ⟨HM.out.1, HM.out.2, by rw [HWR.out]; rfl⟩, hD5⟩
          have H8w : Hid (At8 w' g5 (.int .i64 k) (.string s) (.int .i64 vk) (.int .i64 vx) (.int .u64 vb) (.string vs) (.slice la ll lc) (.int .i64 d)) := by
            have hg5 : g5 < w4.heap.size := Nat.lt_of_lt_of_le (Array.getElem?_eq_some_iff.1 r5c).1 hbc.size
            have e := (hkp5 g5 (Nat.lt_of_lt_of_le hg5 (bel1 w4 _).size) (fun e => by have := (World.ownsRow.lt HW.out.rfo g5 e).2; have := HG5.out; omega)).trans ((bel1 w4 _).block g5 hg5)
            exact at8_row (e.trans (row_below hbc r5c))
          have H8x : Hid (At8 (w'.setCell ⟨Bd, 33, none⟩ (.slice a' (rs.length + 1) c')) g5 (.int .i64 k) (.string s) (.int .i64 vk) (.int .i64 vx) (.int .u64 vb) (.string vs) (.slice la ll lc) (.int .i64 d)) := H8w.out.kb (KB.setCell Bd w' 33 _) (by have := HG5.out; have := HL.out; omega)
          have HB9 : Hid (Below lo w (w'.setCell ⟨Bd, 33, none⟩ (.slice a' (rs.length + 1) c'))) := by
            have hl4 : lo ≤ wc.heap.size := by have := HBl.out.size; have := HL.out; omega
            have hx := (HBl.out.trans ((bel2 hbc (bel1 w4 (.cells (#[.int .i64 0, .string s, .int .i64 k4, .int .i64 x4, .int .u64 b4, .string s4, .slice a4 m4 c4] : Array Value) 48))).mono hl4)).trans hB5
            exact hx.trans ((KB.setCell _ _ _ _).below HL.out.1 (by have := hx.size; have := HL.out; omega))
          have z33 : w'.cell? ⟨Bd, 33, none⟩ = some vr := row_cell hrow' (drf_33 HD.out.st.size va ve vr)
          have f33 : w'.frozen? ⟨Bd, 33, none⟩ = false := frozen_of_row w' _ 33 _ 68 hrow'
          have y33 : w4.cell? ⟨Bd, 33, none⟩ = some vr := cellW c33 hbc
          have y33b : (w4.alloc (.cells (#[.int .i64 0, .string s, .int .i64 k4, .int .i64 x4, .int .u64 b4, .string s4, .slice a4 m4 c4] : Array Value) 48)).cell? ⟨Bd, 33, none⟩ = some vr := cellW y33 (bel1 _ _)
          have H84 : Hid (At8 w4 g5 (.int .i64 k) (.string s) (.int .i64 vk) (.int .i64 vx) (.int .u64 vb) (.string vs) (.slice la ll lc) (.int .i64 d)) := H8.out.below hbc
          have H85 : Hid (At8 (w4.alloc (.cells (#[.int .i64 0, .string s, .int .i64 k4, .int .i64 x4, .int .u64 b4, .string s4, .slice a4 m4 c4] : Array Value) 48)) g5 (.int .i64 k) (.string s) (.int .i64 vk) (.int .i64 vx) (.int .u64 vb) (.string vs) (.slice la ll lc) (.int .i64 d)) := H84.out.below (bel1 _ _)
          clear hkp5 hD4 hI4 hrun hD5 hrow' hn4
          refine hK.out _ _ H84.out (fun hHeld => ?_)
          clear hK K
          refine wpAnyH_take (i := 10) (oi := { dst := some 55, op := Go.Op.build 48 #[(1, Go.Operand.tmp 51), (2, Go.Operand.tmp 54)], type := 48, pos := "plan.go:45", after := #[{ on := 6, ground := Go.Ground.data }, { on := 9, ground := Go.Ground.data }], guard := none }) (v := ?_) rfl (by kernel_rfl) (by kernel_rfl) (by kernel_rfl) (fun _ _ _ h => h) (Or.inl ⟨by rfl, ?_⟩) hHeld ?_
          rotate_left 1
          · (intro w hSw; (try dsimp only at hSw); go_simp <;> with_reducible rfl)
          simp only [Act.put, List.setIfInBounds_toArray, List.set_cons_zero, List.set_cons_succ]
          refine wpAnyH_ready (rs := [11]) (by kernel_rfl) (by simp) ?_
          refine AllReadyH.cons (o := { dst := some 56, op := Go.Op.buildSlice 42 1 #[(0, Go.Operand.tmp 55)], type := 42, pos := "plan.go:45", after := #[{ on := 10, ground := Go.Ground.data }], guard := none }) rfl (fun K hK => ?_) AllReadyH.nil
          go_simp
          refine hK.out _ _ H85.out (fun hHeld => ?_)
          clear hK K
          refine wpAnyH_ready (rs := [12]) (by kernel_rfl) (by simp) ?_
          refine AllReadyH.cons (o := { dst := some 57, op := Go.Op.call { callee := Go.Callee.builtin Go.Builtin.append, args := #[Go.Operand.tmp 49, Go.Operand.tmp 56], argTypes := #[42, 42] }, type := 42, pos := "plan.go:45", after := #[{ on := 4, ground := Go.Ground.data }, { on := 11, ground := Go.Ground.data }, { on := 9, ground := Go.Ground.chain }], guard := none }) rfl (fun K hK => ?_) AllReadyH.nil
          rw [if_pos (by rfl)]
          refine Lib.wp_append_run _ _ _ 42 42 rfl _ _ rfl rfl _ _ (HRun.out _) ?_
          refine hK.out _ _ H8w.out (fun hHeld => ?_)
          clear hK K
          refine wpAnyH_take (i := 13) (oi := { dst := some 58, op := Go.Op.nilCheck (Go.Operand.tmp 45), type := 0, pos := "plan.go:45", after := #[{ on := 0, ground := Go.Ground.data }, { on := 0, ground := Go.Ground.phase }, { on := 1, ground := Go.Ground.phase }, { on := 2, ground := Go.Ground.phase }, { on := 3, ground := Go.Ground.phase }, { on := 4, ground := Go.Ground.phase }, { on := 5, ground := Go.Ground.phase }, { on := 6, ground := Go.Ground.phase }, { on := 7, ground := Go.Ground.phase }, { on := 8, ground := Go.Ground.phase }, { on := 9, ground := Go.Ground.phase }, { on := 10, ground := Go.Ground.phase }, { on := 11, ground := Go.Ground.phase }, { on := 12, ground := Go.Ground.phase }], guard := none }) (v := ?_) rfl (by kernel_rfl) (by kernel_rfl) (by kernel_rfl) (fun _ _ _ h => h) (Or.inl ⟨by rfl, ?_⟩) hHeld ?_
          rotate_left 1
          · (intro w hSw; (try dsimp only at hSw); go_simp <;> with_reducible rfl)
          simp only [Act.put, List.setIfInBounds_toArray, List.set_cons_zero, List.set_cons_succ]
          refine wpAnyH_take (i := 14) (oi := { dst := some 59, op := Go.Op.fieldAddr 68 (Go.Operand.tmp 58) 3, type := 0, pos := "plan.go:45", after := #[{ on := 13, ground := Go.Ground.data }, { on := 0, ground := Go.Ground.phase }, { on := 1, ground := Go.Ground.phase }, { on := 2, ground := Go.Ground.phase }, { on := 3, ground := Go.Ground.phase }, { on := 4, ground := Go.Ground.phase }, { on := 5, ground := Go.Ground.phase }, { on := 6, ground := Go.Ground.phase }, { on := 7, ground := Go.Ground.phase }, { on := 8, ground := Go.Ground.phase }, { on := 9, ground := Go.Ground.phase }, { on := 10, ground := Go.Ground.phase }, { on := 11, ground := Go.Ground.phase }, { on := 12, ground := Go.Ground.phase }], guard := none }) (v := ?_) rfl (by kernel_rfl) (by kernel_rfl) (by kernel_rfl) (fun _ _ _ h => h) (Or.inl ⟨by rfl, ?_⟩) hHeld ?_
          rotate_left 1
          · (intro w hSw; (try dsimp only at hSw); go_simp <;> with_reducible rfl)
          simp only [Act.put, List.setIfInBounds_toArray, List.set_cons_zero, List.set_cons_succ]
          refine wpAnyH_ready (rs := [15]) (by kernel_rfl) (by simp) ?_
          refine AllReadyH.cons (o := { dst := none, op := Go.Op.store 42 (Go.Operand.tmp 59) (Go.Operand.tmp 57), type := 0, pos := "plan.go:45", after := #[{ on := 14, ground := Go.Ground.data }, { on := 12, ground := Go.Ground.data }, { on := 12, ground := Go.Ground.chain }, { on := 0, ground := Go.Ground.phase }, { on := 1, ground := Go.Ground.phase }, { on := 2, ground := Go.Ground.phase }, { on := 3, ground := Go.Ground.phase }, { on := 4, ground := Go.Ground.phase }, { on := 5, ground := Go.Ground.phase }, { on := 6, ground := Go.Ground.phase }, { on := 7, ground := Go.Ground.phase }, { on := 8, ground := Go.Ground.phase }, { on := 9, ground := Go.Ground.phase }, { on := 10, ground := Go.Ground.phase }, { on := 11, ground := Go.Ground.phase }, { on := 12, ground := Go.Ground.phase }], guard := none }) rfl (fun K hK => ?_) AllReadyH.nil
          go_simp
          refine hK.out _ _ H8x.out (fun hHeld => ?_)
          clear hK K
          refine wpAnyH_done (by kernel_rfl) ?_ _
          go_wp2_with fail
          exact HQ0.out _ HD9.out HB9.out
        · go_simp
          refine (CV.out _ (Below.refl _ wc).drew).mono ?_
          rintro e w4 ⟨⟨v4, rfl, hn4⟩, hb4⟩
          obtain ⟨k4, x4, b4, s4, a4, m4, c4, rfl⟩ := hn4.shape
          have hbc : Below wc.heap.size wc w4 := bel2 (Below.refl _ wc).drew hb4
          have hD4 := (HD.out.below hbc).below (bel1 w4 (.cells (#[.int .i64 0, .string s, .int .i64 k4, .int .i64 x4, .int .u64 b4, .string s4, .slice a4 m4 c4] : Array Value) 48))
          have hI4 : IsA (IsP (okD Bd ve vr) (w4.alloc (.cells (#[.int .i64 0, .string s, .int .i64 k4, .int .i64 x4, .int .u64 b4, .string s4, .slice a4 m4 c4] : Array Value) 48)) (n + 1)) (#[.int .i64 0, .string s, .int .i64 k4, .int .i64 x4, .int .u64 b4, .string s4, .slice a4 m4 c4] : Array Value) ⟨0, s, tv⟩ := { size := rfl, c0 := rfl, c1 := rfl, v := ⟨k4, x4, b4, s4, a4, m4, c4, rfl, rfl, rfl, rfl, rfl, hn4.isP.keep (fun b _ hf => HD.out.fresh hf.1) (fun b hl _ => (bel1 w4 _).block b hl)⟩ }
          obtain ⟨a', c', w', hrun, hrow', hD5, hB5, hkp5⟩ := hD4.addRf (src := w4.heap.size) (r := (#[.int .i64 0, .string s, .int .i64 k4, .int .i64 x4, .int .u64 b4, .string s4, .slice a4 m4 c4] : Array Value)) (x := ⟨0, s, tv⟩) (t := 48) (fr := (0, 0)) (heap_alloc_new w4 _) (by have := HA.out.2.2.2.2.2.2; omega) hI4
          have HRun : Hid (∀ ty, (Builtin.append_ #[42, 42] ty #[vr, .slice (some ⟨w4.heap.size, 0, none⟩) 1 1]).run Tryz.prog (w4.alloc (.cells (#[.int .i64 0, .string s, .int .i64 k4, .int .i64 x4, .int .u64 b4, .string s4, .slice a4 m4 c4] : Array Value) 48)) = .ok (.slice a' (rs.length + 1) c') w') := hrun
          have HD9 : Hid (∃ d2 cs2 ve2 vr2 es2 rs2, TkS (n + 1) asks last t ⟨k, s, tv, d⟩ dr d2 ∧ DrI lo Bd (n + 1) va d2 (w'.setCell ⟨Bd, 33, none⟩ (.slice a' (rs.length + 1) c')) cs2 ve2 vr2 es2 rs2) := ⟨_, cs, ve, _, es, _, ⟨HM.out.1, HM.out.2, by rw [HWR.out]; rfl⟩, hD5⟩
          have H8w : Hid (At8 w' g5 (.int .i64 k) (.string s) (.int .i64 vk) (.int .i64 vx) (.int .u64 vb) (.string vs) (.slice la ll lc) (.int .i64 d)) := by
            have hg5 : g5 < w4.heap.size := Nat.lt_of_lt_of_le (Array.getElem?_eq_some_iff.1 r5c).1 hbc.size
            have e := (hkp5 g5 (Nat.lt_of_lt_of_le hg5 (bel1 w4 _).size) (fun e => by have := (World.ownsRow.lt HW.out.rfo g5 e).2; have := HG5.out; omega)).trans ((bel1 w4 _).block g5 hg5)
            exact at8_row (e.trans (row_below hbc r5c))
          have H8x : Hid (At8 (w'.setCell ⟨Bd, 33, none⟩ (.slice a' (rs.length + 1) c')) g5 (.int .i64 k) (.string s) (.int .i64 vk) (.int .i64 vx) (.int .u64 vb) (.string vs) (.slice la ll lc) (.int .i64 d)) := H8w.out.kb (KB.setCell Bd w' 33 _) (by have := HG5.out; have := HL.out; omega)
          have HB9 : Hid (Below lo w (w'.setCell ⟨Bd, 33, none⟩ (.slice a' (rs.length + 1) c'))) := by
            have hl4 : lo ≤ wc.heap.size := by have := HBl.out.size; have := HL.out; omega
            have hx := (HBl.out.trans ((bel2 hbc (bel1 w4 (.cells (#[.int .i64 0, .string s, .int .i64 k4, .int .i64 x4, .int .u64 b4, .string s4, .slice a4 m4 c4] : Array Value) 48))).mono hl4)).trans hB5
            exact hx.trans ((KB.setCell _ _ _ _).below HL.out.1 (by have := hx.size; have := HL.out; omega))
          have z33 : w'.cell? ⟨Bd, 33, none⟩ = some vr := row_cell hrow' (drf_33 HD.out.st.size va ve vr)
          have f33 : w'.frozen? ⟨Bd, 33, none⟩ = false := frozen_of_row w' _ 33 _ 68 hrow'
          have y33 : w4.cell? ⟨Bd, 33, none⟩ = some vr := cellW c33 hbc
          have y33b : (w4.alloc (.cells (#[.int .i64 0, .string s, .int .i64 k4, .int .i64 x4, .int .u64 b4, .string s4, .slice a4 m4 c4] : Array Value) 48)).cell? ⟨Bd, 33, none⟩ = some vr := cellW y33 (bel1 _ _)
          have H84 : Hid (At8 w4 g5 (.int .i64 k) (.string s) (.int .i64 vk) (.int .i64 vx) (.int .u64 vb) (.string vs) (.slice la ll lc) (.int .i64 d)) := H8.out.below hbc
          have H85 : Hid (At8 (w4.alloc (.cells (#[.int .i64 0, .string s, .int .i64 k4, .int .i64 x4, .int .u64 b4, .string s4, .slice a4 m4 c4] : Array Value) 48)) g5 (.int .i64 k) (.string s) (.int .i64 vk) (.int .i64 vx) (.int .u64 vb) (.string vs) (.slice la ll lc) (.int .i64 d)) := H84.out.below (bel1 _ _)
          clear hkp5 hD4 hI4 hrun hD5 hrow' hn4
          refine hK.out _ _ H84.out (fun hHeld => ?_)
          clear hK K
          refine wpAnyH_take (i := 10) (oi := { dst := some 55, op := Go.Op.build 48 #[(1, Go.Operand.tmp 51), (2, Go.Operand.tmp 54)], type := 48, pos := "plan.go:45", after := #[{ on := 6, ground := Go.Ground.data }, { on := 9, ground := Go.Ground.data }], guard := none }) (v := ?_) rfl (by kernel_rfl) (by kernel_rfl) (by kernel_rfl) (fun _ _ _ h => h) (Or.inl ⟨by rfl, ?_⟩) hHeld ?_
          rotate_left 1
          · (intro w hSw; (try dsimp only at hSw); go_simp <;> with_reducible rfl)
          simp only [Act.put, List.setIfInBounds_toArray, List.set_cons_zero, List.set_cons_succ]
          refine wpAnyH_ready (rs := [4, 11]) (by kernel_rfl) (by simp) ?_
          refine AllReadyH.cons (o := { dst := some 49, op := Go.Op.load 42 (Go.Operand.tmp 48), type := 42, pos := "plan.go:45", after := #[{ on := 3, ground := Go.Ground.data }], guard := none }) rfl (fun K hK => ?_) (AllReadyH.cons (o := { dst := some 56, op := Go.Op.buildSlice 42 1 #[(0, Go.Operand.tmp 55)], type := 42, pos := "plan.go:45", after := #[{ on := 10, ground := Go.Ground.data }], guard := none }) rfl (fun K hK => ?_) AllReadyH.nil)
          · go_simp
            refine hK.out _ _ H84.out (fun hHeld => ?_)
            clear hK K
            refine wpAnyH_ready (rs := [11]) (by kernel_rfl) (by simp) ?_
            refine AllReadyH.cons (o := { dst := some 56, op := Go.Op.buildSlice 42 1 #[(0, Go.Operand.tmp 55)], type := 42, pos := "plan.go:45", after := #[{ on := 10, ground := Go.Ground.data }], guard := none }) rfl (fun K hK => ?_) AllReadyH.nil
            go_simp
            refine hK.out _ _ H85.out (fun hHeld => ?_)
            clear hK K
            refine wpAnyH_ready (rs := [12]) (by kernel_rfl) (by simp) ?_
            refine AllReadyH.cons (o := { dst := some 57, op := Go.Op.call { callee := Go.Callee.builtin Go.Builtin.append, args := #[Go.Operand.tmp 49, Go.Operand.tmp 56], argTypes := #[42, 42] }, type := 42, pos := "plan.go:45", after := #[{ on := 4, ground := Go.Ground.data }, { on := 11, ground := Go.Ground.data }, { on := 9, ground := Go.Ground.chain }], guard := none }) rfl (fun K hK => ?_) AllReadyH.nil
            rw [if_pos (by rfl)]
            refine Lib.wp_append_run _ _ _ 42 42 rfl _ _ rfl rfl _ _ (HRun.out _) ?_
            refine hK.out _ _ H8w.out (fun hHeld => ?_)
            clear hK K
            refine wpAnyH_take (i := 13) (oi := { dst := some 58, op := Go.Op.nilCheck (Go.Operand.tmp 45), type := 0, pos := "plan.go:45", after := #[{ on := 0, ground := Go.Ground.data }, { on := 0, ground := Go.Ground.phase }, { on := 1, ground := Go.Ground.phase }, { on := 2, ground := Go.Ground.phase }, { on := 3, ground := Go.Ground.phase }, { on := 4, ground := Go.Ground.phase }, { on := 5, ground := Go.Ground.phase }, { on := 6, ground := Go.Ground.phase }, { on := 7, ground := Go.Ground.phase }, { on := 8, ground := Go.Ground.phase }, { on := 9, ground := Go.Ground.phase }, { on := 10, ground := Go.Ground.phase }, { on := 11, ground := Go.Ground.phase }, { on := 12, ground := Go.Ground.phase }], guard := none }) (v := ?_) rfl (by kernel_rfl) (by kernel_rfl) (by kernel_rfl) (fun _ _ _ h => h) (Or.inl ⟨by rfl, ?_⟩) hHeld ?_
            rotate_left 1
            · (intro w hSw; (try dsimp only at hSw); go_simp <;> with_reducible rfl)
            simp only [Act.put, List.setIfInBounds_toArray, List.set_cons_zero, List.set_cons_succ]
            refine wpAnyH_take (i := 14) (oi := { dst := some 59, op := Go.Op.fieldAddr 68 (Go.Operand.tmp 58) 3, type := 0, pos := "plan.go:45", after := #[{ on := 13, ground := Go.Ground.data }, { on := 0, ground := Go.Ground.phase }, { on := 1, ground := Go.Ground.phase }, { on := 2, ground := Go.Ground.phase }, { on := 3, ground := Go.Ground.phase }, { on := 4, ground := Go.Ground.phase }, { on := 5, ground := Go.Ground.phase }, { on := 6, ground := Go.Ground.phase }, { on := 7, ground := Go.Ground.phase }, { on := 8, ground := Go.Ground.phase }, { on := 9, ground := Go.Ground.phase }, { on := 10, ground := Go.Ground.phase }, { on := 11, ground := Go.Ground.phase }, { on := 12, ground := Go.Ground.phase }], guard := none }) (v := ?_) rfl (by kernel_rfl) (by kernel_rfl) (by kernel_rfl) (fun _ _ _ h => h) (Or.inl ⟨by rfl, ?_⟩) hHeld ?_
            rotate_left 1
            · (intro w hSw; (try dsimp only at hSw); go_simp <;> with_reducible rfl)
            simp only [Act.put, List.setIfInBounds_toArray, List.set_cons_zero, List.set_cons_succ]
            refine wpAnyH_ready (rs := [15]) (by kernel_rfl) (by simp) ?_
            refine AllReadyH.cons (o := { dst := none, op := Go.Op.store 42 (Go.Operand.tmp 59) (Go.Operand.tmp 57), type := 0, pos := "plan.go:45", after := #[{ on := 14, ground := Go.Ground.data }, { on := 12, ground := Go.Ground.data }, { on := 12, ground := Go.Ground.chain }, { on := 0, ground := Go.Ground.phase }, { on := 1, ground := Go.Ground.phase }, { on := 2, ground := Go.Ground.phase }, { on := 3, ground := Go.Ground.phase }, { on := 4, ground := Go.Ground.phase }, { on := 5, ground := Go.Ground.phase }, { on := 6, ground := Go.Ground.phase }, { on := 7, ground := Go.Ground.phase }, { on := 8, ground := Go.Ground.phase }, { on := 9, ground := Go.Ground.phase }, { on := 10, ground := Go.Ground.phase }, { on := 11, ground := Go.Ground.phase }, { on := 12, ground := Go.Ground.phase }], guard := none }) rfl (fun K hK => ?_) AllReadyH.nil
            go_simp
            refine hK.out _ _ H8x.out (fun hHeld => ?_)
            clear hK K
            refine wpAnyH_done (by kernel_rfl) ?_ _
            go_wp2_with fail
            exact HQ0.out _ HD9.out HB9.out
          · go_simp
            refine hK.out _ _ H85.out (fun hHeld => ?_)
            clear hK K
            refine wpAnyH_ready (rs := [4]) (by kernel_rfl) (by simp) ?_
            refine AllReadyH.cons (o := { dst := some 49, op := Go.Op.load 42 (Go.Operand.tmp 48), type := 42, pos := "plan.go:45", after := #[{ on := 3, ground := Go.Ground.data }], guard := none }) rfl (fun K hK => ?_) AllReadyH.nil
            go_simp
            refine hK.out _ _ H85.out (fun hHeld => ?_)
            clear hK K
            refine wpAnyH_ready (rs := [12]) (by kernel_rfl) (by simp) ?_
            refine AllReadyH.cons (o := { dst := some 57, op := Go.Op.call { callee := Go.Callee.builtin Go.Builtin.append, args := #[Go.Operand.tmp 49, Go.Operand.tmp 56], argTypes := #[42, 42] }, type := 42, pos := "plan.go:45", after := #[{ on := 4, ground := Go.Ground.data }, { on := 11, ground := Go.Ground.data }, { on := 9, ground := Go.Ground.chain }], guard := none }) rfl (fun K hK => ?_) AllReadyH.nil
            rw [if_pos (by rfl)]
            refine Lib.wp_append_run _ _ _ 42 42 rfl _ _ rfl rfl _ _ (HRun.out _) ?_
            refine hK.out _ _ H8w.out (fun hHeld => ?_)
            clear hK K
            refine wpAnyH_take (i := 13) (oi := { dst := some 58, op := Go.Op.nilCheck (Go.Operand.tmp 45), type := 0, pos := "plan.go:45", after := #[{ on := 0, ground := Go.Ground.data }, { on := 0, ground := Go.Ground.phase }, { on := 1, ground := Go.Ground.phase }, { on := 2, ground := Go.Ground.phase }, { on := 3, ground := Go.Ground.phase }, { on := 4, ground := Go.Ground.phase }, { on := 5, ground := Go.Ground.phase }, { on := 6, ground := Go.Ground.phase }, { on := 7, ground := Go.Ground.phase }, { on := 8, ground := Go.Ground.phase }, { on := 9, ground := Go.Ground.phase }, { on := 10, ground := Go.Ground.phase }, { on := 11, ground := Go.Ground.phase }, { on := 12, ground := Go.Ground.phase }], guard := none }) (v := ?_) rfl (by kernel_rfl) (by kernel_rfl) (by kernel_rfl) (fun _ _ _ h => h) (Or.inl ⟨by rfl, ?_⟩) hHeld ?_
            rotate_left 1
            · (intro w hSw; (try dsimp only at hSw); go_simp <;> with_reducible rfl)
            simp only [Act.put, List.setIfInBounds_toArray, List.set_cons_zero, List.set_cons_succ]
            refine wpAnyH_take (i := 14) (oi := { dst := some 59, op := Go.Op.fieldAddr 68 (Go.Operand.tmp 58) 3, type := 0, pos := "plan.go:45", after := #[{ on := 13, ground := Go.Ground.data }, { on := 0, ground := Go.Ground.phase }, { on := 1, ground := Go.Ground.phase }, { on := 2, ground := Go.Ground.phase }, { on := 3, ground := Go.Ground.phase }, { on := 4, ground := Go.Ground.phase }, { on := 5, ground := Go.Ground.phase }, { on := 6, ground := Go.Ground.phase }, { on := 7, ground := Go.Ground.phase }, { on := 8, ground := Go.Ground.phase }, { on := 9, ground := Go.Ground.phase }, { on := 10, ground := Go.Ground.phase }, { on := 11, ground := Go.Ground.phase }, { on := 12, ground := Go.Ground.phase }], guard := none }) (v := ?_) rfl (by kernel_rfl) (by kernel_rfl) (by kernel_rfl) (fun _ _ _ h => h) (Or.inl ⟨by rfl, ?_⟩) hHeld ?_
            rotate_left 1
            · (intro w hSw; (try dsimp only at hSw); go_simp <;> with_reducible rfl)
            simp only [Act.put, List.setIfInBounds_toArray, List.set_cons_zero, List.set_cons_succ]
            refine wpAnyH_ready (rs := [15]) (by kernel_rfl) (by simp) ?_
            refine AllReadyH.cons (o := { dst := none, op := Go.Op.store 42 (Go.Operand.tmp 59) (Go.Operand.tmp 57), type := 0, pos := "plan.go:45", after := #[{ on := 14, ground := Go.Ground.data }, { on := 12, ground := Go.Ground.data }, { on := 12, ground := Go.Ground.chain }, { on := 0, ground := Go.Ground.phase }, { on := 1, ground := Go.Ground.phase }, { on := 2, ground := Go.Ground.phase }, { on := 3, ground := Go.Ground.phase }, { on := 4, ground := Go.Ground.phase }, { on := 5, ground := Go.Ground.phase }, { on := 6, ground := Go.Ground.phase }, { on := 7, ground := Go.Ground.phase }, { on := 8, ground := Go.Ground.phase }, { on := 9, ground := Go.Ground.phase }, { on := 10, ground := Go.Ground.phase }, { on := 11, ground := Go.Ground.phase }, { on := 12, ground := Go.Ground.phase }], guard := none }) rfl (fun K hK => ?_) AllReadyH.nil
            go_simp
            refine hK.out _ _ H8x.out (fun hHeld => ?_)
            clear hK K
            refine wpAnyH_done (by kernel_rfl) ?_ _
            go_wp2_with fail
            exact HQ0.out _ HD9.out HB9.out
  · have HN : Hid (r ≠ 0) := hr
    have hre : (r == 0) = false := by simpa using hr
    have hrn : (r != 0) = true := by simpa using hr
    clear hr
    go_wp2_with fail
    refine HQ1.out r _ HN.out (fun d2 hT => HN.out ((HR.out.1 hT.1).trans (rf_ok hT.2.1))) (fun hm hc hl hf => ?_) (b1.out.mono (by have := HL.out; omega))
    rw [HR.out.1 hm, hc, hl, hf]
    rfl
end Go.Proofs.YtcdhlklmnnmpoaaGreat
namespace Go.Proofs.YtcdhlklmnnmpoaaGreat
open Go.ChangeShapes Go.WideShapes Go.ChangeAt Go.RowKit
/-- Eight cells are a command. -/
structure IsC (R : Value → Tv → Prop) (cz : Array Value) (c : Cm) : Prop where
  size : cz.size = 8
  c0 : cz[0]? = some (.int .i64 c.k)
  c1 : cz[1]? = some (.string c.s)
  v : V5 R cz 2 c.v
  c7 : cz[7]? = some (.int .i64 c.d)
theorem IsC.map {R R' : Value → Tv → Prop} {cz : Array Value} {c : Cm} (hR : ∀ v t, R v t → R' v t) (h : IsC R cz c) : IsC R' cz c := { h with v := h.v.map fun v => hR v _ }
theorem arr8 {α : Type} (xs : Array α) (h : xs.size = 8) : ∃ c0 c1 c2 c3 c4 c5 c6 c7, xs = #[c0, c1, c2, c3, c4, c5, c6, c7] := by
  obtain ⟨l⟩ := xs
  match l, h with
  | [c0, c1, c2, c3, c4, c5, c6, c7], _ => exact ⟨c0, c1, c2, c3, c4, c5, c6, c7, rfl⟩
theorem IsC.lit {R : Value → Tv → Prop} {cz : Array Value} {c : Cm} (h : IsC R cz c) : ∃ vk vx vb vs la ll lc, cz = #[.int .i64 c.k, .string c.s, .int .i64 vk, .int .i64 vx, .int .u64 vb, .string vs, .slice la ll lc, .int .i64 c.d] ∧ R (.agg #[.int .i64 vk, .int .i64 vx, .int .u64 vb, .string vs, .slice la ll lc]) c.v := by
  obtain ⟨k, x, b, t, l, m, q, v0, v1, v2, v3, v4, v5⟩ := h.v
  refine ⟨k, x, b, t, l, m, q, ?_, v5⟩
  obtain ⟨e0, e1, e2, e3, e4, e5, e6, e7, rfl⟩ := arr8 cz h.size
  have h0 := h.c0
  have h1 := h.c1
  have h7 := h.c7
  simp at h0 h1 h7 v0 v1 v2 v3 v4
  subst h0 h1 h7 v0 v1 v2 v3 v4
  rfl
/-- Commands one behind the other. -/
def LkC (ok : Nat → Prop) (R : Value → Tv → Prop) (w : World) (a : Option Addr) (l : List Cm) : Prop :=
  ∃ rows : List (Array Value), rows.length = l.length ∧ RowS ok w a 8 rows ∧ ∀ (i : Nat) r e, rows[i]? = some r → l[i]? = some e → IsC R r e
/-- The first j commands, all taken. -/
def RunP (n : Nat) (asks : List Ak) (t : Int) (l : List Cm) : Nat → Dr → Dr → Prop
  | 0, d, d2 => d2 = d
  | j + 1, d, d2 => ∃ d1 c, RunP n asks t l j d d1 ∧ l[j]? = some c ∧ TkS n asks (decide (j + 1 = l.length)) t c d1 d2
theorem TkS.len {n : Nat} {asks : List Ak} {last : Bool} {t : Int} {c : Cm} {d d2 : Dr} (h : TkS n asks last t c d d2) : d2.ev.length + d2.rf.length = d.ev.length + d.rf.length + 1 := by
  have h3 := h.2.2
  cases hw : wshR d.s asks d.rf c t with
  | no => rw [hw] at h3; exact h3.elim
  | rf => rw [hw] at h3; rw [show d2 = _ from h3]; simp; omega
  | ev x => rw [hw] at h3; obtain ⟨s2, _, e⟩ := h3; rw [e]; simp; omega
theorem TkS.det {n : Nat} {asks : List Ak} {last last2 : Bool} {t : Int} {c : Cm} {d d1 d2 : Dr} (h : TkS n asks last t c d d1) (h2 : TkS n asks last2 t c d d2) : d1 = d2 := by
  have h3 := h.2.2
  have h4 := h2.2.2
  cases hw : wshR d.s asks d.rf c t with
  | no => rw [hw] at h3; exact h3.elim
  | rf => rw [hw] at h3 h4; rw [show d1 = _ from h3, show d2 = _ from h4]
  | ev x =>
    rw [hw] at h3 h4
    obtain ⟨s1, a1, e1⟩ := h3
    obtain ⟨s2, a2, e2⟩ := h4
    rw [e1, e2, (a1.det a2).2]
theorem RunP.len {n : Nat} {asks : List Ak} {t : Int} {l : List Cm} : ∀ {j : Nat} {d d2 : Dr}, RunP n asks t l j d d2 → d2.ev.length + d2.rf.length = d.ev.length + d.rf.length + j
  | 0, d, d2, h => by rw [show d2 = d from h]; rfl
  | j + 1, d, d2, ⟨d1, c, h1, _, h3⟩ => by
    have a := h1.len
    have b := h3.len
    omega
theorem RunP.det {n : Nat} {asks : List Ak} {t : Int} {l : List Cm} : ∀ {j : Nat} {d d1 d2 : Dr}, RunP n asks t l j d d1 → RunP n asks t l j d d2 → d1 = d2
  | 0, d, d1, d2, h1, h2 => by rw [show d1 = d from h1, show d2 = d from h2]
  | j + 1, d, d1, d2, ⟨e1, c1, a1, b1, t1⟩, ⟨e2, c2, a2, b2, t2⟩ => by
    have := a1.det a2
    subst this
    rw [b1] at b2
    cases b2
    exact t1.det t2
/-- A plan that fails. -/
def FailR (n : Nat) (asks : List Ak) (t : Int) (l : List Cm) (d0 : Dr) (code : Int) : Prop := 12 < l.length ∨ ∃ (j : Nat) (d : Dr) (c : Cm), RunP n asks t l j d0 d ∧ l[j]? = some c ∧ (∀ d2, ¬ TkS n asks (decide (j + 1 = l.length)) t c d d2) ∧ (MayC n c → clo c.k = true → j + 1 = l.length → d.s.fresh = true → code = 17)
/-- What Plan answers. -/
def PlP (n : Nat) (s : Sta) (va : Value) (asks : List Ak) (l : List Cm) (t : Int) (w : World) (e : Ending) (w' : World) : Prop :=
  ((∃ d Bd cs ve vr es rs, e = .returned (.tuple #[ve, vr, .int .i64 0]) ∧ l.length ≤ 12 ∧ RunP (n + 1) asks t l l.length ⟨s, [], []⟩ d ∧ DrI w.heap.size Bd (n + 1) va d w' cs ve vr es rs) ∨ (∃ code : Int, e = .returned (.tuple #[.slice none 0 0, .slice none 0 0, .int .i64 code]) ∧ code ≠ 0 ∧ FailR (n + 1) asks t l ⟨s, [], []⟩ code)) ∧ Below w.heap.size w w'
theorem arr31 {α : Type} (xs : Array α) (h : xs.size = 31) : ∃ c0 c1 c2 c3 c4 c5 c6 c7 c8 c9 c10 c11 c12 c13 c14 c15 c16 c17 c18 c19 c20 c21 c22 c23 c24 c25 c26 c27 c28 c29 c30, xs = #[c0, c1, c2, c3, c4, c5, c6, c7, c8, c9, c10, c11, c12, c13, c14, c15, c16, c17, c18, c19, c20, c21, c22, c23, c24, c25, c26, c27, c28, c29, c30] := by
  obtain ⟨l⟩ := xs
  match l, h with
  | [c0, c1, c2, c3, c4, c5, c6, c7, c8, c9, c10, c11, c12, c13, c14, c15, c16, c17, c18, c19, c20, c21, c22, c23, c24, c25, c26, c27, c28, c29, c30], _ => exact ⟨c0, c1, c2, c3, c4, c5, c6, c7, c8, c9, c10, c11, c12, c13, c14, c15, c16, c17, c18, c19, c20, c21, c22, c23, c24, c25, c26, c27, c28, c29, c30, rfl⟩
theorem build68 (cs : Array Value) (h : cs.size = 31) (a : Option Addr) (n c : Nat) (w : World) : (Instr.build 68 #[(0, .agg cs), (1, .slice a n c)]).run Tryz.prog w = .ok (.agg (drf cs (.slice a n c) (.slice none 0 0) (.slice none 0 0))) w := by
  obtain ⟨c0, c1, c2, c3, c4, c5, c6, c7, c8, c9, c10, c11, c12, c13, c14, c15, c16, c17, c18, c19, c20, c21, c22, c23, c24, c25, c26, c27, c28, c29, c30, rfl⟩ := arr31 cs h
  exact run_build w 68 _ _ (by kernel_rfl)
theorem wpList_build_run {P : Program} {ops : Array Oper} {rest : List Oper} {o : Oper} {a : Act} {w : World} {Q : Exit → Act → World → Prop} (hgd : o.guard = none) (t : TypeId) (i j : Nat) (x y : Operand) (ho : o.op = .build t #[(i, x), (j, y)]) (vx vy : Value) (hx : a.eval x = vx) (hy : a.eval y = vy) (v' : Value) (hr : (Instr.build t #[(i, vx), (j, vy)]).run P w = .ok v' w) (h : wpList P ops Q rest (a.put o.dst v') w) : wpList P ops Q (o :: rest) a w :=
  wpList_plain hgd fun _ hK => by
    unfold Oper.wp execOp
    simp only [ho, Sem.run_bind, Sem.run_pure, Result.andThen_ok, List.map_toArray, List.map_cons, List.map_nil, hx, hy, hr]
    exact hK _ _ h
/-- A draft of nothing. -/
def zD : Array Value := #[.int .i64 0, .int .i64 0, .int .i64 0, .int .i64 0, .int .i64 0, .int .i64 0, .int .i64 0, .string ⟨#[]⟩, .int .i64 0, .int .i64 0, .int .u64 0, .string ⟨#[]⟩, .slice none 0 0, .int .i64 0, .int .u64 0, .int .i64 0, .int .i64 0, .int .i64 0, .int .i64 0, .int .i64 0, .int .i64 0, .bool false, .bool false, .slice none 0 0, .slice none 0 0, .int .i64 0, .int .i64 0, .int .u64 0, .string ⟨#[]⟩, .slice none 0 0, .string ⟨#[]⟩, .slice none 0 0, .slice none 0 0, .slice none 0 0]
theorem Is.lt {w : World} : ∀ {n : Nat} {v : Value} {t : Tv}, Is w n v t → IsP (fun b => b < w.heap.size) w n v t
  | 0, _, _, h => h
  | n + 1, v, .mk k x b s l, ⟨a, c, hv, hf, hr⟩ => ⟨a, c, hv, hf, fun i t ht => by
      obtain ⟨B, o, c0, c1, c2, c3, c4, ha, h5, hi⟩ := hr i t ht
      exact ⟨B, o, c0, c1, c2, c3, c4, ha, World.block_lt_of_cell? w _ h5.1, h5, hi.lt⟩⟩
theorem Rs.lt {w : World} {n : Nat} {cs : Array Value} {s : Sta} (h : Rs w n cs s) : Ps (fun b => b < w.heap.size) w n cs s := IsS.map (fun _ hB _ => hB) (fun _ _ _ hv => hv) (fun _ _ h => h.lt) h
theorem drf_one {cs : Array Value} (h1 : ∀ (j : Nat) (v : Value), cs[j]? = some v → v.oneCell' = true) (a : Option Addr) (n c : Nat) : (drf cs (.slice a n c) (.slice none 0 0) (.slice none 0 0)).all (·.oneCell') = true := by
  refine all_one fun j v hv => ?_
  unfold drf at hv
  rw [Array.getElem?_append] at hv
  split at hv
  · exact h1 j v hv
  · have hm := Array.mem_of_getElem? hv
    simp at hm
    rcases hm with rfl | rfl <;> rfl
/-- A command of nothing. -/
def zC : Array Value := #[.int .i64 0, .string ⟨#[]⟩, .int .i64 0, .int .i64 0, .int .u64 0, .string ⟨#[]⟩, .slice none 0 0, .int .i64 0]
/-- In the middle of Plan. -/
structure PlI (lo Bd n : Nat) (s : Sta) (va : Value) (asks : List Ak) (l : List Cm) (t : Int) (w wr : World) (j : Nat) : Prop where
  bel : Below lo w wr
  ex : ∃ d cs ve vr es rs, RunP (n + 1) asks t l j ⟨s, [], []⟩ d ∧ DrI lo Bd (n + 1) va d wr cs ve vr es rs
theorem DrI.init {n : Nat} {s : Sta} {cs : Array Value} {va : Value} {w W : World} {Bd : Nat} (h : Rs w n cs s) (hm : Sml n s) (hb : Below w.heap.size w W) (hr : W.heap[Bd]? = some (.cells (drf cs va (.slice none 0 0) (.slice none 0 0)) 68 (0, 0))) (hl : w.heap.size ≤ Bd) : DrI w.heap.size Bd n va ⟨s, [], []⟩ W cs (.slice none 0 0) (.slice none 0 0) [] [] where
  row := hr
  lob := hl
  st := h.lt.keep (fun b hlt _ => ⟨by omega, fun e => (by cases e), fun e => (by cases e)⟩) fun b hlt _ => hb.block b hlt
  sm := hm
  evo := World.ownsRow_nil _ _ _ _
  evl := rfl
  evi := fun i r e hr => by simp at hr
  rfo := World.ownsRow_nil _ _ _ _
  rfn := rfl
  rfi := fun i r e hr => by simp at hr
set_option maxHeartbeats 8000000 in
set_option maxRecDepth 100000 in
theorem plan_long (n : Nat) (s : Sta) (va : Value) (asks : List Ak) (l : List Cm) (t : Int) (cs : Array Value) (lb : Option Addr) (lcap : Nat) (w : World) (hl : 12 < l.length) : Calls Tryz.prog 12 #[.agg cs, va, .slice lb l.length lcap, .int .i64 t] w (PlP n s va asks l t w) := by
  have HQ : Hid (∀ w', Below w.heap.size w w' → PlP n s va asks l t w (.returned (.tuple #[.slice none 0 0, .slice none 0 0, .int .i64 5])) w') := fun w' h => ⟨.inr ⟨5, rfl, by decide, .inl hl⟩, h⟩
  generalize PlP n s va asks l t w = Q at HQ ⊢
  have h1 : (12 : Int) < (l.length : Int) := by omega
  have h2 : decide ((12 : Int) < (l.length : Int)) = true := decide_eq_true h1
  have HB : Hid (Below w.heap.size w (w.alloc (.cells cs 41))) := bel1 _ _
  clear hl
  generalize l.length = N at h1 h2 ⊢
  go_enter Tryz.func12, Tryz.ntmps12
  go_wp2_with fail
  go_ret3
  exact HQ.out _ HB.out
set_option maxHeartbeats 8000000 in
set_option maxRecDepth 100000 in
theorem plan_calls (n : Nat) (s : Sta) (aa : Option Addr) (ac : Nat) (asks : List Ak) (l : List Cm) (t : Int) (cs : Array Value) (lb : Option Addr) (lcap : Nat) (w : World) (h : Rs w (n + 1) cs s) (hm : Sml (n + 1) s) (hA : LkA (fun b => b < w.heap.size) (IsP (fun b => b < w.heap.size) w (n + 1)) w aa asks) (la' : asks.length ≤ 1000) (sa : ∀ (i : Nat) a, asks[i]? = some a → SmallW (n + 1) a.v) (hC : LkC (fun b => b < w.heap.size) (IsP (fun b => b < w.heap.size) w (n + 1)) w lb l) (sc : ∀ (i : Nat) c, l[i]? = some c → SmallW (n + 1) c.v) (hz : SmallW (n + 1) zE) (hl : l.length ≤ 12) :
    Calls Tryz.prog 12 #[.agg cs, .slice aa asks.length ac, .slice lb l.length lcap, .int .i64 t] w (PlP n s (.slice aa asks.length ac) asks l t w) := by
  have HQ0 : Hid (∀ w' d Bd cs ve vr es rs, RunP (n + 1) asks t l l.length ⟨s, [], []⟩ d → DrI w.heap.size Bd (n + 1) (.slice aa asks.length ac) d w' cs ve vr es rs → Below w.heap.size w w' → PlP n s (.slice aa asks.length ac) asks l t w (.returned (.tuple #[ve, vr, .int .i64 0])) w') := fun w' d Bd cs ve vr es rs h1 h2 h3 => ⟨.inl ⟨d, Bd, cs, ve, vr, es, rs, rfl, hl, h1, h2⟩, h3⟩
  have HQ1 : Hid (∀ code w', code ≠ 0 → FailR (n + 1) asks t l ⟨s, [], []⟩ code → Below w.heap.size w w' → PlP n s (.slice aa asks.length ac) asks l t w (.returned (.tuple #[.slice none 0 0, .slice none 0 0, .int .i64 code])) w') := fun code w' h1 h2 h3 => ⟨.inr ⟨code, rfl, h1, h2⟩, h3⟩
  generalize PlP n s (.slice aa asks.length ac) asks l t w = Q at HQ0 HQ1 ⊢
  have hcs := h.size
  have hi41 := info33s cs hcs
  have hbd := build68 cs hcs aa asks.length ac
  have h1 : decide ((12 : Int) < (l.length : Int)) = false := decide_eq_false (by omega)
  have HH : Hid (Rs w (n + 1) cs s ∧ Sml (n + 1) s) := ⟨h, hm⟩
  have HA : Hid (LkA (fun b => b < w.heap.size) (IsP (fun b => b < w.heap.size) w (n + 1)) w aa asks ∧ asks.length ≤ 1000 ∧ (∀ (i : Nat) a, asks[i]? = some a → SmallW (n + 1) a.v) ∧ SmallW (n + 1) zE) := ⟨hA, la', sa, hz⟩
  have HC : Hid (LkC (fun b => b < w.heap.size) (IsP (fun b => b < w.heap.size) w (n + 1)) w lb l ∧ (∀ (i : Nat) c, l[i]? = some c → SmallW (n + 1) c.v) ∧ l.length ≤ 12) := ⟨hC, sc, hl⟩
  have b0 : Hid (Below w.heap.size w (w.alloc (.cells cs 41))) := bel1 _ _
  have r0 : (w.alloc (.cells cs 41)).heap[w.heap.size]? = some (.cells cs 41 (0, 0)) := heap_alloc_new w _
  have n1 : ((w.alloc (.cells cs 41)).alloc (.cells zD 68)).heap[w.heap.size + 1]? = some (.cells zD 68 (0, 0)) := heap_alloc2_new _ _ _
  have hds := drf_size hcs (.slice aa asks.length ac) (.slice none 0 0) (.slice none 0 0)
  have hi68 := info68s _ hds
  have z1 : zD.size = (drf cs (.slice aa asks.length ac) (.slice none 0 0) (.slice none 0 0)).size := hds.symm
  have a1 := drf_one h.lt.one aa asks.length ac
  clear h hm hA la' sa hC sc hz hl hcs hds
  generalize hna : asks.length = na at hbd hi68 z1 a1 HQ0 HQ1
  have HNA : Hid (asks.length = na) := hna
  clear hna
  generalize hds : drf cs (.slice aa na ac) (.slice none 0 0) (.slice none 0 0) = ds at hbd hi68 z1 a1
  have HDS : Hid (drf cs (.slice aa na ac) (.slice none 0 0) (.slice none 0 0) = ds) := hds
  clear hds
  go_enter Tryz.func12, Tryz.ntmps12
  go_upto_region 4 with (first | refine wpList_load_row rfl 41 _ rfl w.heap.size rfl 41 cs (0, 0) _ r0 Tryz.underlying41 rfl hi41 ?_ | refine wpList_build_run rfl 68 0 1 _ _ rfl (.agg cs) (.slice aa na ac) rfl rfl (.agg ds) (hbd _) ?_ | refine wpList_store_row rfl 68 _ _ rfl (w.heap.size + 1) ds rfl rfl 68 zD n1 hi68 z1 a1 ?_)
  have rB := setRow_heap _ (w.heap.size + 1) zD ds 68 (0, 0) n1
  have bB : Below w.heap.size w (((w.alloc (.cells cs 41)).alloc (.cells zD 68)).setRow (w.heap.size + 1) ds) := below_setRow (bel2 (bel1 _ _) (bel1 _ _)) (by omega) _
  change Code.wp _ _ _ _ (((w.alloc (.cells cs 41)).alloc (.cells zD 68)).setRow (w.heap.size + 1) ds)
  generalize ((w.alloc (.cells cs 41)).alloc (.cells zD 68)).setRow (w.heap.size + 1) ds = W1 at rB bB ⊢
  have HI0 : Hid (PlI w.heap.size (w.heap.size + 1) n s (.slice aa na ac) asks l t w W1 0) := ⟨bB, ⟨⟨s, [], []⟩, cs, _, _, [], [], rfl, DrI.init HH.out.1 HH.out.2 bB (by rw [HDS.out]; exact rB) (by omega)⟩⟩
  clear rB bB r0 n1 hbd hi68 z1 a1 hi41 b0 h1 HH HDS
  generalize w.heap.size + 1 = Bd at HI0 ⊢
  generalize hN : l.length = N at HQ0 ⊢
  have HN : Hid (l.length = N) := hN
  clear hN
  go_wp2_with fail
  go_loopw [12, 13, 14, 23] (fun _ _ _ i wr => ∃ j : Nat, j ≤ N ∧ i = .int .i64 (j : Int) ∧ Hid (PlI w.heap.size Bd n s (.slice aa na ac) asks l t w wr j)) (fun _ _ _ i _ => N - (intOf i).toNat)
  case atStart => exact ⟨0, Nat.zero_le _, rfl, HI0⟩
  case round =>
    obtain ⟨j, hj, rfl, HI⟩ := hrel
    obtain ⟨dr, cs1, ve, vr, es, rs, hrun, hD⟩ := HI.out.ex
    by_cases hlt : j < N
    · obtain ⟨c, hc⟩ : ∃ c, l[j]? = some c := ⟨_, List.getElem?_eq_getElem (by have := HN.out; omega)⟩
      obtain ⟨rows, q1, q2, q3⟩ := HC.out.1
      obtain ⟨r, hr⟩ : ∃ r, rows[j]? = some r := ⟨_, List.getElem?_eq_getElem (by have := HN.out; omega)⟩
      obtain ⟨_, _, B, o, rfl, hBlo, hlies⟩ := q2 j r hr
      obtain ⟨vk, vx, vb, vs, la, ll, lc, rfl, hval⟩ := (q3 j r c hr hc).lit
      have hbel := HI.out.bel
      have hrng : wr.rangeAt B (o + j * 8) ((#[.int .i64 c.k, .string c.s, .int .i64 vk, .int .i64 vx, .int .u64 vb, .string vs, .slice la ll lc, .int .i64 c.d] : Array Value)).toList := fun i v hv => (hbel.cell hBlo).trans (hlies i v (by simpa using hv))
      have hjl : (j : Int) < (N : Int) := by omega
      have HW1 : Hid (wrap64 ((j : Int) + 1) = ((j + 1 : Nat) : Int)) := wr1 hlt (by have := HN.out; have := HC.out.2.2; omega)
      have n13 : (wr.alloc (.cells zC 27)).heap[wr.heap.size]? = some (.cells zC 27 (0, 0)) := heap_alloc_new wr _
      obtain ⟨lst, hlst⟩ : ∃ lst : Bool, ((j : Int) == wrap64 ((N : Int) - 1)) = lst := ⟨_, rfl⟩
      have HLS : Hid (lst = decide (j + 1 = l.length)) := by
        show lst = _
        rw [← hlst, HN.out, show wrap64 ((N : Int) - 1) = (N : Int) - 1 from by unfold wrap64; have := HN.out; have := HC.out.2.2; omega]
        by_cases e : j + 1 = N
        · rw [decide_eq_true e]; simp; omega
        · rw [decide_eq_false e]; simp; omega
      have hlen := hrun.len
      have he1 := hD.evl
      have he2 := hD.rfn
      have hba := bel1 wr (.cells #[.int .i64 c.k, .string c.s, .int .i64 vk, .int .i64 vx, .int .u64 vb, .string vs, .slice la ll lc, .int .i64 c.d] 27)
      have HBa : Hid (Below w.heap.size w (wr.alloc (.cells #[.int .i64 c.k, .string c.s, .int .i64 vk, .int .i64 vx, .int .u64 vb, .string vs, .slice la ll lc, .int .i64 c.d] 27))) := hbel.trans (hba.mono hbel.size)
      have KT := take_calls w.heap.size Bd n aa ac asks c.v c.k c.s vk vx vb vs la ll lc c.d lst t dr cs1 ve vr es rs (wr.alloc (.cells #[.int .i64 c.k, .string c.s, .int .i64 vk, .int .i64 vx, .int .u64 vb, .string vs, .slice la ll lc, .int .i64 c.d] 27)) (by rw [HNA.out]; exact hD.below hba) (hval.keep (fun _ _ h => h) (fun b _ hb => HBa.out.block b hb)) (HA.out.1.keep (fun _ _ h => h) (fun b _ hb => HBa.out.block b hb)) HA.out.2.1 HA.out.2.2.1 (HC.out.2.1 j c hc) HA.out.2.2.2 (by have := HN.out; have := HC.out.2.2; simp at hlen; omega) (by have := HN.out; have := HC.out.2.2; simp at hlen; omega)
      rw [HNA.out] at KT
      have HKT : Hid (Calls Tryz.prog 28 #[.pointer (some ⟨Bd, 0, none⟩), .agg #[.int .i64 c.k, .string c.s, .int .i64 vk, .int .i64 vx, .int .u64 vb, .string vs, .slice la ll lc, .int .i64 c.d], .bool lst, .int .i64 t] (wr.alloc (.cells #[.int .i64 c.k, .string c.s, .int .i64 vk, .int .i64 vx, .int .u64 vb, .string vs, .slice la ll lc, .int .i64 c.d] 27)) (TkP w.heap.size Bd n (.slice aa na ac) asks lst t c dr (wr.alloc (.cells #[.int .i64 c.k, .string c.s, .int .i64 vk, .int .i64 vx, .int .u64 vb, .string vs, .slice la ll lc, .int .i64 c.d] 27)))) := KT
      have HR : Hid (RunP (n + 1) asks t l j ⟨s, [], []⟩ dr) := hrun
      have Hc : Hid (l[j]? = some c) := hc
      have ra : (wr.alloc (.cells #[.int .i64 c.k, .string c.s, .int .i64 vk, .int .i64 vx, .int .u64 vb, .string vs, .slice la ll lc, .int .i64 c.d] 27)).heap[wr.heap.size]? = some (.cells #[.int .i64 c.k, .string c.s, .int .i64 vk, .int .i64 vx, .int .u64 vb, .string vs, .slice la ll lc, .int .i64 c.d] 27 (0, 0)) := heap_alloc_new wr _
      have aC : (#[.int .i64 c.k, .string c.s, .int .i64 vk, .int .i64 vx, .int .u64 vb, .string vs, .slice la ll lc, .int .i64 c.d] : Array Value).all (·.oneCell') = true := by simp [Value.oneCell']
      clear KT hrun hc q1 q2 q3 hr hval hbel hlies hBlo hlen he1 he2 hba hD
      go_upto_region 7 with (first | refine wpList_load_mid rfl 27 _ rfl B (o + j * 8) rfl (#[.int .i64 c.k, .string c.s, .int .i64 vk, .int .i64 vx, .int .u64 vb, .string vs, .slice la ll lc, .int .i64 c.d] : Array Value).toList _ hrng Tryz.underlying27 rfl info27s ?_ | refine wpList_store_row rfl 27 _ _ rfl wr.heap.size #[.int .i64 c.k, .string c.s, .int .i64 vk, .int .i64 vx, .int .u64 vb, .string vs, .slice la ll lc, .int .i64 c.d] rfl rfl 27 zC n13 info27s rfl aC ?_)
      rw [World.setRow_alloc_new]
      clear n13 hrng aC
      generalize wr.alloc (.cells #[.int .i64 c.k, .string c.s, .int .i64 vk, .int .i64 vx, .int .u64 vb, .string vs, .slice la ll lc, .int .i64 c.d] 27) = Wa at HBa HKT ra ⊢
      go_wp2_with (refine wpList_load_row rfl 27 _ rfl wr.heap.size rfl 27 #[.int .i64 c.k, .string c.s, .int .i64 vk, .int .i64 vx, .int .u64 vb, .string vs, .slice la ll lc, .int .i64 c.d] (0, 0) _ ra Tryz.underlying27 rfl info27s ?_)
      refine HKT.out.mono ?_
      rintro e w2 ⟨⟨code, rfl, hcase⟩, hb2⟩
      have HB2 : Hid (Below w.heap.size w w2) := HBa.out.trans hb2
      by_cases hcode : code = 0
      · subst hcode
        have HFw : Hid (PlI w.heap.size Bd n s (.slice aa na ac) asks l t w w2 (j + 1)) := by
          rcases hcase with ⟨_, d2, cs2, ve2, vr2, es2, rs2, hT, hD2⟩ | ⟨h0, _⟩
          · exact ⟨HB2.out, ⟨d2, cs2, ve2, vr2, es2, rs2, ⟨dr, c, HR.out, Hc.out, by rw [← HLS.out]; exact hT⟩, hD2⟩⟩
          · exact absurd rfl h0
        clear hcase hb2 HKT ra hlst
        go_wp2_with fail
        exact ⟨⟨j + 1, hlt, by first | rw [HW1.out] | exact congrArg _ (Int.natCast_succ j).symm, HFw⟩, by first | exact meas hlt HW1.out | exact meas hlt (Int.natCast_succ j).symm⟩
      · have HC0 : Hid (code ≠ 0) := hcode
        have hce : (code == 0) = false := by simpa using hcode
        have hcn : (code != 0) = true := by simpa using hcode
        have HF : Hid (FailR (n + 1) asks t l ⟨s, [], []⟩ code) := by
          rcases hcase with ⟨h0, _⟩ | ⟨_, hno, h17⟩
          · exact absurd h0 hcode
          · exact .inr ⟨j, dr, c, HR.out, Hc.out, by rw [← HLS.out]; exact hno, fun a b e f => h17 a b (by rw [HLS.out]; exact decide_eq_true e) f⟩
        clear hcase hb2 HKT ra hlst hcode
        go_wp2_with fail
        go_ret3
        exact HQ1.out code _ HC0.out HF.out HB2.out
    · obtain rfl : j = N := by omega
      obtain ⟨ea, ec, rfl⟩ := owns_shape hD.evo
      obtain ⟨ra, rc, rfl⟩ := owns_shape hD.rfo
      have HR : Hid (RunP (n + 1) asks t l j ⟨s, [], []⟩ dr) := hrun
      have HD : Hid (DrI w.heap.size Bd (n + 1) (.slice aa na ac) dr wr cs1 (.slice ea es.length ec) (.slice ra rs.length rc) es rs) := hD
      have x32 : wr.cell? ⟨Bd, 32, none⟩ = some (.slice ea es.length ec) := row_cell hD.row (drf_32 hD.st.size _ _ _)
      have x33 : wr.cell? ⟨Bd, 33, none⟩ = some (.slice ra rs.length rc) := row_cell hD.row (drf_33 hD.st.size _ _ _)
      clear hrun hD
      go_upto_region 11 with fail
      refine wp_region_held_drew (S := (fun w' => w'.cell? ⟨Bd, 32, none⟩ = some (.slice ea es.length ec) ∧ w'.cell? ⟨Bd, 33, none⟩ = some (.slice ra rs.length rc))) (by kernel_rfl) ⟨x32, x33⟩ (fun hHeld => ?_)
      change wpAnyH _ _ _ _ _ _ _ _ (World.drew _)
      refine wpAnyH_take (i := 0) (oi := { dst := some 40, op := Go.Op.fieldAddr 68 (Go.Operand.tmp 11) 2, type := 0, pos := "plan.go:22", after := #[], guard := none }) (v := ?_) rfl (by kernel_rfl) (by kernel_rfl) (by kernel_rfl) (fun _ _ _ h => h) (Or.inl ⟨by rfl, ?_⟩) hHeld ?_
      rotate_left 1
      · (intro w hSw; (try dsimp only at hSw); go_simp <;> with_reducible rfl)
      simp only [Act.put, List.setIfInBounds_toArray, List.set_cons_zero, List.set_cons_succ]
      refine wpAnyH_take (i := 1) (oi := { dst := some 41, op := Go.Op.load 44 (Go.Operand.tmp 40), type := 44, pos := "plan.go:22", after := #[{ on := 0, ground := Go.Ground.data }], guard := none }) (v := ?_) rfl (by kernel_rfl) (by kernel_rfl) (by kernel_rfl) (fun _ _ _ h => h) (Or.inl ⟨by rfl, ?_⟩) hHeld ?_
      rotate_left 1
      · (intro w hSw; (try dsimp only at hSw); go_simp <;> with_reducible rfl)
      simp only [Act.put, List.setIfInBounds_toArray, List.set_cons_zero, List.set_cons_succ]
      refine wpAnyH_take (i := 2) (oi := { dst := some 42, op := Go.Op.fieldAddr 68 (Go.Operand.tmp 11) 3, type := 0, pos := "plan.go:22", after := #[{ on := 4, ground := Go.Ground.gcOnly Go.Departure.lateStores }], guard := none }) (v := ?_) rfl (by kernel_rfl) (by kernel_rfl) (by kernel_rfl) (fun _ _ _ h => h) (Or.inl ⟨by rfl, ?_⟩) hHeld ?_
      rotate_left 1
      · (intro w hSw; (try dsimp only at hSw); go_simp <;> with_reducible rfl)
      simp only [Act.put, List.setIfInBounds_toArray, List.set_cons_zero, List.set_cons_succ]
      refine wpAnyH_take (i := 3) (oi := { dst := some 43, op := Go.Op.load 42 (Go.Operand.tmp 42), type := 42, pos := "plan.go:22", after := #[{ on := 2, ground := Go.Ground.data }, { on := 4, ground := Go.Ground.gcOnly Go.Departure.lateStores }], guard := none }) (v := ?_) rfl (by kernel_rfl) (by kernel_rfl) (by kernel_rfl) (fun _ _ _ h => h) (Or.inl ⟨by rfl, ?_⟩) hHeld ?_
      rotate_left 1
      · (intro w hSw; (try dsimp only at hSw); go_simp <;> with_reducible rfl)
      simp only [Act.put, List.setIfInBounds_toArray, List.set_cons_zero, List.set_cons_succ]
      refine wpAnyH_take (i := 4) (oi := { dst := some 8, op := Go.Op.assign (Go.Operand.tmp 41), type := 44, pos := "plan.go:22", after := #[{ on := 1, ground := Go.Ground.data }, { on := 0, ground := Go.Ground.phase }, { on := 1, ground := Go.Ground.phase }, { on := 2, ground := Go.Ground.textOnly Go.Departure.lateStores }, { on := 3, ground := Go.Ground.textOnly Go.Departure.lateStores }], guard := none }) (v := ?_) rfl (by kernel_rfl) (by kernel_rfl) (by kernel_rfl) (fun _ _ _ h => h) (Or.inl ⟨by rfl, ?_⟩) hHeld ?_
      rotate_left 1
      · (intro w hSw; (try dsimp only at hSw); go_simp <;> with_reducible rfl)
      simp only [Act.put, List.setIfInBounds_toArray, List.set_cons_zero, List.set_cons_succ]
      refine wpAnyH_take (i := 5) (oi := { dst := some 9, op := Go.Op.assign (Go.Operand.tmp 43), type := 42, pos := "plan.go:22", after := #[{ on := 3, ground := Go.Ground.data }, { on := 4, ground := Go.Ground.chain }, { on := 0, ground := Go.Ground.phase }, { on := 1, ground := Go.Ground.phase }, { on := 2, ground := Go.Ground.phase }, { on := 3, ground := Go.Ground.phase }, { on := 4, ground := Go.Ground.phase }], guard := none }) (v := ?_) rfl (by kernel_rfl) (by kernel_rfl) (by kernel_rfl) (fun _ _ _ h => h) (Or.inl ⟨by rfl, ?_⟩) hHeld ?_
      rotate_left 1
      · (intro w hSw; (try dsimp only at hSw); go_simp <;> with_reducible rfl)
      simp only [Act.put, List.setIfInBounds_toArray, List.set_cons_zero, List.set_cons_succ]
      refine wpAnyH_take (i := 6) (oi := { dst := some 10, op := Go.Op.assign (Go.Operand.const (Go.Value.int Go.IntKind.i64 0)), type := 29, pos := "plan.go:22", after := #[{ on := 5, ground := Go.Ground.chain }, { on := 0, ground := Go.Ground.phase }, { on := 1, ground := Go.Ground.phase }, { on := 2, ground := Go.Ground.phase }, { on := 3, ground := Go.Ground.phase }, { on := 4, ground := Go.Ground.phase }, { on := 5, ground := Go.Ground.phase }], guard := none }) (v := ?_) rfl (by kernel_rfl) (by kernel_rfl) (by kernel_rfl) (fun _ _ _ h => h) (Or.inl ⟨by rfl, ?_⟩) hHeld ?_
      rotate_left 1
      · (intro w hSw; (try dsimp only at hSw); go_simp <;> with_reducible rfl)
      simp only [Act.put, List.setIfInBounds_toArray, List.set_cons_zero, List.set_cons_succ]
      refine wpAnyH_done (by kernel_rfl) ?_ _
      go_wp2_with fail
      go_ret3
      exact HQ0.out _ dr Bd cs1 _ _ es rs HR.out (HD.out.below (Below.refl _ wr).drew) HI.out.bel.drew
end Go.Proofs.YtcdhlklmnnmpoaaGreat
