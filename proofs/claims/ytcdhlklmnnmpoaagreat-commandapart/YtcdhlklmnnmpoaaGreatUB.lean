/- The contracts of inTurn, settled, fits, hasRoom, refusal, whatever the state and the event. -/
import Derived.Test.YtcdhlklmnnmpoaaGreatSS
import Derived.Test.YtcdhlklmnnmpoaaGreatUA
import Derived.Deep.QuietTactic
import Derived.BigRegion
namespace Go.Proofs.YtcdhlklmnnmpoaaGreat
open Go.ChangeShapes Go.WideShapes Go.ChangeAt Go.RowKit
/-- Whether an event comes in its turn, fits, has room; what stands against it. -/
def inT (s : Sta) (e : Ev) : Bool := if e.k = 1 then s.count == 0 else s.count != 0 && s.status == 1
def setl (s : Sta) : Bool := s.ts == 0 && !s.fresh
def dueB (s : Sta) (e : Ev) : Bool := match s.tm[(tmAt s e.s).toNat]? with
  | some t => decide (0 ≤ tmAt s e.s) && decide (t.d ≤ e.t)
  | none => false
def fitsB (s : Sta) (e : Ev) : Bool :=
  if e.k = 2 then s.ts == 0 else if e.k = 3 then s.ts == 1 else if e.k = 4 then s.ts == 2 else if e.k = 5 then s.ts == 2
  else if e.k = 6 then s.ts == 2 && decide (s.td ≤ e.t) else if e.k = 8 then !s.cancel else if e.k = 9 then decide (tmAt s e.s < 0)
  else if e.k = 10 then dueB s e else if e.k = 11 then decide (0 ≤ tmAt s e.s) else if e.k = 12 then decide (upAt s e.s < 0)
  else if e.k = 13 then decide (0 ≤ waAt s e.s) else if e.k = 15 then setl s else if e.k = 16 then setl s else if e.k = 17 then setl s && s.cancel
  else if e.k = 19 then decide (0 < s.dl) && decide (s.dl ≤ e.t) else true
def roomB (s : Sta) (e : Ev) : Bool := if e.k = 9 then decide (s.tm.length < 10) else if e.k = 12 then decide (s.up.length < 10) else true
def refC (s : Sta) (e : Ev) : Int := if 120 ≤ s.count then 7 else if inT s e = false then 20 else if e.t < s.time then 20 else if fitsB s e = false then 20 else if roomB s e = false then 7 else 0
theorem belDN {B : Nat} {a w : World} (h : Below B a w) (n : Nat) : Below B a (w.drewN n) := ⟨h.os, h.tape, h.output, h.size, h.block⟩
/-- What a test answers. -/
def BoP (b : Bool) (w : World) (e : Ending) (w' : World) : Prop := e = .returned (.bool b) ∧ Below w.heap.size w w'
set_option maxHeartbeats 1000000 in
theorem running_calls (cs : Array Value) (k : Int) (w : World) (h : cs[1]? = some (.int .i64 k)) : Calls Tryz.prog 94 #[.agg cs] w (BoP (k == 1) w) := by
  go_enter Tryz.func94, Tryz.ntmps94
  go_wp2_with fail
  go_ret
  exact ⟨by first | rfl | simp, bel1 _ _⟩
set_option maxHeartbeats 1000000 in
theorem settled_calls (cs : Array Value) (k : Int) (b : Bool) (w : World) (h : cs[16]? = some (.int .i64 k)) (h1 : cs[21]? = some (.bool b)) : Calls Tryz.prog 98 #[.agg cs] w (BoP (k == 0 && !b) w) := by
  by_cases hk : k = 0
  · subst hk
    cases b
    all_goals
      go_enter Tryz.func98, Tryz.ntmps98
      go_wp2_with fail
      go_ret
      exact ⟨by first | rfl | simp, bel1 _ _⟩
  · have hk' : (k == 0) = false := by simpa using hk
    cases b
    all_goals
      go_enter Tryz.func98, Tryz.ntmps98
      go_wp2_with fail
      all_goals
        go_ret
        exact ⟨by first | rfl | simp [hk'], bel1 _ _⟩
set_option maxHeartbeats 1000000 in
theorem inTurn_one (cs es : Array Value) (c : Int) (w : World) (h0 : es[0]? = some (.int .i64 1)) (h2 : cs[2]? = some (.int .i64 c)) : Calls Tryz.prog 80 #[.agg cs, .agg es] w (BoP (c == 0) w) := by
  go_enter Tryz.func80, Tryz.ntmps80
  go_wp2_with fail
  go_ret
  exact ⟨by first | rfl | simp, bel2 (bel1 _ _) (bel1 _ _)⟩
set_option maxHeartbeats 1000000 in
set_option maxRecDepth 100000 in
theorem inTurn_more (cs es : Array Value) (k c s : Int) (w : World) (hs : cs.size = 31) (hk : k ≠ 1) (h0 : es[0]? = some (.int .i64 k)) (h1 : cs[1]? = some (.int .i64 s)) (h2 : cs[2]? = some (.int .i64 c)) : Calls Tryz.prog 80 #[.agg cs, .agg es] w (BoP (c != 0 && s == 1) w) := by
  have hk' : (k == 1) = false := by simpa using hk
  have hi33 := info33s cs hs
  have K : Hid (∀ W, Calls Tryz.prog 94 #[.agg cs] W (BoP (s == 1) W)) := fun W => running_calls cs s W h1
  clear hs
  by_cases hc : c = 0
  · subst hc
    go_enter Tryz.func80, Tryz.ntmps80
    go_wp2_with fail
    go_ret
    exact ⟨by first | rfl | simp, bel2 (bel1 _ _) (bel1 _ _)⟩
  · have hc' : (c == 0) = false := by simpa using hc
    have hc2 : (c != 0) = true := by simpa using hc
    generalize (s == 1) = b at K ⊢
    have HQ : Hid (∀ w', Below w.heap.size w w' → BoP (c != 0 && b) w (.returned (.bool b)) w') := fun w' h => ⟨by simp [bne, hc'], h⟩
    generalize BoP (c != 0 && b) w = Q at HQ ⊢
    go_enter Tryz.func80, Tryz.ntmps80
    go_wp2_with (refine wpList_load_rowG rfl 41 _ rfl w.heap.size rfl 41 cs (0, 0) _ (heap_alloc2_old _ _ _) Tryz.underlying41 rfl hi33 ?_)
    refine (K.out _).mono ?_
    rintro e w1 ⟨rfl, hb⟩
    have HB : Hid (Below w.heap.size w w1) := bel2 (bel2 (bel1 _ _) (bel1 _ _)) hb
    clear hb
    go_wp2_with fail
    all_goals exact HQ.out _ HB.out
theorem inTurn_calls (R : Value → Tv → Prop) (n : Nat) (cs es : Array Value) (s : Sta) (x : Ev) (w : World) (h : Rs w n cs s) (he : IsEv R es x) : Calls Tryz.prog 80 #[.agg cs, .agg es] w (BoP (inT s x) w) := by
  by_cases hk : x.k = 1
  · have := inTurn_one cs es s.count w (by rw [he.c0, hk]) h.c2
    rw [inT, if_pos hk]
    exact this
  · have := inTurn_more cs es x.k s.count s.status w h.size hk he.c0 h.c1 h.c2
    rw [inT, if_neg hk]
    exact this
set_option maxHeartbeats 1000000 in
theorem room_9 (cs es : Array Value) (a : Option Addr) (m c : Nat) (w : World) (h0 : es[0]? = some (.int .i64 9)) (h1 : cs[23]? = some (.slice a m c)) : Calls Tryz.prog 82 #[.agg cs, .agg es] w (BoP (decide (m < 10)) w) := by
  go_enter Tryz.func82, Tryz.ntmps82
  go_wp2_with fail
  go_ret
  have hd : decide ((m : Int) < 10) = decide (m < 10) := decide_eq_decide.2 (by omega)
  exact ⟨congrArg (fun b => Ending.returned (Value.bool b)) hd, bel2 (bel1 _ _) (bel1 _ _)⟩
set_option maxHeartbeats 1000000 in
theorem room_12 (cs es : Array Value) (a : Option Addr) (m c : Nat) (w : World) (h0 : es[0]? = some (.int .i64 12)) (h1 : cs[24]? = some (.slice a m c)) : Calls Tryz.prog 82 #[.agg cs, .agg es] w (BoP (decide (m < 10)) w) := by
  go_enter Tryz.func82, Tryz.ntmps82
  go_wp2_with fail
  go_ret
  have hd : decide ((m : Int) < 10) = decide (m < 10) := decide_eq_decide.2 (by omega)
  exact ⟨congrArg (fun b => Ending.returned (Value.bool b)) hd, bel2 (bel1 _ _) (bel1 _ _)⟩
set_option maxHeartbeats 1000000 in
theorem room_no (cs es : Array Value) (k : Int) (w : World) (h0 : es[0]? = some (.int .i64 k)) (h9 : (k == 9) = false) (h12 : (k == 12) = false) : Calls Tryz.prog 82 #[.agg cs, .agg es] w (BoP true w) := by
  have g9 : ¬ k = 9 := by simpa using h9
  have g12 : ¬ k = 12 := by simpa using h12
  go_enter Tryz.func82, Tryz.ntmps82
  go_wp2_with fail
  go_ret
  exact ⟨rfl, bel2 (bel1 _ _) (bel1 _ _)⟩
theorem hasRoom_calls (R : Value → Tv → Prop) (n : Nat) (cs es : Array Value) (s : Sta) (x : Ev) (w : World) (h : Rs w n cs s) (he : IsEv R es x) : Calls Tryz.prog 82 #[.agg cs, .agg es] w (BoP (roomB s x) w) := by
  unfold roomB
  by_cases h9 : x.k = 9
  · obtain ⟨a, c, h1, _⟩ := h.rowT
    rw [if_pos h9]
    exact room_9 cs es a _ c w (by rw [he.c0, h9]) h1
  · rw [if_neg h9]
    by_cases h12 : x.k = 12
    · obtain ⟨a, c, h1, _⟩ := h.rowU
      rw [if_pos h12]
      exact room_12 cs es a _ c w (by rw [he.c0, h12]) h1
    · rw [if_neg h12]
      exact room_no cs es x.k w he.c0 (by simpa using h9) (by simpa using h12)
set_option maxHeartbeats 2000000 in
set_option maxRecDepth 100000 in
theorem fits_1 (cs es : Array Value) (w : World) (h0 : es[0]? = some (.int .i64 1)) : Calls Tryz.prog 81 #[.agg cs, .agg es] w (BoP (true) w) := by
  go_enter Tryz.func81, Tryz.ntmps81
  go_wp2_with fail
  all_goals
    go_ret
    exact ⟨by first | rfl | (simp ; done), bel2 (bel1 _ _) (bel1 _ _)⟩
set_option maxHeartbeats 2000000 in
set_option maxRecDepth 100000 in
theorem fits_7 (cs es : Array Value) (w : World) (h0 : es[0]? = some (.int .i64 7)) : Calls Tryz.prog 81 #[.agg cs, .agg es] w (BoP (true) w) := by
  go_enter Tryz.func81, Tryz.ntmps81
  go_wp2_with fail
  all_goals
    go_ret
    exact ⟨by first | rfl | (simp ; done), bel2 (bel1 _ _) (bel1 _ _)⟩
set_option maxHeartbeats 2000000 in
set_option maxRecDepth 100000 in
theorem fits_14 (cs es : Array Value) (w : World) (h0 : es[0]? = some (.int .i64 14)) : Calls Tryz.prog 81 #[.agg cs, .agg es] w (BoP (true) w) := by
  go_enter Tryz.func81, Tryz.ntmps81
  go_wp2_with fail
  all_goals
    go_ret
    exact ⟨by first | rfl | (simp ; done), bel2 (bel1 _ _) (bel1 _ _)⟩
set_option maxHeartbeats 2000000 in
set_option maxRecDepth 100000 in
theorem fits_18 (cs es : Array Value) (w : World) (h0 : es[0]? = some (.int .i64 18)) : Calls Tryz.prog 81 #[.agg cs, .agg es] w (BoP (true) w) := by
  go_enter Tryz.func81, Tryz.ntmps81
  go_wp2_with fail
  all_goals
    go_ret
    exact ⟨by first | rfl | (simp ; done), bel2 (bel1 _ _) (bel1 _ _)⟩
set_option maxHeartbeats 2000000 in
set_option maxRecDepth 100000 in
theorem fits_2 (cs es : Array Value) (ts : Int) (c16 : cs[16]? = some (.int .i64 ts)) (w : World) (h0 : es[0]? = some (.int .i64 2)) : Calls Tryz.prog 81 #[.agg cs, .agg es] w (BoP (ts == 0) w) := by
  go_enter Tryz.func81, Tryz.ntmps81
  go_wp2_with fail
  all_goals
    go_ret
    exact ⟨by first | rfl | (simp ; done), bel2 (bel1 _ _) (bel1 _ _)⟩
set_option maxHeartbeats 2000000 in
set_option maxRecDepth 100000 in
theorem fits_3 (cs es : Array Value) (ts : Int) (c16 : cs[16]? = some (.int .i64 ts)) (w : World) (h0 : es[0]? = some (.int .i64 3)) : Calls Tryz.prog 81 #[.agg cs, .agg es] w (BoP (ts == 1) w) := by
  go_enter Tryz.func81, Tryz.ntmps81
  go_wp2_with fail
  all_goals
    go_ret
    exact ⟨by first | rfl | (simp ; done), bel2 (bel1 _ _) (bel1 _ _)⟩
set_option maxHeartbeats 2000000 in
set_option maxRecDepth 100000 in
theorem fits_4 (cs es : Array Value) (ts : Int) (c16 : cs[16]? = some (.int .i64 ts)) (w : World) (h0 : es[0]? = some (.int .i64 4)) : Calls Tryz.prog 81 #[.agg cs, .agg es] w (BoP (ts == 2) w) := by
  go_enter Tryz.func81, Tryz.ntmps81
  go_wp2_with fail
  all_goals
    go_ret
    exact ⟨by first | rfl | (simp ; done), bel2 (bel1 _ _) (bel1 _ _)⟩
set_option maxHeartbeats 2000000 in
set_option maxRecDepth 100000 in
theorem fits_5 (cs es : Array Value) (ts : Int) (c16 : cs[16]? = some (.int .i64 ts)) (w : World) (h0 : es[0]? = some (.int .i64 5)) : Calls Tryz.prog 81 #[.agg cs, .agg es] w (BoP (ts == 2) w) := by
  go_enter Tryz.func81, Tryz.ntmps81
  go_wp2_with fail
  all_goals
    go_ret
    exact ⟨by first | rfl | (simp ; done), bel2 (bel1 _ _) (bel1 _ _)⟩
set_option maxHeartbeats 2000000 in
set_option maxRecDepth 100000 in
theorem fits_6 (cs es : Array Value) (ts td tt : Int) (c16 : cs[16]? = some (.int .i64 ts)) (c18 : cs[18]? = some (.int .i64 td)) (e1 : es[1]? = some (.int .i64 tt)) (w : World) (h0 : es[0]? = some (.int .i64 6)) : Calls Tryz.prog 81 #[.agg cs, .agg es] w (BoP (ts == 2 && decide (td ≤ tt)) w) := by
  by_cases hk : ts = 2
  · subst hk
    go_enter Tryz.func81, Tryz.ntmps81
    go_wp2_with fail
    all_goals
      go_ret
      exact ⟨by first | rfl | (simp ; done), bel2 (bel1 _ _) (bel1 _ _)⟩
  · have hk' : (ts == 2) = false := by simpa using hk
    go_enter Tryz.func81, Tryz.ntmps81
    go_wp2_with fail
    all_goals
      go_ret
      exact ⟨by first | rfl | (simp [hk']; done), bel2 (bel1 _ _) (bel1 _ _)⟩
set_option maxHeartbeats 2000000 in
set_option maxRecDepth 100000 in
theorem fits_8 (cs es : Array Value) (b : Bool) (c22 : cs[22]? = some (.bool b)) (w : World) (h0 : es[0]? = some (.int .i64 8)) : Calls Tryz.prog 81 #[.agg cs, .agg es] w (BoP (!b) w) := by
  go_enter Tryz.func81, Tryz.ntmps81
  go_wp2_with fail
  all_goals
    go_ret
    exact ⟨by first | rfl | (simp ; done), bel2 (bel1 _ _) (bel1 _ _)⟩
set_option maxHeartbeats 2000000 in
set_option maxRecDepth 100000 in
theorem fits_19 (cs es : Array Value) (dl tt : Int) (c4 : cs[4]? = some (.int .i64 dl)) (e1 : es[1]? = some (.int .i64 tt)) (w : World) (h0 : es[0]? = some (.int .i64 19)) : Calls Tryz.prog 81 #[.agg cs, .agg es] w (BoP (decide (0 < dl) && decide (dl ≤ tt)) w) := by
  by_cases hk : 0 < dl
  · have hk' : decide (0 < dl) = true := decide_eq_true hk
    go_enter Tryz.func81, Tryz.ntmps81
    go_wp2_with fail
    all_goals
      go_ret
      exact ⟨by first | rfl | (simp [hk']; done), bel2 (bel1 _ _) (bel1 _ _)⟩
  · have hk' : decide (0 < dl) = false := decide_eq_false hk
    go_enter Tryz.func81, Tryz.ntmps81
    go_wp2_with fail
    all_goals
      go_ret
      exact ⟨by first | rfl | (simp [hk']; done), bel2 (bel1 _ _) (bel1 _ _)⟩
set_option maxHeartbeats 2000000 in
set_option maxRecDepth 100000 in
theorem fits_9 (cs es : Array Value) (hs : cs.size = 31) (q : ByteArray) (z : Int) (e4 : es[4]? = some (.string q)) (w : World) (K : Hid (∀ W, Below w.heap.size w W → Calls Tryz.prog 95 #[.agg cs, .string q] W (IxP z W))) (h0 : es[0]? = some (.int .i64 9)) : Calls Tryz.prog 81 #[.agg cs, .agg es] w (BoP (decide (z < 0)) w) := by
  have hi33 := info33s cs hs
  have r0 := heap_alloc2_old w (.cells cs 41) (.cells es 54)
  have HQ : Hid (∀ w', Below w.heap.size w w' → BoP (decide (z < 0)) w (.returned (.bool (decide (z < 0)))) w') := fun w' h => ⟨rfl, h⟩
  generalize BoP (decide (z < 0)) w = Q at HQ ⊢
  clear hs
  go_enter Tryz.func81, Tryz.ntmps81
  go_wp2_with (refine wpList_load_rowG rfl 41 _ rfl w.heap.size rfl 41 cs (0, 0) _ r0 Tryz.underlying41 rfl hi33 ?_)
  refine (K.out _ (bel2 (bel1 _ _) (bel1 _ _))).mono ?_
  rintro e w1 ⟨rfl, hb⟩
  have HB : Hid (Below w.heap.size w w1) := bel2 (bel2 (bel1 _ _) (bel1 _ _)) hb
  clear hb
  go_wp2_with fail
  all_goals first | exact HQ.out _ HB.out | (refine cast ?_ (HQ.out _ HB.out); congr 1; done)
set_option maxHeartbeats 2000000 in
set_option maxRecDepth 100000 in
theorem fits_11 (cs es : Array Value) (hs : cs.size = 31) (q : ByteArray) (z : Int) (e4 : es[4]? = some (.string q)) (w : World) (K : Hid (∀ W, Below w.heap.size w W → Calls Tryz.prog 95 #[.agg cs, .string q] W (IxP z W))) (h0 : es[0]? = some (.int .i64 11)) : Calls Tryz.prog 81 #[.agg cs, .agg es] w (BoP (decide (0 ≤ z)) w) := by
  have hi33 := info33s cs hs
  have r0 := heap_alloc2_old w (.cells cs 41) (.cells es 54)
  have HQ : Hid (∀ w', Below w.heap.size w w' → BoP (decide (0 ≤ z)) w (.returned (.bool (decide (0 ≤ z)))) w') := fun w' h => ⟨rfl, h⟩
  generalize BoP (decide (0 ≤ z)) w = Q at HQ ⊢
  clear hs
  go_enter Tryz.func81, Tryz.ntmps81
  go_wp2_with (refine wpList_load_rowG rfl 41 _ rfl w.heap.size rfl 41 cs (0, 0) _ r0 Tryz.underlying41 rfl hi33 ?_)
  refine (K.out _ (bel2 (bel1 _ _) (bel1 _ _))).mono ?_
  rintro e w1 ⟨rfl, hb⟩
  have HB : Hid (Below w.heap.size w w1) := bel2 (bel2 (bel1 _ _) (bel1 _ _)) hb
  clear hb
  go_wp2_with fail
  all_goals first | exact HQ.out _ HB.out | (refine cast ?_ (HQ.out _ HB.out); congr 1; done)
set_option maxHeartbeats 2000000 in
set_option maxRecDepth 100000 in
theorem fits_12 (cs es : Array Value) (hs : cs.size = 31) (q : ByteArray) (z : Int) (e4 : es[4]? = some (.string q)) (w : World) (K : Hid (∀ W, Below w.heap.size w W → Calls Tryz.prog 96 #[.agg cs, .string q] W (IxP z W))) (h0 : es[0]? = some (.int .i64 12)) : Calls Tryz.prog 81 #[.agg cs, .agg es] w (BoP (decide (z < 0)) w) := by
  have hi33 := info33s cs hs
  have r0 := heap_alloc2_old w (.cells cs 41) (.cells es 54)
  have HQ : Hid (∀ w', Below w.heap.size w w' → BoP (decide (z < 0)) w (.returned (.bool (decide (z < 0)))) w') := fun w' h => ⟨rfl, h⟩
  generalize BoP (decide (z < 0)) w = Q at HQ ⊢
  clear hs
  go_enter Tryz.func81, Tryz.ntmps81
  go_wp2_with (refine wpList_load_rowG rfl 41 _ rfl w.heap.size rfl 41 cs (0, 0) _ r0 Tryz.underlying41 rfl hi33 ?_)
  refine (K.out _ (bel2 (bel1 _ _) (bel1 _ _))).mono ?_
  rintro e w1 ⟨rfl, hb⟩
  have HB : Hid (Below w.heap.size w w1) := bel2 (bel2 (bel1 _ _) (bel1 _ _)) hb
  clear hb
  go_wp2_with fail
  all_goals first | exact HQ.out _ HB.out | (refine cast ?_ (HQ.out _ HB.out); congr 1; done)
set_option maxHeartbeats 2000000 in
set_option maxRecDepth 100000 in
theorem fits_13 (cs es : Array Value) (hs : cs.size = 31) (q : ByteArray) (z : Int) (e4 : es[4]? = some (.string q)) (w : World) (K : Hid (∀ W, Below w.heap.size w W → Calls Tryz.prog 97 #[.agg cs, .string q] W (IxP z W))) (h0 : es[0]? = some (.int .i64 13)) : Calls Tryz.prog 81 #[.agg cs, .agg es] w (BoP (decide (0 ≤ z)) w) := by
  have hi33 := info33s cs hs
  have r0 := heap_alloc2_old w (.cells cs 41) (.cells es 54)
  have HQ : Hid (∀ w', Below w.heap.size w w' → BoP (decide (0 ≤ z)) w (.returned (.bool (decide (0 ≤ z)))) w') := fun w' h => ⟨rfl, h⟩
  generalize BoP (decide (0 ≤ z)) w = Q at HQ ⊢
  clear hs
  go_enter Tryz.func81, Tryz.ntmps81
  go_wp2_with (refine wpList_load_rowG rfl 41 _ rfl w.heap.size rfl 41 cs (0, 0) _ r0 Tryz.underlying41 rfl hi33 ?_)
  refine (K.out _ (bel2 (bel1 _ _) (bel1 _ _))).mono ?_
  rintro e w1 ⟨rfl, hb⟩
  have HB : Hid (Below w.heap.size w w1) := bel2 (bel2 (bel1 _ _) (bel1 _ _)) hb
  clear hb
  go_wp2_with fail
  all_goals first | exact HQ.out _ HB.out | (refine cast ?_ (HQ.out _ HB.out); congr 1; done)
set_option maxHeartbeats 2000000 in
set_option maxRecDepth 100000 in
theorem fits_15 (cs es : Array Value) (hs : cs.size = 31) (z : Bool) (w : World) (K : Hid (∀ W, Below w.heap.size w W → Calls Tryz.prog 98 #[.agg cs] W (BoP z W))) (h0 : es[0]? = some (.int .i64 15)) : Calls Tryz.prog 81 #[.agg cs, .agg es] w (BoP (z) w) := by
  have hi33 := info33s cs hs
  have r0 := heap_alloc2_old w (.cells cs 41) (.cells es 54)
  have HQ : Hid (∀ w', Below w.heap.size w w' → BoP (z) w (.returned (.bool (z))) w') := fun w' h => ⟨rfl, h⟩
  generalize BoP (z) w = Q at HQ ⊢
  clear hs
  go_enter Tryz.func81, Tryz.ntmps81
  go_wp2_with (refine wpList_load_rowG rfl 41 _ rfl w.heap.size rfl 41 cs (0, 0) _ r0 Tryz.underlying41 rfl hi33 ?_)
  refine (K.out _ (bel2 (bel1 _ _) (bel1 _ _))).mono ?_
  rintro e w1 ⟨rfl, hb⟩
  have HB : Hid (Below w.heap.size w w1) := bel2 (bel2 (bel1 _ _) (bel1 _ _)) hb
  clear hb
  go_wp2_with fail
  all_goals first | exact HQ.out _ HB.out | (refine cast ?_ (HQ.out _ HB.out); congr 1; done)
set_option maxHeartbeats 2000000 in
set_option maxRecDepth 100000 in
theorem fits_16 (cs es : Array Value) (hs : cs.size = 31) (z : Bool) (w : World) (K : Hid (∀ W, Below w.heap.size w W → Calls Tryz.prog 98 #[.agg cs] W (BoP z W))) (h0 : es[0]? = some (.int .i64 16)) : Calls Tryz.prog 81 #[.agg cs, .agg es] w (BoP (z) w) := by
  have hi33 := info33s cs hs
  have r0 := heap_alloc2_old w (.cells cs 41) (.cells es 54)
  have HQ : Hid (∀ w', Below w.heap.size w w' → BoP (z) w (.returned (.bool (z))) w') := fun w' h => ⟨rfl, h⟩
  generalize BoP (z) w = Q at HQ ⊢
  clear hs
  go_enter Tryz.func81, Tryz.ntmps81
  go_wp2_with (refine wpList_load_rowG rfl 41 _ rfl w.heap.size rfl 41 cs (0, 0) _ r0 Tryz.underlying41 rfl hi33 ?_)
  refine (K.out _ (bel2 (bel1 _ _) (bel1 _ _))).mono ?_
  rintro e w1 ⟨rfl, hb⟩
  have HB : Hid (Below w.heap.size w w1) := bel2 (bel2 (bel1 _ _) (bel1 _ _)) hb
  clear hb
  go_wp2_with fail
  all_goals first | exact HQ.out _ HB.out | (refine cast ?_ (HQ.out _ HB.out); congr 1; done)
set_option maxHeartbeats 2000000 in
set_option maxRecDepth 100000 in
theorem fits_17 (cs es : Array Value) (hs : cs.size = 31) (z c : Bool) (c22 : cs[22]? = some (.bool c)) (w : World) (K : Hid (∀ W, Below w.heap.size w W → Calls Tryz.prog 98 #[.agg cs] W (BoP z W))) (h0 : es[0]? = some (.int .i64 17)) : Calls Tryz.prog 81 #[.agg cs, .agg es] w (BoP (z && c) w) := by
  have hi33 := info33s cs hs
  have r0 := heap_alloc2_old w (.cells cs 41) (.cells es 54)
  have HQ : Hid (∀ b w', b = (z && c) → Below w.heap.size w w' → BoP (z && c) w (.returned (.bool b)) w') := fun b w' e h => ⟨by rw [e], h⟩
  generalize BoP (z && c) w = Q at HQ ⊢
  clear hs
  go_enter Tryz.func81, Tryz.ntmps81
  go_wp2_with (refine wpList_load_rowG rfl 41 _ rfl w.heap.size rfl 41 cs (0, 0) _ r0 Tryz.underlying41 rfl hi33 ?_)
  refine (K.out _ (bel2 (bel1 _ _) (bel1 _ _))).mono ?_
  rintro e w1 ⟨rfl, hb⟩
  have HB : Hid (Below w.heap.size w w1) := bel2 (bel2 (bel1 _ _) (bel1 _ _)) hb
  have g : ∀ j, w1.cell? ⟨w.heap.size, j, none⟩ = cs[j]? := fun j => cell_of_row w1 _ j cs 41 (0, 0) (row_below hb r0)
  clear hb r0
  cases z
  · go_wp2_with fail
    exact HQ.out _ _ rfl HB.out
  · go_wp2_with fail
    exact HQ.out _ _ (by simp) HB.out
set_option maxHeartbeats 2000000 in
set_option maxRecDepth 100000 in
theorem fits_10 (cs es : Array Value) (hs : cs.size = 31) (q : ByteArray) (tt : Int) (e1 : es[1]? = some (.int .i64 tt)) (e4 : es[4]? = some (.string q)) (w : World) (a : Option Addr) (m c : Nat) (c23 : cs[23]? = some (.slice a m c)) (z : Int) (td : Int)
    (hz : z = -1 ∨ ∃ (j B o : Nat), z = (j : Int) ∧ j < m ∧ a = some ⟨B, o, none⟩ ∧ w.cell? ⟨B, o + j * 2 + 1, none⟩ = some (.int .i64 td))
    (K : Hid (∀ W, Below w.heap.size w W → Calls Tryz.prog 95 #[.agg cs, .string q] W (IxP z W))) (h0 : es[0]? = some (.int .i64 10)) : Calls Tryz.prog 81 #[.agg cs, .agg es] w (BoP (decide (0 ≤ z) && decide (td ≤ tt)) w) := by
  have hi33 := info33s cs hs
  have r0 := heap_alloc2_old w (.cells cs 41) (.cells es 54)
  have r1 := heap_alloc2_new w (.cells cs 41) (.cells es 54)
  have HQ : Hid (∀ b w', b = (decide (0 ≤ z) && decide (td ≤ tt)) → Below w.heap.size w w' → BoP (decide (0 ≤ z) && decide (td ≤ tt)) w (.returned (.bool b)) w') := fun b w' e h => ⟨by rw [e], h⟩
  generalize BoP (decide (0 ≤ z) && decide (td ≤ tt)) w = Q at HQ ⊢
  clear hs
  go_enter Tryz.func81, Tryz.ntmps81
  go_wp2_with (refine wpList_load_rowG rfl 41 _ rfl w.heap.size rfl 41 cs (0, 0) _ r0 Tryz.underlying41 rfl hi33 ?_)
  refine (K.out _ (bel2 (bel1 _ _) (bel1 _ _))).mono ?_
  rintro e w1 ⟨rfl, hb⟩
  have HB : Hid (Below w.heap.size w w1) := bel2 (bel2 (bel1 _ _) (bel1 _ _)) hb
  have g23 : w1.cell? ⟨w.heap.size, 23, none⟩ = some (.slice a m c) := row_cell (row_below hb r0) c23
  have x1 : w1.cell? ⟨w.heap.size + 1, 1, none⟩ = some (.int .i64 tt) := row_cell (row_below hb r1) e1
  clear hb r0 r1 K
  rcases hz with rfl | ⟨j, B, o, rfl, hj, rfl, hc⟩
  · have d1 : decide ((0 : Int) ≤ -1) = false := by decide
    go_wp2_with fail
    go_quiet (fail)
    all_goals
      go_wp2_with fail
      exact HQ.out _ _ (by simp) (by first | exact HB.out | exact HB.out.drew | exact belDN HB.out _)
  · have hc1 := cell_below hc HB.out
    have d1 : decide ((0 : Int) ≤ (j : Int)) = true := decide_eq_true (by omega)
    have hjl : (j : Int) < (m : Int) := by omega
    clear hc
    go_wp2_with fail
    go_quiet (fail)
    all_goals
      go_wp2_with fail
      exact HQ.out _ _ (by simp) (by first | exact HB.out | exact HB.out.drew | exact belDN HB.out _)
theorem sfits_calls (n : Nat) (cs es : Array Value) (s : Sta) (x : Ev) (w : World) (h : Rs w n cs s) (R : Value → Tv → Prop) (he : IsEv R es x) (hk : 1 ≤ x.k ∧ x.k ≤ 19) (lt : s.tm.length ≤ 1000) (lu : s.up.length ≤ 1000) : Calls Tryz.prog 81 #[.agg cs, .agg es] w (BoP (fitsB s x) w) := by
  have e0 := he.c0
  have KT : Hid (∀ W, Below w.heap.size w W → Calls Tryz.prog 95 #[.agg cs, .string x.s] W (IxP (tmAt s x.s) W)) := fun W hB => timerAt_calls n cs s x.s W (h.below hB) lt
  have KU : Hid (∀ W, Below w.heap.size w W → Calls Tryz.prog 96 #[.agg cs, .string x.s] W (IxP (upAt s x.s) W)) := fun W hB => updateAt_calls n cs s x.s W (h.below hB) lu
  have KW : Hid (∀ W, Below w.heap.size w W → Calls Tryz.prog 97 #[.agg cs, .string x.s] W (IxP (waAt s x.s) W)) := fun W hB => waitingAt_calls n cs s x.s W (h.below hB) lu
  have KS : Hid (∀ W, Below w.heap.size w W → Calls Tryz.prog 98 #[.agg cs] W (BoP (setl s) W)) := fun W _ => settled_calls cs s.ts s.fresh W h.c16 h.c21
  have hc : x.k = 1 ∨ x.k = 2 ∨ x.k = 3 ∨ x.k = 4 ∨ x.k = 5 ∨ x.k = 6 ∨ x.k = 7 ∨ x.k = 8 ∨ x.k = 9 ∨ x.k = 10 ∨ x.k = 11 ∨ x.k = 12 ∨ x.k = 13 ∨ x.k = 14 ∨ x.k = 15 ∨ x.k = 16 ∨ x.k = 17 ∨ x.k = 18 ∨ x.k = 19 := by omega
  rcases hc with k | k | k | k | k | k | k | k | k | k | k | k | k | k | k | k | k | k | k <;> rw [k] at e0
  · have e : fitsB s x = (true) := by simp only [fitsB, k]; rfl
    rw [e]
    exact fits_1 cs es w e0
  · have e : fitsB s x = (s.ts == 0) := by simp only [fitsB, k]; rfl
    rw [e]
    exact fits_2 cs es s.ts h.c16 w e0
  · have e : fitsB s x = (s.ts == 1) := by simp only [fitsB, k]; rfl
    rw [e]
    exact fits_3 cs es s.ts h.c16 w e0
  · have e : fitsB s x = (s.ts == 2) := by simp only [fitsB, k]; rfl
    rw [e]
    exact fits_4 cs es s.ts h.c16 w e0
  · have e : fitsB s x = (s.ts == 2) := by simp only [fitsB, k]; rfl
    rw [e]
    exact fits_5 cs es s.ts h.c16 w e0
  · have e : fitsB s x = (s.ts == 2 && decide (s.td ≤ x.t)) := by simp only [fitsB, k]; rfl
    rw [e]
    exact fits_6 cs es s.ts s.td x.t h.c16 h.c18 he.c1 w e0
  · have e : fitsB s x = (true) := by simp only [fitsB, k]; rfl
    rw [e]
    exact fits_7 cs es w e0
  · have e : fitsB s x = (!s.cancel) := by simp only [fitsB, k]; rfl
    rw [e]
    exact fits_8 cs es s.cancel h.c22 w e0
  · have e : fitsB s x = (decide (tmAt s x.s < 0)) := by simp only [fitsB, k]; rfl
    rw [e]
    exact fits_9 cs es h.size x.s (tmAt s x.s) he.c4 w KT e0
  · obtain ⟨a, c, h1, h2⟩ := h.rowT
    rcases ixI_cases (fun d : Tm => eqS d.s x.s) s.tm with ⟨j, d, g1, g2, _, _⟩ | ⟨g1, _⟩
    · have hj := (List.getElem?_eq_some_iff.1 g2).1
      obtain ⟨_, _, B, o, ha, _, hl⟩ := h2 j d.cells (by rw [List.getElem?_map, g2]; rfl)
      have := fits_10 cs es h.size x.s x.t he.c1 he.c4 w a _ c h1 (tmAt s x.s) d.d (.inr ⟨j, B, o, g1, hj, ha, hl 1 _ rfl⟩) KT e0
      have e : fitsB s x = (decide (0 ≤ tmAt s x.s) && decide (d.d ≤ x.t)) := by
        have g1' : tmAt s x.s = (j : Int) := g1
        simp [fitsB, k, dueB, g1', g2]
      rw [e]
      exact this
    · have := fits_10 cs es h.size x.s x.t he.c1 he.c4 w a _ c h1 (tmAt s x.s) 0 (.inl g1) KT e0
      have e : fitsB s x = (decide (0 ≤ tmAt s x.s) && decide ((0 : Int) ≤ x.t)) := by
        have g1' : tmAt s x.s = -1 := g1
        simp only [fitsB, k, dueB, g1']
        cases s.tm[(-1 : Int).toNat]? <;> simp
      rw [e]
      exact this
  · have e : fitsB s x = (decide (0 ≤ tmAt s x.s)) := by simp only [fitsB, k]; rfl
    rw [e]
    exact fits_11 cs es h.size x.s (tmAt s x.s) he.c4 w KT e0
  · have e : fitsB s x = (decide (upAt s x.s < 0)) := by simp only [fitsB, k]; rfl
    rw [e]
    exact fits_12 cs es h.size x.s (upAt s x.s) he.c4 w KU e0
  · have e : fitsB s x = (decide (0 ≤ waAt s x.s)) := by simp only [fitsB, k]; rfl
    rw [e]
    exact fits_13 cs es h.size x.s (waAt s x.s) he.c4 w KW e0
  · have e : fitsB s x = (true) := by simp only [fitsB, k]; rfl
    rw [e]
    exact fits_14 cs es w e0
  · have e : fitsB s x = (setl s) := by simp only [fitsB, k]; rfl
    rw [e]
    exact fits_15 cs es h.size (setl s) w KS e0
  · have e : fitsB s x = (setl s) := by simp only [fitsB, k]; rfl
    rw [e]
    exact fits_16 cs es h.size (setl s) w KS e0
  · have e : fitsB s x = (setl s && s.cancel) := by simp only [fitsB, k]; rfl
    rw [e]
    exact fits_17 cs es h.size (setl s) s.cancel h.c22 w KS e0
  · have e : fitsB s x = (true) := by simp only [fitsB, k]; rfl
    rw [e]
    exact fits_18 cs es w e0
  · have e : fitsB s x = (decide (0 < s.dl) && decide (s.dl ≤ x.t)) := by simp only [fitsB, k]; rfl
    rw [e]
    exact fits_19 cs es s.dl x.t h.c4 he.c1 w e0
/-- What refusal answers. -/
def RfP (m : Prop) (s : Sta) (x : Ev) (w : World) (e : Ending) (w' : World) : Prop := (∃ r : Int, e = .returned (.int .i64 r) ∧ (m → r = refC s x) ∧ (¬ m → r = 1)) ∧ Below w.heap.size w w'
set_option maxHeartbeats 4000000 in
set_option maxRecDepth 100000 in
theorem refusal_calls (n : Nat) (cs es : Array Value) (s : Sta) (x : Ev) (w : World) (h : Rs w (n + 1) cs s) (he : IsEv (Is w (n + 1)) es x) (hc : x.c < 18446744073709551616) (lt : s.tm.length ≤ 1000) (lu : s.up.length ≤ 1000) : Calls Tryz.prog 69 #[.agg cs, .agg es] w (RfP (MayE (n + 1) x) s x w) := by
  have KC : Hid (∀ W, Below w.heap.size w W → Calls Tryz.prog 79 #[.agg es] W (CkP (MayE (n + 1) x) W)) := fun W hB => evcheckA n es x W (he.map fun v t h => h.below hB) hc
  have KI : Hid (∀ W, Below w.heap.size w W → Calls Tryz.prog 80 #[.agg cs, .agg es] W (BoP (inT s x) W)) := fun W hB => inTurn_calls _ (n + 1) cs es s x W (h.below hB) he
  have KF : Hid (MayE (n + 1) x → ∀ W, Below w.heap.size w W → Calls Tryz.prog 81 #[.agg cs, .agg es] W (BoP (fitsB s x) W)) := fun hm W hB => sfits_calls (n + 1) cs es s x W (h.below hB) _ he (by have := hm.1; simp [wi] at this; exact this) lt lu
  have KR : Hid (∀ W, Below w.heap.size w W → Calls Tryz.prog 82 #[.agg cs, .agg es] W (BoP (roomB s x) W)) := fun W hB => hasRoom_calls _ (n + 1) cs es s x W (h.below hB) he
  have HQ : Hid (∀ (r : Int) w', (MayE (n + 1) x → r = refC s x) → (¬ MayE (n + 1) x → r = 1) → Below w.heap.size w w' → RfP (MayE (n + 1) x) s x w (.returned (.int .i64 r)) w') := fun r w' a b c => ⟨⟨r, rfl, a, b⟩, c⟩
  have hi33 := info33s cs h.size
  have hi46 := info46s es he.size
  have c2 := h.c2
  have c3 := h.c3
  have e1 := he.c1
  have HU : Hid (refC s x = if 120 ≤ s.count then 7 else if inT s x = false then 20 else if x.t < s.time then 20 else if fitsB s x = false then 20 else if roomB s x = false then 7 else 0) := rfl
  generalize RfP (MayE (n + 1) x) s x w = Q at HQ ⊢
  generalize MayE (n + 1) x = M at KC KF HQ
  generalize inT s x = bi at KI HU
  generalize fitsB s x = bf at KF HU
  generalize roomB s x = br at KR HU
  generalize refC s x = rc at HQ HU
  generalize s.count = sc at c2 HU
  generalize s.time = st at c3 HU
  generalize x.t = xt at e1 HU
  clear h he hc lt lu
  go_enter Tryz.func69, Tryz.ntmps69
  go_wp2_with (first
    | refine wpList_load_rowG rfl 41 _ rfl w.heap.size rfl 41 cs (0, 0) _ (heap_alloc2_old _ _ _) Tryz.underlying41 rfl hi33 ?_
    | refine wpList_load_rowG rfl 54 _ rfl (w.heap.size + 1) rfl 54 es (0, 0) _ (heap_alloc2_new _ _ _) Tryz.underlying54 rfl hi46 ?_)
  refine (KC.out _ (bel2 (bel1 _ _) (bel1 _ _))).mono ?_
  rintro e' w1 ⟨r, rfl, hr0, hr1, hb⟩
  have HG1 : Hid (w1.heap[w.heap.size]? = some (.cells cs 41 (0, 0))) := row_below hb (heap_alloc2_old _ _ _)
  have HE1 : Hid (w1.heap[w.heap.size + 1]? = some (.cells es 54 (0, 0))) := row_below hb (heap_alloc2_new _ _ _)
  have HB1 : Hid (Below w.heap.size w w1) := bel2 (bel2 (bel1 _ _) (bel1 _ _)) hb
  have g1 : ∀ j, w1.cell? ⟨w.heap.size, j, none⟩ = cs[j]? := fun j => cell_of_row w1 _ j cs 41 (0, 0) HG1.out
  have x1 : ∀ j, w1.cell? ⟨w.heap.size + 1, j, none⟩ = es[j]? := fun j => cell_of_row w1 _ j es 54 (0, 0) HE1.out
  have hg1 := HG1.out
  have he1 := HE1.out
  clear hb
  by_cases hM : M
  · obtain rfl := hr0 hM
    have HM : Hid M := hM
    clear hr0 hr1 hM
    by_cases hcnt : 120 ≤ sc
    · have HV : Hid (rc = 7) := by have := HU.out; rw [if_pos hcnt] at this; exact this
      have hd : decide (sc ≥ 120) = true := decide_eq_true hcnt
      go_wp2_with (first
        | refine wpList_load_rowG rfl 41 _ rfl w.heap.size rfl 41 cs (0, 0) _ hg1 Tryz.underlying41 rfl hi33 ?_
        | refine wpList_load_rowG rfl 54 _ rfl (w.heap.size + 1) rfl 54 es (0, 0) _ he1 Tryz.underlying54 rfl hi46 ?_)
      exact HQ.out _ _ (fun _ => HV.out.symm) (fun h => absurd HM.out h) HB1.out
    · have hd : decide (sc ≥ 120) = false := decide_eq_false hcnt
      have HU2 : Hid (rc = if bi = false then 20 else if xt < st then 20 else if bf = false then 20 else if br = false then 7 else 0) := by have := HU.out; rw [if_neg hcnt] at this; exact this
      go_wp2_with (first
        | refine wpList_load_rowG rfl 41 _ rfl w.heap.size rfl 41 cs (0, 0) _ hg1 Tryz.underlying41 rfl hi33 ?_
        | refine wpList_load_rowG rfl 54 _ rfl (w.heap.size + 1) rfl 54 es (0, 0) _ he1 Tryz.underlying54 rfl hi46 ?_)
      refine (KI.out _ HB1.out).mono ?_
      rintro e' w2 ⟨rfl, hb⟩
      have HG2 : Hid (w2.heap[w.heap.size]? = some (.cells cs 41 (0, 0))) := row_below hb HG1.out
      have HE2 : Hid (w2.heap[w.heap.size + 1]? = some (.cells es 54 (0, 0))) := row_below hb HE1.out
      have HB2 : Hid (Below w.heap.size w w2) := bel2 HB1.out hb
      have g2 : ∀ j, w2.cell? ⟨w.heap.size, j, none⟩ = cs[j]? := fun j => cell_of_row w2 _ j cs 41 (0, 0) HG2.out
      have x2 : ∀ j, w2.cell? ⟨w.heap.size + 1, j, none⟩ = es[j]? := fun j => cell_of_row w2 _ j es 54 (0, 0) HE2.out
      have hg2 := HG2.out
      have he2 := HE2.out
      clear hb g1 x1 hg1 he1
      cases bi with
      | false =>
        have HV : Hid (rc = 20) := (by have := HU2.out; simpa using this : rc = 20)
        go_wp2_with (first
          | refine wpList_load_rowG rfl 41 _ rfl w.heap.size rfl 41 cs (0, 0) _ hg2 Tryz.underlying41 rfl hi33 ?_
          | refine wpList_load_rowG rfl 54 _ rfl (w.heap.size + 1) rfl 54 es (0, 0) _ he2 Tryz.underlying54 rfl hi46 ?_)
        exact HQ.out _ _ (fun _ => HV.out.symm) (fun h => absurd HM.out h) HB2.out
      | true =>
        by_cases htm : xt < st
        · have HV : Hid (rc = 20) := (by have := HU2.out; simpa [htm] using this : rc = 20)
          have hd2 : decide (xt < st) = true := decide_eq_true htm
          go_wp2_with (first
            | refine wpList_load_rowG rfl 41 _ rfl w.heap.size rfl 41 cs (0, 0) _ hg2 Tryz.underlying41 rfl hi33 ?_
            | refine wpList_load_rowG rfl 54 _ rfl (w.heap.size + 1) rfl 54 es (0, 0) _ he2 Tryz.underlying54 rfl hi46 ?_)
          exact HQ.out _ _ (fun _ => HV.out.symm) (fun h => absurd HM.out h) HB2.out
        · have hd2 : decide (xt < st) = false := decide_eq_false htm
          have HU3 : Hid (rc = if bf = false then 20 else if br = false then 7 else 0) := (by have := HU2.out; simpa [htm] using this : rc = if bf = false then 20 else if br = false then 7 else 0)
          go_wp2_with (first
            | refine wpList_load_rowG rfl 41 _ rfl w.heap.size rfl 41 cs (0, 0) _ hg2 Tryz.underlying41 rfl hi33 ?_
            | refine wpList_load_rowG rfl 54 _ rfl (w.heap.size + 1) rfl 54 es (0, 0) _ he2 Tryz.underlying54 rfl hi46 ?_)
          refine (KF.out HM.out _ HB2.out).mono ?_
          rintro e' w3 ⟨rfl, hb⟩
          have HG3 : Hid (w3.heap[w.heap.size]? = some (.cells cs 41 (0, 0))) := row_below hb HG2.out
          have HE3 : Hid (w3.heap[w.heap.size + 1]? = some (.cells es 54 (0, 0))) := row_below hb HE2.out
          have HB3 : Hid (Below w.heap.size w w3) := bel2 HB2.out hb
          have g3 : ∀ j, w3.cell? ⟨w.heap.size, j, none⟩ = cs[j]? := fun j => cell_of_row w3 _ j cs 41 (0, 0) HG3.out
          have x3 : ∀ j, w3.cell? ⟨w.heap.size + 1, j, none⟩ = es[j]? := fun j => cell_of_row w3 _ j es 54 (0, 0) HE3.out
          have hg3 := HG3.out
          have he3 := HE3.out
          clear hb g2 x2 hg2 he2
          cases bf with
          | false =>
            have HV : Hid (rc = 20) := (by have := HU3.out; simpa using this : rc = 20)
            go_wp2_with (first
              | refine wpList_load_rowG rfl 41 _ rfl w.heap.size rfl 41 cs (0, 0) _ hg3 Tryz.underlying41 rfl hi33 ?_
              | refine wpList_load_rowG rfl 54 _ rfl (w.heap.size + 1) rfl 54 es (0, 0) _ he3 Tryz.underlying54 rfl hi46 ?_)
            exact HQ.out _ _ (fun _ => HV.out.symm) (fun h => absurd HM.out h) HB3.out
          | true =>
            have HU4 : Hid (rc = if br = false then 7 else 0) := (by have := HU3.out; simpa using this : rc = if br = false then 7 else 0)
            go_wp2_with (first
              | refine wpList_load_rowG rfl 41 _ rfl w.heap.size rfl 41 cs (0, 0) _ hg3 Tryz.underlying41 rfl hi33 ?_
              | refine wpList_load_rowG rfl 54 _ rfl (w.heap.size + 1) rfl 54 es (0, 0) _ he3 Tryz.underlying54 rfl hi46 ?_)
            refine (KR.out _ HB3.out).mono ?_
            rintro e' w4 ⟨rfl, hb⟩
            have HB4 : Hid (Below w.heap.size w w4) := bel2 HB3.out hb
            clear hb
            cases br with
            | false =>
              have HV : Hid (rc = 7) := (by have := HU4.out; simpa using this : rc = 7)
              go_wp2_with fail
              exact HQ.out _ _ (fun _ => HV.out.symm) (fun h => absurd HM.out h) HB4.out
            | true =>
              have HV : Hid (rc = 0) := (by have := HU4.out; simpa using this : rc = 0)
              go_wp2_with fail
              exact HQ.out _ _ (fun _ => HV.out.symm) (fun h => absurd HM.out h) HB4.out
  · obtain rfl := hr1 hM
    have HM : Hid (¬ M) := hM
    clear hr0 hr1 hM
    go_wp2_with (first
      | refine wpList_load_rowG rfl 41 _ rfl w.heap.size rfl 41 cs (0, 0) _ hg1 Tryz.underlying41 rfl hi33 ?_
      | refine wpList_load_rowG rfl 54 _ rfl (w.heap.size + 1) rfl 54 es (0, 0) _ he1 Tryz.underlying54 rfl hi46 ?_)
    exact HQ.out _ _ (fun h => absurd h HM.out) (fun _ => rfl) HB1.out
end Go.Proofs.YtcdhlklmnnmpoaaGreat
