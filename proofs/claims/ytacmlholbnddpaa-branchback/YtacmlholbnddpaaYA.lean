/- A history in memory; the iterator that goes through it with the numbers; Find -/
import Derived.Test.YtacmlholbnddpaaGA
import Derived.Deep.Slices
import Derived.Deep.WholeRow
import Derived.Deep.DeepCutAuto
import Derived.Deep.RegionHeld3
import Derived.Deep.QuietTactic
import Derived.BigQuiet
import Derived.RangeFuncNested
import Derived.RangeFuncBound
import Derived.RangeFuncCalls
import Derived.RangeFuncLeaves
import Derived.Shelf.Abstract
import Derived.Shelf.RegionOpen
import Derived.OwnWalkIn
import Derived.TacticsInMore
import Derived.LoopNIn
import Derived.LoopIn
import Derived.Maps.AppendAt
namespace Go.Proofs.Ytacmlholbnddpaa
open Go.ChangeAt Go.ChangeShapes Go.Deep Go.RowKit Go.WideShapes Go.Shelf
attribute [local go_sem] Oper.semAt_some
/-- An event's cells, as they are. -/
structure Rw where
  k : Int
  t : Int
  n : Int
  d : Int
  s : ByteArray
  vk : Int
  vx : Int
  vb : Int
  vs : ByteArray
  la : Option Addr
  ll : Nat
  lc : Nat
  f : Int
  c : Nat
  m : Int
def Rw.val (r : Rw) : Value := .agg #[.int .i64 r.k, .int .i64 r.t, .int .i64 r.n, .int .i64 r.d, .string r.s, .int .i64 r.vk, .int .i64 r.vx, .int .u64 r.vb, .string r.vs, .slice r.la r.ll r.lc, .int .i64 r.f, .int .u64 (r.c : Int), .int .i64 r.m]
def Rw.vv (r : Rw) : Value := .agg #[.int .i64 r.vk, .int .i64 r.vx, .int .u64 r.vb, .string r.vs, .slice r.la r.ll r.lc]
def Rw.cells (r : Rw) : List Value := [.int .i64 r.k, .int .i64 r.t, .int .i64 r.n, .int .i64 r.d, .string r.s, .int .i64 r.vk, .int .i64 r.vx, .int .u64 r.vb, .string r.vs, .slice r.la r.ll r.lc, .int .i64 r.f, .int .u64 (r.c : Int), .int .i64 r.m]
def Rw.ev (r : Rw) (tv : Tv) : Ev := ⟨r.k, r.t, r.n, r.d, r.s, tv, r.f, r.c, r.m⟩
def zr : Rw := ⟨0, 0, 0, 0, ⟨#[]⟩, 0, 0, 0, ⟨#[]⟩, none, 0, 0, 0, 0, 0⟩
/-- The thirteen cells at p of block B are those of r. -/
def AtR (w : World) (B p : Nat) (r : Rw) : Prop := w.cell? ⟨B, p, none⟩ = some (.int .i64 r.k) ∧ w.cell? ⟨B, p + 1, none⟩ = some (.int .i64 r.t) ∧ w.cell? ⟨B, p + 2, none⟩ = some (.int .i64 r.n) ∧ w.cell? ⟨B, p + 3, none⟩ = some (.int .i64 r.d) ∧ w.cell? ⟨B, p + 4, none⟩ = some (.string r.s) ∧ w.cell? ⟨B, p + 5, none⟩ = some (.int .i64 r.vk) ∧ w.cell? ⟨B, p + 6, none⟩ = some (.int .i64 r.vx) ∧ w.cell? ⟨B, p + 7, none⟩ = some (.int .u64 r.vb) ∧ w.cell? ⟨B, p + 8, none⟩ = some (.string r.vs) ∧ w.cell? ⟨B, p + 9, none⟩ = some (.slice r.la r.ll r.lc) ∧ w.cell? ⟨B, p + 10, none⟩ = some (.int .i64 r.f) ∧ w.cell? ⟨B, p + 11, none⟩ = some (.int .u64 (r.c : Int)) ∧ w.cell? ⟨B, p + 12, none⟩ = some (.int .i64 r.m)
theorem AtR.below {w w' : World} {B p : Nat} {r : Rw} (h : AtR w B p r) (hb : Below w.heap.size w w') : AtR w' B p r := by
  obtain ⟨e0, e1, e2, e3, e4, e5, e6, e7, e8, e9, e10, e11, e12⟩ := h
  exact ⟨cellB e0 hb, cellB e1 hb, cellB e2 hb, cellB e3 hb, cellB e4 hb, cellB e5 hb, cellB e6 hb, cellB e7 hb, cellB e8 hb, cellB e9 hb, cellB e10 hb, cellB e11 hb, cellB e12 hb⟩
/-- The events of a slice, as their cells are. -/
def RowE (w : World) (a : Option Addr) (hs : List Rw) : Prop := ∀ (i : Nat) r, hs[i]? = some r → ∃ B o, a = some ⟨B, o, none⟩ ∧ AtR w B (o + i * 13) r
theorem RowE.below {w w' : World} {a : Option Addr} {hs : List Rw} (h : RowE w a hs) (hb : Below w.heap.size w w') : RowE w' a hs := fun i r hr => by
  obtain ⟨B, o, e, ha⟩ := h i r hr
  exact ⟨B, o, e, ha.below hb⟩
/-- The cells r are the event x. -/
def IsE (w : World) (N : Nat) (r : Rw) (x : Ev) : Prop := ∃ tv, x = r.ev tv ∧ Is w (N + 1) r.vv tv
theorem IsE.below {w w' : World} {N : Nat} {r : Rw} {x : Ev} (h : IsE w N r x) (hb : Below w.heap.size w w') : IsE w' N r x := by
  obtain ⟨tv, e, hi⟩ := h
  exact ⟨tv, e, hi.below hb⟩
def rx (hs : List Rw) (i : Nat) : Rw := hs.getD i zr
/-- The numbers of what was gone through, and the cells that came with each. -/
def encR (hs : List Rw) (i : Nat) : Array Value := #[.int .i64 ((i : Int) + 1), (rx hs i).val]
theorem range_pre {m n : Nat} (h : m ≤ n) : List.range m <+: List.range n := by
  obtain ⟨k, rfl⟩ := Nat.exists_eq_add_of_le h
  rw [List.range_add]
  exact List.prefix_append _ _
set_option maxRecDepth 100000 in
set_option maxHeartbeats 2000000 in
theorem num1_in (n : Nat) (hn : 1 ≤ n) (l Bn : Nat) (w0 : World) (a : Option Addr) (c : Nat) (hs : List Rw) (N : Nat) (hN : hs.length = N) (hl : N ≤ 200) (J Jx : List Nat → World → Prop) (W : World)
    (hJ : AbidesFrom W.heap.size J)
    (hY : ∀ pre x W1, J pre W1 → pre.length < N → YieldAt Fence.wide (n - 1) Try.prog l (encR hs x) W1 fun e W' =>
      (e = .returned (.bool true) ∧ J (pre ++ [x]) W' ∧ Below w0.heap.size W1 W') ∨ (e = .returned (.bool false) ∧ Jx (pre ++ [x]) W'))
    (hBn : W.cell? ⟨Bn, 0, none⟩ = some (.slice a N c)) (hR : RowE w0 a hs) (hW : Below w0.heap.size w0 W) (h0 : J [] W) :
    CallsIn Fence.wide n Try.prog 38 #[.func (.yield l) #[] #[], .pointer (some ⟨Bn, 0, none⟩)] W fun e W' => (∃ v, e = .returned v) ∧
      ((∃ ys, ys = List.range N ∧ J ys W') ∨ (∃ pre, pre <+: List.range N ∧ Jx pre W')) := by
  have HR : Hid (RowE w0 a hs) := hR
  have HY : Hid (∀ pre x W1, J pre W1 → pre.length < N → _) := hY
  have HJ : Hid (AbidesFrom W.heap.size J) := hJ
  have HN : Hid (hs.length = N) := hN
  clear hR hY hJ hN
  refine callsIn_of_wp Try.func38 rfl trivial ?_ rfl
  simp only [Try.ntmps38, List.size_toArray, List.length_cons, List.length_nil, Nat.reduceAdd, Nat.reduceSub, Array.replicate_succ, Array.replicate_zero, List.push_toArray, List.append_toArray, List.nil_append, List.cons_append]
  gi_wp2
  gi_loopw [3, 4, 7] (fun _ _ i wr => ∃ j : Nat, j ≤ N ∧ i = .int .i64 (j : Int) ∧ Hid (J (List.range j) wr) ∧ Hid (Below w0.heap.size w0 wr)) (fun _ _ i _ => N - (intOf i).toNat)
  case atStart => exact ⟨0, Nat.zero_le _, rfl, h0, hW⟩
  case round =>
    obtain ⟨j, hj, rfl, HJ0, HB⟩ := hrel
    by_cases hlt : j < N
    · obtain ⟨r, hr⟩ : ∃ r, hs[j]? = some r := ⟨_, List.getElem?_eq_getElem (by rw [HN.out]; exact hlt)⟩
      obtain ⟨B, o, rfl, hat⟩ := HR.out j r hr
      obtain ⟨e0, e1, e2, e3, e4, e5, e6, e7, e8, e9, e10, e11, e12⟩ := hat.below HB.out
      have hbz : Below w0.heap.size w0 (wr.alloc (.cells #[.int .i64 r.k, .int .i64 r.t, .int .i64 r.n, .int .i64 r.d, .string r.s, .int .i64 r.vk, .int .i64 r.vx, .int .u64 r.vb, .string r.vs, .slice r.la r.ll r.lc, .int .i64 r.f, .int .u64 (r.c : Int), .int .i64 r.m] 39)) := HB.out.trans ((Below.refl _ wr).alloc HB.out.size _)
      have hj1 := HJ.out (List.range j) wr (wr.alloc (.cells #[.int .i64 r.k, .int .i64 r.t, .int .i64 r.n, .int .i64 r.d, .string r.s, .int .i64 r.vk, .int .i64 r.vx, .int .u64 r.vb, .string r.vs, .slice r.la r.ll r.lc, .int .i64 r.f, .int .u64 (r.c : Int), .int .i64 r.m] 39)) none HJ0.out (World.grownBy_alloc _ _ _) (fun r e => by cases e)
      obtain ⟨fn, tmps, assign, body, hy, hRo⟩ := HY.out (List.range j) j _ hj1 (by rw [List.length_range]; exact hlt)
      have hg : rx hs j = r := by unfold rx; rw [List.getD_eq_getElem?_getD, hr]; rfl
      simp only [encR, hg, Rw.val] at hy
      have hwr : wrap64 ((j : Int) + 1) = (j : Int) + 1 := by unfold wrap64; omega
      have HRo : Hid (RoundIn _ _ _ _ _ _ _ _ _ _) := hRo
      have HBZ : Hid (Below w0.heap.size w0 (wr.alloc (.cells #[.int .i64 r.k, .int .i64 r.t, .int .i64 r.n, .int .i64 r.d, .string r.s, .int .i64 r.vk, .int .i64 r.vx, .int .u64 r.vb, .string r.vs, .slice r.la r.ll r.lc, .int .i64 r.f, .int .u64 (r.c : Int), .int .i64 r.m] 39))) := hbz
      have HSn : Hid (List.range j ++ [j] = List.range (j + 1)) := List.range_succ.symm
      clear hRo hbz hj1 hg hat hr
      gi_wp2
      refine HRo.out.mono ?_
      rintro e W3 (⟨rfl, hJ3, hk3⟩ | ⟨rfl, hJx3⟩)
      · have HJ3 : Hid (J (List.range (j + 1)) W3) := by rw [HSn.out] at hJ3; exact hJ3
        have HB3 : Hid (Below w0.heap.size w0 W3) := HBZ.out.trans hk3
        clear hJ3 hk3 HBZ HRo hy
        gi_wp2
        go_roundw
        case rel => exact ⟨j + 1, by omega, by go_num, HJ3, HB3⟩
        case measure => simp [intOf]; omega
      · have HJx3 : Hid (Jx (List.range (j + 1)) W3) := by rw [HSn.out] at hJx3; exact hJx3
        clear hJx3 HBZ HRo hy
        gi_wp2
        refine bodyPost_ret (results_none rfl _ _ _) rfl ?_
        exact ⟨⟨_, rfl⟩, .inr ⟨_, range_pre hlt, HJx3.out⟩⟩
    · obtain rfl : j = N := by omega
      gi_wp2
      go_end0
      exact ⟨⟨_, rfl⟩, .inl ⟨_, rfl, HJ0.out⟩⟩
set_option maxHeartbeats 1000000 in
theorem numbered_in (n : Nat) (a : Option Addr) (N c : Nat) (w : World) :
    CallsIn Fence.wide n Try.prog 21 #[.slice a N c] w fun e w' => e = .returned (.func (.func 38) #[] #[.pointer (some ⟨w.heap.size, 0, none⟩)]) ∧ w' = w.alloc (.cells #[.slice a N c] 22) := by
  refine callsIn_of_wp Try.func21 rfl trivial ?_ rfl
  simp only [Try.ntmps21, List.size_toArray, List.length_cons, List.length_nil, Nat.reduceAdd, Nat.reduceSub, Array.replicate_succ, Array.replicate_zero, List.push_toArray, List.append_toArray, List.nil_append, List.cons_append]
  gi_wp2
  go_ret
  exact ⟨rfl, rfl⟩
/-- What numbered gives: all numbers, or the first ones, where a round has said that it is enough. -/
theorem num_stops (n : Nat) (hn : 1 ≤ n) (Bn : Nat) (w0 : World) (a : Option Addr) (c : Nat) (hs : List Rw) (N : Nat) (hN : hs.length = N) (hl : N ≤ 200) (w : World) (hBn : Bn < w.heap.size) (hB : Below w0.heap.size w0 w)
    (hc : w.cell? ⟨Bn, 0, none⟩ = some (.slice a N c)) (hR : RowE w0 a hs) :
    SeqStopsK Fence.wide n Try.prog 38 #[.pointer (some ⟨Bn, 0, none⟩)] (encR hs) (Below w0.heap.size) (fun ys => ys = List.range N) (fun pre => pre <+: List.range N) N w := fun l J Jx W hW hJ _ hY h0 =>
  num1_in n hn l Bn w0 a c hs N hN hl J Jx W hJ hY ((hW.cell (p := ⟨Bn, 0, none⟩) hBn).trans hc) hR (hB.trans (hW.mono hB.size)) h0
end Go.Proofs.Ytacmlholbnddpaa
namespace Go.Proofs.Ytacmlholbnddpaa
open Go.ChangeAt Go.ChangeShapes Go.Deep Go.RowKit Go.WideShapes Go.Shelf
attribute [local go_sem] Oper.semAt_some
theorem info3 : (Try.prog.info? 3).map (fun i => (i.zero, i.size, i.bytes)) = some (some (.int .i64 0), 1, 8) := by kernel_rfl
/-- Block B has the cells of r alone. -/
def Bx13 (W : World) (B : Nat) (r : Rw) : Prop := W.heap[B]? = some (.cells #[.int .i64 r.k, .int .i64 r.t, .int .i64 r.n, .int .i64 r.d, .string r.s, .int .i64 r.vk, .int .i64 r.vx, .int .u64 r.vb, .string r.vs, .slice r.la r.ll r.lc, .int .i64 r.f, .int .u64 (r.c : Int), .int .i64 r.m] 39 (0, 0))
theorem Bx13.new (W : World) (r : Rw) : Bx13 (W.alloc (.cells #[.int .i64 r.k, .int .i64 r.t, .int .i64 r.n, .int .i64 r.d, .string r.s, .int .i64 r.vk, .int .i64 r.vx, .int .u64 r.vb, .string r.vs, .slice r.la r.ll r.lc, .int .i64 r.f, .int .u64 (r.c : Int), .int .i64 r.m] 39)) W.heap.size r := World.alloc_heap_new W _
theorem Bx13.at {W : World} {B : Nat} {r : Rw} (h : Bx13 W B r) : AtR W B 0 r := by
  have e : W.heap[B]? = some (.cells #[.int .i64 r.k, .int .i64 r.t, .int .i64 r.n, .int .i64 r.d, .string r.s, .int .i64 r.vk, .int .i64 r.vx, .int .u64 r.vb, .string r.vs, .slice r.la r.ll r.lc, .int .i64 r.f, .int .u64 (r.c : Int), .int .i64 r.m] 39 (0, 0)) := h
  refine ⟨?_, ?_, ?_, ?_, ?_, ?_, ?_, ?_, ?_, ?_, ?_, ?_, ?_⟩ <;> simp [World.cell?, e]
theorem bx13_own (B : Nat) (r : Rw) : Go.Own (fun (_ : Unit) W => Bx13 W B r) := fun _ X Y row hs hg hr => by
  have e : X.heap[B]? = some (.cells #[.int .i64 r.k, .int .i64 r.t, .int .i64 r.n, .int .i64 r.d, .string r.s, .int .i64 r.vk, .int .i64 r.vx, .int .u64 r.vb, .string r.vs, .slice r.la r.ll r.lc, .int .i64 r.f, .int .u64 (r.c : Int), .int .i64 r.m] 39 (0, 0)) := hs
  exact (grownBy_keeps_cells hg hr e rfl).trans e
/-- The numbers of those of the kind. -/
def fnd (hs : List Rw) (kind : Int) (pre : List Nat) : List Int := (pre.filter fun i => decide ((rx hs i).k = kind)).map fun (i : Nat) => (i : Int) + 1
theorem fnd_hit (hs : List Rw) (kind : Int) (pre : List Nat) {x : Nat} (h : (rx hs x).k = kind) : fnd hs kind (pre ++ [x]) = fnd hs kind pre ++ [(x : Int) + 1] := by simp [fnd, h]
theorem fnd_miss (hs : List Rw) (kind : Int) (pre : List Nat) {x : Nat} (h : ¬ (rx hs x).k = kind) : fnd hs kind (pre ++ [x]) = fnd hs kind pre := by simp [fnd, h]
theorem fnd_len (hs : List Rw) (kind : Int) (pre : List Nat) : (fnd hs kind pre).length ≤ pre.length := by
  unfold fnd
  rw [List.length_map]
  exact List.length_filter_le _ _
set_option maxRecDepth 100000 in
set_option maxHeartbeats 4000000 in
theorem find_in (n : Nat) (hn : 4 ≤ n) (a : Option Addr) (c : Nat) (hs : List Rw) (N : Nat) (hN : hs.length = N) (hl : N ≤ 200) (kind : Int) (w : World) (hR : RowE w a hs) :
    CallsIn Fence.wide n Try.prog 12 #[.slice a N c, .int .i64 kind] w fun e W' => ∃ v, e = .returned v ∧ W'.ownsRow (w.heap.size + 1) 3 1 v (fnd hs kind (List.range N)).length ((fnd hs kind (List.range N)).map (Value.int .i64)) ∧ Below w.heap.size w W' := by
  have h1 : 1 ≤ n := by omega
  obtain ⟨i0, hi, hz0, hz1, hz2⟩ := info_parts info3
  refine callsIn_of_wp_marks Try.func12 rfl trivial ?_ rfl
  simp only [Try.ntmps12, List.size_toArray, List.length_cons, List.length_nil, Nat.reduceAdd, Nat.reduceSub, Array.replicate_succ, Array.replicate_zero, List.push_toArray, List.append_toArray, List.nil_append, List.cons_append]
  gi_wp2_with (refine ⟨trivial, ?_⟩; gi_at_call 21; refine (numbered_in (n - 1) _ _ _ _).mono ?_; rintro e w' ⟨rfl, rfl⟩)
  obtain ⟨w1, hw1⟩ : ∃ w1, w1 = w.alloc (.cells #[.int .i64 kind] 3) := ⟨_, rfl⟩
  have hs1 : w1.heap.size = w.heap.size + 1 := by rw [hw1]; simp
  have hb1 : Below w.heap.size w w1 := by rw [hw1]; exact bel1 _ _
  have bK : w1.cell? ⟨w.heap.size, 0, none⟩ = some (.int .i64 kind) := by rw [hw1]; exact (Boxed.new w 3 (.int .i64 kind)).cell
  rw [← hw1]
  clear hw1
  have bO := Boxed.new w1 42 (.slice none 0 0)
  have bN := Boxed.new (w1.alloc (.cells #[.slice none 0 0] 42)) 22 (.slice a N c)
  rw [World.size_alloc] at bN
  have hB0 : Below w1.heap.size w1 ((w1.alloc (.cells #[.slice none 0 0] 42)).alloc (.cells #[.slice a N c] 22)) := ((Below.refl _ w1).alloc (Nat.le_refl _) _).alloc (by simp) _
  have HR1 : Hid (RowE w1 a hs) := hR.below hb1
  have HB1 : Hid (Below w.heap.size w w1) := hb1
  rw [hs1] at bO bN
  clear hR hb1
  refine wpIn_rangeFunc_ownH rfl h1 (gf := 38) (lb := #[.pointer (some ⟨w.heap.size + 1 + 1, 0, none⟩)]) rfl trivial (enters_of Try.func38 (by kernel_rfl) rfl)
    (num_stops (n - 1) (by omega) (w.heap.size + 1 + 1) w1 a c hs N hN hl _ (by simp; omega) hB0 bN.cell HR1.out) belowK_t (belowK_b (by simp; omega)) (Below.refl _ _) (fun _ => rfl)
    (fun pre W => (∃ v, Boxed W (w.heap.size + 1) 42 v ∧ W.ownsRow (w.heap.size + 1) 3 1 v (fnd hs kind pre).length ((fnd hs kind pre).map (Value.int .i64)) ∧ True) ∧ Below w1.heap.size w1 W)
    (fun _ _ _ => False)
    (OwnFrom.and (Go.Own.from (holdsRow_own (w.heap.size + 1) (w.heap.size + 1) 42 3 1 (fun pre => (fnd hs kind pre).length) (fun pre => (fnd hs kind pre).map (Value.int .i64)) (fun _ _ => True)) _) (ownFrom_below (Nat.le_refl _) (by simp; omega)))
    (fun _ _ _ _ _ hs _ _ => hs)
    ⟨⟨_, bO.alloc _, (World.ownsRow_nil _ (w.heap.size + 1) 3 1 : World.ownsRow _ (w.heap.size + 1) 3 1 (.slice none 0 0) 0 []), trivial⟩, hB0⟩
    (fun x a' W => ∃ Bx, w.heap.size + 1 < Bx ∧ Bx13 W Bx (rx hs x) ∧ a' = { tmps := #[.slice a N c, .int .i64 kind, undef, .pointer (some ⟨w.heap.size, 0, none⟩), .slice none 0 0, .pointer (some ⟨w.heap.size + 1, 0, none⟩), .int .i64 ((x : Int) + 1), .pointer (some ⟨Bx, 0, none⟩), .slice a N c, .func (.func 38) #[] #[.pointer (some ⟨w.heap.size + 1 + 1, 0, none⟩)], .int .i64 ((x : Int) + 1), .agg #[.int .i64 (rx hs x).k, .int .i64 (rx hs x).t, .int .i64 (rx hs x).n, .int .i64 (rx hs x).d, .string (rx hs x).s, .int .i64 (rx hs x).vk, .int .i64 (rx hs x).vx, .int .u64 (rx hs x).vb, .string (rx hs x).vs, .slice (rx hs x).la (rx hs x).ll (rx hs x).lc, .int .i64 (rx hs x).f, .int .u64 ((rx hs x).c : Int), .int .i64 (rx hs x).m], undef, undef, undef, undef, undef, undef, undef, undef, undef], defers := [] })
    (fun x a' _ X Y row hs hg hr => by obtain ⟨Bx, h1, h2, h3⟩ := hs; exact ⟨Bx, h1, bx13_own Bx _ () X Y row h2 hg (fun r e => (hr r e).2), h3⟩)
    ?assign ?body ?done ?stop
  case assign =>
    rintro l pre x W K ⟨⟨v, hv, hrow, _⟩, hB⟩ hK
    simp only [encR, Rw.val]
    gi_wp2
    exact hK _ _ ((KeepsOthers.alloc _ _).from _) ((Below.refl _ W).alloc hB.size _) ⟨⟨v, hv.alloc _, hrow.alloc _, trivial⟩, hB.alloc hB.size _⟩ ⟨W.heap.size, hv.lt, Bx13.new W _, rfl⟩
  case body =>
    rintro l pre x a' W _ _ ⟨⟨v, hv, hrow, _⟩, hB⟩ ⟨Bx, hBx, bX, rfl⟩ hlt
    have hc := hv.cell
    have hpl := fnd_len hs kind pre
    obtain ⟨x0, -⟩ := bX.at
    have xK : W.cell? ⟨w.heap.size, 0, none⟩ = some (.int .i64 kind) := (hB.cell (p := ⟨w.heap.size, 0, none⟩) (by show w.heap.size < _; omega)).trans bK
    by_cases hk : (rx hs x).k = kind
    · have hk' : ((rx hs x).k == kind) = true := by simpa using hk
      have HK : Hid ((rx hs x).k = kind) := hk
      clear hk
      gi_wp2_with (gi_at_builtin; refine wpListIn_append_own _ rfl _ _ 42 rfl (w.heap.size + 1) 3 i0 (.int .i64 0) 1 8 Try.underlying42 hi hz0 hz1 hz2 rfl (by decide) _ _ _ rfl (hrow.alloc _) ⟨W.heap.size, 0, none⟩ 1 1 [.int .i64 ((x : Int) + 1)] rfl rfl (cell_one_new _ _ _) (by simp [Value.oneCell']) (by unfold maxLen; omega) (by omega) (by have := hB.size; simp; omega) ?_; intro v' w2 hown' hgrow _; obtain ⟨g', cap', rfl⟩ := ownsRow_succ hown'; obtain ⟨hv1, hv2, hr2, hk2, hb2⟩ := hv.appended (by decide) hrow (by have := hB.size; omega) (Nat.le_refl _) hown' hgrow; have hc1 := hv1.cell; have hf1 := hv1.frozen)
      exact ⟨hk2.from _, by rw [hs1]; exact hb2, ⟨_, hv2, by rw [fnd_hit hs kind pre HK.out]; simpa using hr2, trivial⟩, hB.trans (by rw [hs1]; exact hb2)⟩
    · have hk' : ((rx hs x).k == kind) = false := by simpa using hk
      gi_wp2
      exact ⟨KeepsFrom.refl _ _, Below.refl _ _, ⟨v, hv, by rw [fnd_miss hs kind pre hk]; exact hrow, trivial⟩, hB⟩
  case done =>
    rintro D ys W hD rfl ⟨⟨v, hv, hrow, _⟩, hB⟩ hK
    have hc := hv.cell
    gi_wp2
    refine ⟨by simp, .inl ⟨_, _, rfl, run_takeDeferred hK, ?_⟩⟩
    exact ⟨_, results_tmp rfl _ _ _, v, rfl, ownsRow_putObj hrow _ hK rfl, (HB1.out.trans (hB.mono (by omega))).trans (belowK_b (w := w) (Nat.le_refl _) W D _ _ (by simp at hD; omega) hK rfl rfl)⟩
  case stop =>
    rintro D c pre W _ _ h _
    exact h.elim
end Go.Proofs.Ytacmlholbnddpaa
