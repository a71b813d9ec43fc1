/- A history in memory; the iterator that goes through it with the numbers. -/
import Derived.Test.YtdlllehoeodekaaC
import Derived.RangeFuncNested
import Derived.RangeFuncBound
import Derived.RangeFuncCalls
import Derived.RangeFuncLeaves
import Derived.Shelf.Abstract
import Derived.Shelf.RegionOpen
import Derived.OwnWalkIn
import Derived.TacticsInMore
import Derived.LoopNIn
import Derived.LoopIn
import Derived.Maps.AppendAt
namespace Go.Proofs.Ytdlllehoeodekaa
open Go.ChangeAt Go.ChangeShapes Go.Deep Go.RowKit Go.WideShapes Go.Shelf
attribute [local go_sem] Oper.semAt_some
/-- An event's cells, as they are. -/
structure Rw where
  k : Int
  t : Int
  n : Int
  d : Int
  s : ByteArray
  vk : Int
  vx : Int
  vb : Int
  vs : ByteArray
  la : Option Addr
  ll : Nat
  lc : Nat
  f : Int
  c : Nat
  m : Int
/-- An event. -/
structure Ev where
  k : Int
  t : Int
  n : Int
  d : Int
  s : ByteArray
  v : Tv
  f : Int
  c : Nat
  m : Int
def Rw.val (r : Rw) : Value := .agg #[.int .i64 r.k, .int .i64 r.t, .int .i64 r.n, .int .i64 r.d, .string r.s, .int .i64 r.vk, .int .i64 r.vx, .int .u64 r.vb, .string r.vs, .slice r.la r.ll r.lc, .int .i64 r.f, .int .u64 (r.c : Int), .int .i64 r.m]
def Rw.vv (r : Rw) : Value := .agg #[.int .i64 r.vk, .int .i64 r.vx, .int .u64 r.vb, .string r.vs, .slice r.la r.ll r.lc]
def Rw.cells (r : Rw) : List Value := [.int .i64 r.k, .int .i64 r.t, .int .i64 r.n, .int .i64 r.d, .string r.s, .int .i64 r.vk, .int .i64 r.vx, .int .u64 r.vb, .string r.vs, .slice r.la r.ll r.lc, .int .i64 r.f, .int .u64 (r.c : Int), .int .i64 r.m]
def Rw.ev (r : Rw) (tv : Tv) : Ev := ⟨r.k, r.t, r.n, r.d, r.s, tv, r.f, r.c, r.m⟩
def zr : Rw := ⟨0, 0, 0, 0, ⟨#[]⟩, 0, 0, 0, ⟨#[]⟩, none, 0, 0, 0, 0, 0⟩
/-- The thirteen cells at p of block B are those of r. -/
def AtR (w : World) (B p : Nat) (r : Rw) : Prop := w.cell? ⟨B, p, none⟩ = some (.int .i64 r.k) ∧ w.cell? ⟨B, p + 1, none⟩ = some (.int .i64 r.t) ∧ w.cell? ⟨B, p + 2, none⟩ = some (.int .i64 r.n) ∧ w.cell? ⟨B, p + 3, none⟩ = some (.int .i64 r.d) ∧ w.cell? ⟨B, p + 4, none⟩ = some (.string r.s) ∧ w.cell? ⟨B, p + 5, none⟩ = some (.int .i64 r.vk) ∧ w.cell? ⟨B, p + 6, none⟩ = some (.int .i64 r.vx) ∧ w.cell? ⟨B, p + 7, none⟩ = some (.int .u64 r.vb) ∧ w.cell? ⟨B, p + 8, none⟩ = some (.string r.vs) ∧ w.cell? ⟨B, p + 9, none⟩ = some (.slice r.la r.ll r.lc) ∧ w.cell? ⟨B, p + 10, none⟩ = some (.int .i64 r.f) ∧ w.cell? ⟨B, p + 11, none⟩ = some (.int .u64 (r.c : Int)) ∧ w.cell? ⟨B, p + 12, none⟩ = some (.int .i64 r.m)
theorem AtR.below {w w' : World} {B p : Nat} {r : Rw} (h : AtR w B p r) (hb : Below w.heap.size w w') : AtR w' B p r := by
  obtain ⟨e0, e1, e2, e3, e4, e5, e6, e7, e8, e9, e10, e11, e12⟩ := h
  exact ⟨cellB e0 hb, cellB e1 hb, cellB e2 hb, cellB e3 hb, cellB e4 hb, cellB e5 hb, cellB e6 hb, cellB e7 hb, cellB e8 hb, cellB e9 hb, cellB e10 hb, cellB e11 hb, cellB e12 hb⟩
/-- The events of a slice, as their cells are. -/
def RowE (w : World) (a : Option Addr) (hs : List Rw) : Prop := ∀ (i : Nat) r, hs[i]? = some r → ∃ B o, a = some ⟨B, o, none⟩ ∧ AtR w B (o + i * 13) r
theorem RowE.below {w w' : World} {a : Option Addr} {hs : List Rw} (h : RowE w a hs) (hb : Below w.heap.size w w') : RowE w' a hs := fun i r hr => by
  obtain ⟨B, o, e, ha⟩ := h i r hr
  exact ⟨B, o, e, ha.below hb⟩
/-- The cells r are the event x. -/
def IsE (w : World) (N : Nat) (r : Rw) (x : Ev) : Prop := ∃ tv, x = r.ev tv ∧ Is w (N + 1) r.vv tv
theorem IsE.below {w w' : World} {N : Nat} {r : Rw} {x : Ev} (h : IsE w N r x) (hb : Below w.heap.size w w') : IsE w' N r x := by
  obtain ⟨tv, e, hi⟩ := h
  exact ⟨tv, e, hi.below hb⟩
def rx (hs : List Rw) (i : Nat) : Rw := hs.getD i zr
/-- The numbers of what was gone through, and the cells that came with each. -/
def encE (hs : List Rw) (i : Nat) : Array Value := #[.int .i64 ((i : Int) + 1), (rx hs i).val]
theorem range_pre {m n : Nat} (h : m ≤ n) : List.range m <+: List.range n := by
  obtain ⟨k, rfl⟩ := Nat.exists_eq_add_of_le h
  rw [List.range_add]
  exact List.prefix_append _ _
set_option maxRecDepth 100000 in
set_option maxHeartbeats 2000000 in
theorem num1_in (n : Nat) (hn : 1 ≤ n) (l Bn : Nat) (w0 : World) (a : Option Addr) (c : Nat) (hs : List Rw) (N : Nat) (hN : hs.length = N) (hl : N ≤ 200) (J Jx : List Nat → World → Prop) (W : World)
    (hJ : AbidesFrom W.heap.size J)
    (hY : ∀ pre x W1, J pre W1 → pre.length < N → YieldAt Fence.wide (n - 1) Try.prog l (encE hs x) W1 fun e W' =>
      (e = .returned (.bool true) ∧ J (pre ++ [x]) W' ∧ Below w0.heap.size W1 W') ∨ (e = .returned (.bool false) ∧ Jx (pre ++ [x]) W'))
    (hBn : W.cell? ⟨Bn, 0, none⟩ = some (.slice a N c)) (hR : RowE w0 a hs) (hW : Below w0.heap.size w0 W) (h0 : J [] W) :
    CallsIn Fence.wide n Try.prog 24 #[.func (.yield l) #[] #[], .pointer (some ⟨Bn, 0, none⟩)] W fun e W' => (∃ v, e = .returned v) ∧
      ((∃ ys, ys = List.range N ∧ J ys W') ∨ (∃ pre, pre <+: List.range N ∧ Jx pre W')) := by
  have HR : Hid (RowE w0 a hs) := hR
  have HY : Hid (∀ pre x W1, J pre W1 → pre.length < N → _) := hY
  have HJ : Hid (AbidesFrom W.heap.size J) := hJ
  have HN : Hid (hs.length = N) := hN
  clear hR hY hJ hN
  refine callsIn_of_wp Try.func24 rfl trivial ?_ rfl
  simp only [Try.ntmps24, List.size_toArray, List.length_cons, List.length_nil, Nat.reduceAdd, Nat.reduceSub, Array.replicate_succ, Array.replicate_zero, List.push_toArray, List.append_toArray, List.nil_append, List.cons_append]
  gi_wp2
  gi_loopw [3, 4, 7] (fun _ _ i wr => ∃ j : Nat, j ≤ N ∧ i = .int .i64 (j : Int) ∧ Hid (J (List.range j) wr) ∧ Hid (Below w0.heap.size w0 wr)) (fun _ _ i _ => N - (intOf i).toNat)
  case atStart => exact ⟨0, Nat.zero_le _, rfl, h0, hW⟩
  case round =>
    obtain ⟨j, hj, rfl, HJ0, HB⟩ := hrel
    by_cases hlt : j < N
    · obtain ⟨r, hr⟩ : ∃ r, hs[j]? = some r := ⟨_, List.getElem?_eq_getElem (by rw [HN.out]; exact hlt)⟩
      obtain ⟨B, o, rfl, hat⟩ := HR.out j r hr
      obtain ⟨e0, e1, e2, e3, e4, e5, e6, e7, e8, e9, e10, e11, e12⟩ := hat.below HB.out
      have hbz : Below w0.heap.size w0 (wr.alloc (.cells #[.int .i64 r.k, .int .i64 r.t, .int .i64 r.n, .int .i64 r.d, .string r.s, .int .i64 r.vk, .int .i64 r.vx, .int .u64 r.vb, .string r.vs, .slice r.la r.ll r.lc, .int .i64 r.f, .int .u64 (r.c : Int), .int .i64 r.m] 38)) := HB.out.trans ((Below.refl _ wr).alloc HB.out.size _)
      have hj1 := HJ.out (List.range j) wr (wr.alloc (.cells #[.int .i64 r.k, .int .i64 r.t, .int .i64 r.n, .int .i64 r.d, .string r.s, .int .i64 r.vk, .int .i64 r.vx, .int .u64 r.vb, .string r.vs, .slice r.la r.ll r.lc, .int .i64 r.f, .int .u64 (r.c : Int), .int .i64 r.m] 38)) none HJ0.out (World.grownBy_alloc _ _ _) (fun r e => by cases e)
      obtain ⟨fn, tmps, assign, body, hy, hRo⟩ := HY.out (List.range j) j _ hj1 (by rw [List.length_range]; exact hlt)
      have hg : rx hs j = r := by unfold rx; rw [List.getD_eq_getElem?_getD, hr]; rfl
      simp only [encE, hg, Rw.val] at hy
      have hwr : wrap64 ((j : Int) + 1) = (j : Int) + 1 := by unfold wrap64; omega
      have HRo : Hid (RoundIn _ _ _ _ _ _ _ _ _ _) := hRo
      have HBZ : Hid (Below w0.heap.size w0 (wr.alloc (.cells #[.int .i64 r.k, .int .i64 r.t, .int .i64 r.n, .int .i64 r.d, .string r.s, .int .i64 r.vk, .int .i64 r.vx, .int .u64 r.vb, .string r.vs, .slice r.la r.ll r.lc, .int .i64 r.f, .int .u64 (r.c : Int), .int .i64 r.m] 38))) := hbz
      have HSn : Hid (List.range j ++ [j] = List.range (j + 1)) := List.range_succ.symm
      clear hRo hbz hj1 hg hat hr
      gi_wp2
      refine HRo.out.mono ?_
      rintro e W3 (⟨rfl, hJ3, hk3⟩ | ⟨rfl, hJx3⟩)
      · have HJ3 : Hid (J (List.range (j + 1)) W3) := by rw [HSn.out] at hJ3; exact hJ3
        have HB3 : Hid (Below w0.heap.size w0 W3) := HBZ.out.trans hk3
        clear hJ3 hk3 HBZ HRo hy
        gi_wp2
        go_roundw
        case rel => exact ⟨j + 1, by omega, by go_num, HJ3, HB3⟩
        case measure => simp [intOf]; omega
      · have HJx3 : Hid (Jx (List.range (j + 1)) W3) := by rw [HSn.out] at hJx3; exact hJx3
        clear hJx3 HBZ HRo hy
        gi_wp2
        refine bodyPost_ret (results_none rfl _ _ _) rfl ?_
        exact ⟨⟨_, rfl⟩, .inr ⟨_, range_pre hlt, HJx3.out⟩⟩
    · obtain rfl : j = N := by omega
      gi_wp2
      go_end0
      exact ⟨⟨_, rfl⟩, .inl ⟨_, rfl, HJ0.out⟩⟩
set_option maxHeartbeats 1000000 in
theorem numbered_in (n : Nat) (a : Option Addr) (N c : Nat) (w : World) :
    CallsIn Fence.wide n Try.prog 20 #[.slice a N c] w fun e w' => e = .returned (.func (.func 24) #[] #[.pointer (some ⟨w.heap.size, 0, none⟩)]) ∧ w' = w.alloc (.cells #[.slice a N c] 22) := by
  refine callsIn_of_wp Try.func20 rfl trivial ?_ rfl
  simp only [Try.ntmps20, List.size_toArray, List.length_cons, List.length_nil, Nat.reduceAdd, Nat.reduceSub, Array.replicate_succ, Array.replicate_zero, List.push_toArray, List.append_toArray, List.nil_append, List.cons_append]
  gi_wp2
  go_ret
  exact ⟨rfl, rfl⟩
/-- What numbered gives: all numbers, or the first ones, where a round has said that it is enough. -/
theorem num_stops (n : Nat) (hn : 1 ≤ n) (Bn : Nat) (w0 : World) (a : Option Addr) (c : Nat) (hs : List Rw) (N : Nat) (hN : hs.length = N) (hl : N ≤ 200) (w : World) (hBn : Bn < w.heap.size) (hB : Below w0.heap.size w0 w)
    (hc : w.cell? ⟨Bn, 0, none⟩ = some (.slice a N c)) (hR : RowE w0 a hs) :
    SeqStopsK Fence.wide n Try.prog 24 #[.pointer (some ⟨Bn, 0, none⟩)] (encE hs) (Below w0.heap.size) (fun ys => ys = List.range N) (fun pre => pre <+: List.range N) N w := fun l J Jx W hW hJ _ hY h0 =>
  num1_in n hn l Bn w0 a c hs N hN hl J Jx W hJ hY ((hW.cell (p := ⟨Bn, 0, none⟩) hBn).trans hc) hR (hB.trans (hW.mono hB.size)) h0
end Go.Proofs.Ytdlllehoeodekaa
