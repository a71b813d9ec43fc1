/- The contract of Find: the numbers of the events of a kind. -/
import Derived.Test.YtdlllehoeodekaaD
namespace Go.Proofs.Ytdlllehoeodekaa
open Go.ChangeAt Go.ChangeShapes Go.Deep Go.RowKit Go.WideShapes Go.Shelf
attribute [local go_sem] Oper.semAt_some
theorem info3 : (Try.prog.info? 3).map (fun i => (i.zero, i.size, i.bytes)) = some (some (.int .i64 0), 1, 8) := by kernel_rfl
/-- Block B has the cells of r alone. -/
def Bx13 (W : World) (B : Nat) (r : Rw) : Prop := W.heap[B]? = some (.cells #[.int .i64 r.k, .int .i64 r.t, .int .i64 r.n, .int .i64 r.d, .string r.s, .int .i64 r.vk, .int .i64 r.vx, .int .u64 r.vb, .string r.vs, .slice r.la r.ll r.lc, .int .i64 r.f, .int .u64 (r.c : Int), .int .i64 r.m] 38 (0, 0))
theorem Bx13.new (W : World) (r : Rw) : Bx13 (W.alloc (.cells #[.int .i64 r.k, .int .i64 r.t, .int .i64 r.n, .int .i64 r.d, .string r.s, .int .i64 r.vk, .int .i64 r.vx, .int .u64 r.vb, .string r.vs, .slice r.la r.ll r.lc, .int .i64 r.f, .int .u64 (r.c : Int), .int .i64 r.m] 38)) W.heap.size r := World.alloc_heap_new W _
theorem Bx13.at {W : World} {B : Nat} {r : Rw} (h : Bx13 W B r) : AtR W B 0 r := by
  have e : W.heap[B]? = some (.cells #[.int .i64 r.k, .int .i64 r.t, .int .i64 r.n, .int .i64 r.d, .string r.s, .int .i64 r.vk, .int .i64 r.vx, .int .u64 r.vb, .string r.vs, .slice r.la r.ll r.lc, .int .i64 r.f, .int .u64 (r.c : Int), .int .i64 r.m] 38 (0, 0)) := h
  refine ⟨?_, ?_, ?_, ?_, ?_, ?_, ?_, ?_, ?_, ?_, ?_, ?_, ?_⟩ <;> simp [World.cell?, e]
theorem bx13_own (B : Nat) (r : Rw) : Own (fun (_ : Unit) W => Bx13 W B r) := fun _ X Y row hs hg hr => by
  have e : X.heap[B]? = some (.cells #[.int .i64 r.k, .int .i64 r.t, .int .i64 r.n, .int .i64 r.d, .string r.s, .int .i64 r.vk, .int .i64 r.vx, .int .u64 r.vb, .string r.vs, .slice r.la r.ll r.lc, .int .i64 r.f, .int .u64 (r.c : Int), .int .i64 r.m] 38 (0, 0)) := hs
  exact (grownBy_keeps_cells hg hr e rfl).trans e
/-- The numbers of those of the kind. -/
def fnd (hs : List Rw) (kind : Int) (pre : List Nat) : List Int := (pre.filter fun i => decide ((rx hs i).k = kind)).map fun (i : Nat) => (i : Int) + 1
theorem fnd_hit (hs : List Rw) (kind : Int) (pre : List Nat) {x : Nat} (h : (rx hs x).k = kind) : fnd hs kind (pre ++ [x]) = fnd hs kind pre ++ [(x : Int) + 1] := by simp [fnd, h]
theorem fnd_miss (hs : List Rw) (kind : Int) (pre : List Nat) {x : Nat} (h : ¬ (rx hs x).k = kind) : fnd hs kind (pre ++ [x]) = fnd hs kind pre := by simp [fnd, h]
theorem fnd_len (hs : List Rw) (kind : Int) (pre : List Nat) : (fnd hs kind pre).length ≤ pre.length := by
  unfold fnd
  rw [List.length_map]
  exact List.length_filter_le _ _
set_option maxRecDepth 100000 in
set_option maxHeartbeats 4000000 in
theorem find_in (n : Nat) (hn : 4 ≤ n) (a : Option Addr) (c : Nat) (hs : List Rw) (N : Nat) (hN : hs.length = N) (hl : N ≤ 200) (kind : Int) (w : World) (hR : RowE w a hs) :
    CallsIn Fence.wide n Try.prog 12 #[.slice a N c, .int .i64 kind] w fun e W' => ∃ v, e = .returned v ∧ W'.ownsRow (w.heap.size + 1) 3 1 v (fnd hs kind (List.range N)).length ((fnd hs kind (List.range N)).map (Value.int .i64)) ∧ Below w.heap.size w W' := by
  have h1 : 1 ≤ n := by omega
  obtain ⟨i0, hi, hz0, hz1, hz2⟩ := info_parts info3
  refine callsIn_of_wp_marks Try.func12 rfl trivial ?_ rfl
  simp only [Try.ntmps12, List.size_toArray, List.length_cons, List.length_nil, Nat.reduceAdd, Nat.reduceSub, Array.replicate_succ, Array.replicate_zero, List.push_toArray, List.append_toArray, List.nil_append, List.cons_append]
  gi_wp2_with (refine ⟨trivial, ?_⟩; gi_at_call 20; refine (numbered_in (n - 1) _ _ _ _).mono ?_; rintro e w' ⟨rfl, rfl⟩)
  obtain ⟨w1, hw1⟩ : ∃ w1, w1 = w.alloc (.cells #[.int .i64 kind] 3) := ⟨_, rfl⟩
  have hs1 : w1.heap.size = w.heap.size + 1 := by rw [hw1]; simp
  have hb1 : Below w.heap.size w w1 := by rw [hw1]; exact bel1 _ _
  have bK : w1.cell? ⟨w.heap.size, 0, none⟩ = some (.int .i64 kind) := by rw [hw1]; exact (Boxed.new w 3 (.int .i64 kind)).cell
  rw [← hw1]
  clear hw1
  have bO := Boxed.new w1 25 (.slice none 0 0)
  have bN := Boxed.new (w1.alloc (.cells #[.slice none 0 0] 25)) 22 (.slice a N c)
  rw [World.size_alloc] at bN
  have hB0 : Below w1.heap.size w1 ((w1.alloc (.cells #[.slice none 0 0] 25)).alloc (.cells #[.slice a N c] 22)) := ((Below.refl _ w1).alloc (Nat.le_refl _) _).alloc (by simp) _
  have HR1 : Hid (RowE w1 a hs) := hR.below hb1
  have HB1 : Hid (Below w.heap.size w w1) := hb1
  rw [hs1] at bO bN
  clear hR hb1
  refine wpIn_rangeFunc_ownH rfl h1 (gf := 24) (lb := #[.pointer (some ⟨w.heap.size + 1 + 1, 0, none⟩)]) rfl trivial (enters_of Try.func24 (by kernel_rfl) rfl)
    (num_stops (n - 1) (by omega) (w.heap.size + 1 + 1) w1 a c hs N hN hl _ (by simp; omega) hB0 bN.cell HR1.out) belowK_t (belowK_b (by simp; omega)) (Below.refl _ _) (fun _ => rfl)
    (fun pre W => (∃ v, Boxed W (w.heap.size + 1) 25 v ∧ W.ownsRow (w.heap.size + 1) 3 1 v (fnd hs kind pre).length ((fnd hs kind pre).map (Value.int .i64)) ∧ True) ∧ Below w1.heap.size w1 W)
    (fun _ _ _ => False)
    (OwnFrom.and (Own.from (holdsRow_own (w.heap.size + 1) (w.heap.size + 1) 25 3 1 (fun pre => (fnd hs kind pre).length) (fun pre => (fnd hs kind pre).map (Value.int .i64)) (fun _ _ => True)) _) (ownFrom_below (Nat.le_refl _) (by simp; omega)))
    (fun _ _ _ _ _ hs _ _ => hs)
    ⟨⟨_, bO.alloc _, (World.ownsRow_nil _ (w.heap.size + 1) 3 1 : World.ownsRow _ (w.heap.size + 1) 3 1 (.slice none 0 0) 0 []), trivial⟩, hB0⟩
    (fun x a' W => ∃ Bx, w.heap.size + 1 < Bx ∧ Bx13 W Bx (rx hs x) ∧ a' = { tmps := #[.slice a N c, .int .i64 kind, undef, .pointer (some ⟨w.heap.size, 0, none⟩), .slice none 0 0, .pointer (some ⟨w.heap.size + 1, 0, none⟩), .int .i64 ((x : Int) + 1), .pointer (some ⟨Bx, 0, none⟩), .slice a N c, .func (.func 24) #[] #[.pointer (some ⟨w.heap.size + 1 + 1, 0, none⟩)], .int .i64 ((x : Int) + 1), .agg #[.int .i64 (rx hs x).k, .int .i64 (rx hs x).t, .int .i64 (rx hs x).n, .int .i64 (rx hs x).d, .string (rx hs x).s, .int .i64 (rx hs x).vk, .int .i64 (rx hs x).vx, .int .u64 (rx hs x).vb, .string (rx hs x).vs, .slice (rx hs x).la (rx hs x).ll (rx hs x).lc, .int .i64 (rx hs x).f, .int .u64 ((rx hs x).c : Int), .int .i64 (rx hs x).m], undef, undef, undef, undef, undef, undef, undef, undef, undef], defers := [] })
    (fun x a' _ X Y row hs hg hr => by obtain ⟨Bx, h1, h2, h3⟩ := hs; exact ⟨Bx, h1, bx13_own Bx _ () X Y row h2 hg (fun r e => (hr r e).2), h3⟩)
    ?assign ?body ?done ?stop
  case assign =>
    rintro l pre x W K ⟨⟨v, hv, hrow, _⟩, hB⟩ hK
    simp only [encE, Rw.val]
    gi_wp2
    exact hK _ _ ((KeepsOthers.alloc _ _).from _) ((Below.refl _ W).alloc hB.size _) ⟨⟨v, hv.alloc _, hrow.alloc _, trivial⟩, hB.alloc hB.size _⟩ ⟨W.heap.size, hv.lt, Bx13.new W _, rfl⟩
  case body =>
    rintro l pre x a' W _ _ ⟨⟨v, hv, hrow, _⟩, hB⟩ ⟨Bx, hBx, bX, rfl⟩ hlt
    have hc := hv.cell
    have hpl := fnd_len hs kind pre
    obtain ⟨x0, -⟩ := bX.at
    have xK : W.cell? ⟨w.heap.size, 0, none⟩ = some (.int .i64 kind) := (hB.cell (p := ⟨w.heap.size, 0, none⟩) (by show w.heap.size < _; omega)).trans bK
    by_cases hk : (rx hs x).k = kind
    · have hk' : ((rx hs x).k == kind) = true := by simpa using hk
      have HK : Hid ((rx hs x).k = kind) := hk
      clear hk
      gi_wp2_with (gi_at_builtin; refine wpListIn_append_own _ rfl _ _ 25 rfl (w.heap.size + 1) 3 i0 (.int .i64 0) 1 8 Try.underlying25 hi hz0 hz1 hz2 rfl (by decide) _ _ _ rfl (hrow.alloc _) ⟨W.heap.size, 0, none⟩ 1 1 [.int .i64 ((x : Int) + 1)] rfl rfl (cell_one_new _ _ _) (by simp [Value.oneCell']) (by unfold maxLen; omega) (by omega) (by have := hB.size; simp; omega) ?_; intro v' w2 hown' hgrow _; obtain ⟨g', cap', rfl⟩ := ownsRow_succ hown'; obtain ⟨hv1, hv2, hr2, hk2, hb2⟩ := hv.appended (by decide) hrow (by have := hB.size; omega) (Nat.le_refl _) hown' hgrow; have hc1 := hv1.cell; have hf1 := hv1.frozen)
      exact ⟨hk2.from _, by rw [hs1]; exact hb2, ⟨_, hv2, by rw [fnd_hit hs kind pre HK.out]; simpa using hr2, trivial⟩, hB.trans (by rw [hs1]; exact hb2)⟩
    · have hk' : ((rx hs x).k == kind) = false := by simpa using hk
      gi_wp2
      exact ⟨KeepsFrom.refl _ _, Below.refl _ _, ⟨v, hv, by rw [fnd_miss hs kind pre hk]; exact hrow, trivial⟩, hB⟩
  case done =>
    rintro D ys W hD rfl ⟨⟨v, hv, hrow, _⟩, hB⟩ hK
    have hc := hv.cell
    gi_wp2
    refine ⟨by simp, .inl ⟨_, _, rfl, run_takeDeferred hK, ?_⟩⟩
    exact ⟨_, results_tmp rfl _ _ _, v, rfl, ownsRow_putObj hrow _ hK rfl, (HB1.out.trans (hB.mono (by omega))).trans (belowK_b (w := w) (Nat.le_refl _) W D _ _ (by simp at hD; omega) hK rfl rfl)⟩
  case stop =>
    rintro D c pre W _ _ h _
    exact h.elim
end Go.Proofs.Ytdlllehoeodekaa
