/- The contracts of slices.Grow of none and of slices.Concat of three lists of events. -/
import Derived.Test.YtmcbgfcpalfcjaaOH
import Derived.Lib.AppendZeros
import Derived.Laws.AppendOwnNone
namespace Go.Proofs.Ytmcbgfcpalfcjaa
open Go.ChangeShapes Go.WideShapes Go.ChangeAt Go.RowKit
/-- Rows of thirteen cells, each of one cell's make. -/
def Rw13 (rows : List (List Value)) : Prop := ∀ r ∈ rows, r.length = 13 ∧ ∀ u ∈ r, u.oneCell' = true
theorem Rw13.len : ∀ {rows : List (List Value)}, Rw13 rows → rows.flatten.length = rows.length * 13
  | [], _ => rfl
  | r :: l, h => by
    rw [List.flatten_cons, List.length_append, (h r (List.mem_cons_self ..)).1, Rw13.len (rows := l) fun r hr => h r (List.mem_cons_of_mem _ hr), List.length_cons, Nat.succ_mul]
    omega
theorem Rw13.one {rows : List (List Value)} (h : Rw13 rows) : ∀ u ∈ rows.flatten, u.oneCell' = true := fun u hu => by
  obtain ⟨r, hr, hu⟩ := List.mem_flatten.1 hu
  exact (h r hr).2 u hu
/-- A list of events that is handed on, below base. -/
def Src (w : World) (base : Nat) (v : Value) (rows : List (List Value)) : Prop :=
  Rw13 rows ∧ ((v = .slice none 0 0 ∧ rows = []) ∨ ∃ g c, v = .slice (some ⟨g, 0, none⟩) rows.length c ∧ g < base ∧ ∀ (j : Nat) u, rows.flatten[j]? = some u → w.cell? ⟨g, j, none⟩ = some u)
theorem Src.below {w w' : World} {base : Nat} {v : Value} {rows : List (List Value)} (h : Src w base v rows) (hb : Below base w w') : Src w' base v rows := by
  obtain ⟨h1, h2 | ⟨g, c, h3, h4, h5⟩⟩ := h
  · exact ⟨h1, .inl h2⟩
  · exact ⟨h1, .inr ⟨g, c, h3, h4, fun j u hj => (hb.cell (p := ⟨g, j, none⟩) h4).trans (h5 j u hj)⟩⟩
theorem OwnR.src {w : World} {base base' : Nat} {v : Value} {rows : List (List Value)} (h : OwnR w base v rows) (hr : Rw13 rows) (hb : w.heap.size ≤ base') : Src w base' v rows := by
  refine ⟨hr, ?_⟩
  rcases Go.Joins.ownsRow_forms h with ⟨rfl, h0⟩ | ⟨g, cap, rfl⟩
  · exact .inl ⟨rfl, List.eq_nil_of_length_eq_zero h0⟩
  · refine .inr ⟨g, cap, rfl, Nat.lt_of_lt_of_le (World.ownsRow.lt h g rfl).2 hb, fun j u hj => ?_⟩
    have := World.ownsRow.cells h (g := g) rfl j u hj
    rw [addp, Nat.zero_add] at this
    exact this
theorem Src.form {w : World} {base : Nat} {v : Value} {rows : List (List Value)} (h : Src w base v rows) : ∃ a c, v = .slice a rows.length c := by
  obtain ⟨_, ⟨rfl, rfl⟩ | ⟨g, c, rfl, _⟩⟩ := h
  · exact ⟨none, 0, rfl⟩
  · exact ⟨_, c, rfl⟩
set_option maxRecDepth 100000 in
theorem wpList_append_src {ops : Array Oper} {rest : List Oper} {o : Oper} {a : Act} {w : World} {Q : Exit → Act → World → Prop} (hgd : o.guard = none) (s x : Operand) (ho : o.op = .call { callee := .builtin .append, args := #[s, x], argTypes := #[38, 38] })
    (base : Nat) (v : Value) (rows : List (List Value)) (hs : a.eval s = v) (hown : OwnR w base v rows) (va : Value) (rows2 : List (List Value)) (hx : a.eval x = va) (hsrc : Src w base va rows2) (hlen : rows.length + rows2.length ≤ 1000) (hbase : base ≤ w.heap.size)
    (h : ∀ v' w', OwnR w' base v' (rows ++ rows2) → Below base w w' → wpList Try.prog ops Q rest (a.put o.dst v') w') : wpList Try.prog ops Q (o :: rest) a w := by
  obtain ⟨iE, hiE, zE0, zE1, zE2⟩ := info_parts infoE
  obtain ⟨h13, ⟨rfl, rfl⟩ | ⟨g, c, rfl, hg, hc⟩⟩ := hsrc
  · refine wpList_append_own_none hgd s x 38 ho base 51 iE 13 Try.underlying38 hiE v _ _ hs hown hx ?_
    exact h v w (by rw [List.append_nil]; exact hown) (Below.refl _ _)
  · refine wpList_append_own w hgd s x 38 ho base 51 iE (.agg #[.int .i64 0, .int .i64 0, .int .i64 0, .int .i64 0, .string ⟨#[]⟩, .int .i64 0, .int .i64 0, .int .u64 0, .string ⟨#[]⟩, .slice none 0 0, .int .i64 0, .int .u64 0, .int .i64 0]) 13 136 Try.underlying38 hiE zE0 zE1 zE2 rfl (by decide) v _ _ hs hown ⟨g, 0, none⟩ rows2.length c rows2.flatten hx h13.len (fun j u hj => by rw [addp, Nat.zero_add]; exact hc j u hj) h13.one (by unfold maxLen; omega) (by omega) hbase ?_
    intro v' w' h1 h2 _
    refine h v' w' ?_ ((Below.refl _ w).grown h2 hbase fun k hk => (World.ownsRow.lt hown k hk).1)
    unfold OwnR
    rw [List.length_append, List.flatten_append]
    exact h1
set_option maxHeartbeats 2000000 in
set_option maxRecDepth 100000 in
theorem grow_calls (N : Nat) (hN : N ≤ 1000) (w : World) : Calls Try.prog 35 #[.slice none 0 0, .int .i64 (N : Int)] w fun e w' => ∃ v, e = .returned v ∧ OwnR w' w.heap.size v [] ∧ Below w.heap.size w w' := by
  obtain ⟨i0, hi, hz0, hz1, hz2⟩ := info_parts infoE
  by_cases h0 : N = 0
  · subst h0
    clear hN
    go_enter Try.func35, Try.ntmps35
    go_wp2_with fail
    go_ret
    exact ⟨_, rfl, World.ownsRow_nil _ _ _ _, Below.refl _ _⟩
  · have hrz : ∀ ty, (Builtin.append_ #[38, 3] ty #[.slice none 0 0, .int .i64 (N : Int)]).run Try.prog w = _ := fun ty =>
      Lib.run_append_grow_zeros (P := Try.prog) w 38 3 ty 51 i0 (.agg #[.int .i64 0, .int .i64 0, .int .i64 0, .int .i64 0, .string ⟨#[]⟩, .int .i64 0, .int .i64 0, .int .u64 0, .string ⟨#[]⟩, .slice none 0 0, .int .i64 0, .int .u64 0, .int .i64 0]) .i64 .i64 Try.underlying38 Try.underlying3 hi hz0 none 0 0 [] (run_firstCells_none w.drew i0.size 0 0 0) N (by omega) (by omega) (by omega) (by omega) (by rw [hz2]; omega)
        (by rw [hz2, Nat.zero_add, nextslicecap_zero (by omega)]; omega)
    simp only [Nat.zero_add] at hrz
    have hGn : N ≤ grownCap w N 0 51 := grownCap_ge w _ _ _
    have hGm := grownCap_le_maxLen w N 0 51 (by unfold maxLen; omega)
    generalize grownCap w N 0 51 = G at hrz hGn hGm
    have hsz : (([] : List Value).toArray ++ Builtin.zeroCells (Value.cells (.agg #[.int .i64 0, .int .i64 0, .int .i64 0, .int .i64 0, .string ⟨#[]⟩, .int .i64 0, .int .i64 0, .int .u64 0, .string ⟨#[]⟩, .slice none 0 0, .int .i64 0, .int .u64 0, .int .i64 0])) N ++ Builtin.zeroCells (Value.cells (.agg #[.int .i64 0, .int .i64 0, .int .i64 0, .int .i64 0, .string ⟨#[]⟩, .int .i64 0, .int .i64 0, .int .u64 0, .string ⟨#[]⟩, .slice none 0 0, .int .i64 0, .int .u64 0, .int .i64 0])) (G - N)).size = G * 13 := by
      rw [Array.size_append, Array.size_append, size_zeroCells, size_zeroCells, show (Value.cells (.agg #[.int .i64 0, .int .i64 0, .int .i64 0, .int .i64 0, .string ⟨#[]⟩, .int .i64 0, .int .i64 0, .int .u64 0, .string ⟨#[]⟩, .slice none 0 0, .int .i64 0, .int .u64 0, .int .i64 0])).size = 13 from rfl]; simp; omega
    generalize ([] : List Value).toArray ++ Builtin.zeroCells (Value.cells (.agg #[.int .i64 0, .int .i64 0, .int .i64 0, .int .i64 0, .string ⟨#[]⟩, .int .i64 0, .int .i64 0, .int .u64 0, .string ⟨#[]⟩, .slice none 0 0, .int .i64 0, .int .u64 0, .int .i64 0])) N ++ Builtin.zeroCells (Value.cells (.agg #[.int .i64 0, .int .i64 0, .int .i64 0, .int .i64 0, .string ⟨#[]⟩, .int .i64 0, .int .i64 0, .int .u64 0, .string ⟨#[]⟩, .slice none 0 0, .int .i64 0, .int .u64 0, .int .i64 0])) (G - N) = cur at hrz hsz
    have HA : Hid (OwnR (w.alloc (.cells cur 51)).drew w.heap.size (.slice (some ⟨w.heap.size, 0, none⟩) 0 G) []) :=
      World.ownsRow_made w.drew cur G (Nat.le_refl _) hGm hsz
    have HB : Hid (Below w.heap.size w (w.alloc (.cells cur 51)).drew) := ((Below.refl _ w).alloc (Nat.le_refl _) _).drew
    have d0 : decide ((N : Int) < 0) = false := decide_eq_false (by omega)
    have d1 : 0 < N := by omega
    have hw : wrap64 (N : Int) = (N : Int) := by unfold wrap64; omega
    rw [← hw] at hrz
    have HR : Hid (∀ ty, _) := hrz
    clear hrz h0 hN hGn hi hz0 hz1 hz2 hGm hsz
    go_enter Try.func35, Try.ntmps35
    go_wp2_with (at_builtin; go_must (refine Lib.wpList_append_run w rfl _ _ 38 3 rfl (.slice none 0 0) (.int .i64 (wrap64 (N : Int))) rfl rfl _ _ (HR.out _) ?_))
    all_goals go_ret
    all_goals exact ⟨_, rfl, HA.out, HB.out⟩
theorem wr3a (a : Nat) (h : a ≤ 20) : wrap64 (a : Int) = a := by unfold wrap64; omega
theorem wr3b (a b : Nat) (h : a ≤ 20) (h1 : b ≤ 20) : wrap64 ((a : Int) + b) = a + b := by unfold wrap64; omega
theorem wr3c (a b c : Nat) (h : a ≤ 20) (h1 : b ≤ 20) (h2 : c ≤ 20) : wrap64 ((a : Int) + b + c) = a + b + c := by unfold wrap64; omega
theorem ng3a (a : Nat) : decide ((a : Int) < 0) = false := decide_eq_false (by omega)
theorem ng3b (a b : Nat) : decide ((a : Int) + b < 0) = false := decide_eq_false (by omega)
theorem ng3c (a b c : Nat) : decide ((a : Int) + b + c < 0) = false := decide_eq_false (by omega)
set_option maxHeartbeats 4000000 in
set_option maxRecDepth 100000 in
theorem concat_calls (b c : Nat) (v0 v1 v2 : Value) (r0 r1 r2 : List (List Value)) (w : World) (h0 : Src w w.heap.size v0 r0) (h1 : Src w w.heap.size v1 r1) (h2 : Src w w.heap.size v2 r2) (hb : b < w.heap.size)
    (g0 : w.cell? ⟨b, 0, none⟩ = some v0) (g1 : w.cell? ⟨b, 1, none⟩ = some v1) (g2 : w.cell? ⟨b, 2, none⟩ = some v2) (l0 : r0.length ≤ 20) (l1 : r1.length ≤ 20) (l2 : r2.length ≤ 20) :
    Calls Try.prog 21 #[.slice (some ⟨b, 0, none⟩) 3 c] w fun e w' => ∃ v, e = .returned v ∧ OwnR w' w.heap.size v (r0 ++ r1 ++ r2) ∧ Below w.heap.size w w' := by
  have HG : Hid (Calls _ _ _ _ _) := grow_calls (r0.length + r1.length + r2.length) (by omega) w
  obtain ⟨a0, c0, e0⟩ := h0.form
  obtain ⟨a1, c1, e1⟩ := h1.form
  obtain ⟨a2, c2, e2⟩ := h2.form
  subst e0; subst e1; subst e2
  have H0 : Hid (Src _ _ _ _) := h0
  have H1 : Hid (Src _ _ _ _) := h1
  have H2 : Hid (Src _ _ _ _) := h2
  have HL : Hid (r0.length ≤ 20 ∧ r1.length ≤ 20 ∧ r2.length ≤ 20) := ⟨l0, l1, l2⟩
  clear h0 h1 h2
  generalize hn0 : r0.length = n0 at *
  generalize hn1 : r1.length = n1 at *
  generalize hn2 : r2.length = n2 at *
  have k1 := wr3a n0 l0
  have k2 := wr3b n0 n1 l0 l1
  have k3 := wr3c n0 n1 n2 l0 l1 l2
  have d1 := ng3a n0
  have d2 := ng3b n0 n1
  have d3 := ng3c n0 n1 n2
  have HN : Hid (r0.length = n0 ∧ r1.length = n1 ∧ r2.length = n2) := ⟨hn0, hn1, hn2⟩
  clear hn0 hn1 hn2 l0 l1 l2
  go_enter Try.func21, Try.ntmps21
  go_wp2_with fail
  refine wp_loop_rounds 4 ?_
  rw [rounds_succ]
  go_wp2_with fail
  rw [rounds_succ]
  go_wp2_with fail
  rw [rounds_succ]
  go_wp2_with fail
  rw [rounds_succ]
  go_wp2_with fail
  refine HG.out.mono ?_
  rintro e w1 ⟨u1, rfl, hO, hB⟩
  have HO : Hid (OwnR w1 w.heap.size u1 []) := hO
  have HB : Hid (Below w.heap.size w w1) := hB
  rw [← hB.cell (p := ⟨b, 0, none⟩) hb] at g0
  rw [← hB.cell (p := ⟨b, 1, none⟩) hb] at g1
  rw [← hB.cell (p := ⟨b, 2, none⟩) hb] at g2
  clear hO hB HG
  go_wp2_with fail
  refine wp_loop_rounds 4 ?_
  rw [rounds_succ]
  go_wp2_with (at_builtin; go_must (refine wpList_append_src rfl _ _ rfl w.heap.size u1 ([]) rfl HO.out (.slice a0 n0 c0) r0 rfl (H0.out.below HB.out) (by have := HL.out; have := HN.out; (try simp only [List.length_nil]); omega) HB.out.size ?_))
  intro u2 w2 hO hB
  have hB2 : Below w.heap.size w w2 := HB.out.trans hB
  clear HO HB
  have HO : Hid (OwnR w2 w.heap.size u2 (r0)) := hO
  have HB : Hid (Below w.heap.size w w2) := hB2
  rw [← hB.cell (p := ⟨b, 0, none⟩) hb] at g0
  rw [← hB.cell (p := ⟨b, 1, none⟩) hb] at g1
  rw [← hB.cell (p := ⟨b, 2, none⟩) hb] at g2
  clear hO hB hB2
  go_wp2_with fail
  rw [rounds_succ]
  go_wp2_with (at_builtin; go_must (refine wpList_append_src rfl _ _ rfl w.heap.size u2 (r0) rfl HO.out (.slice a1 n1 c1) r1 rfl (H1.out.below HB.out) (by have := HL.out; have := HN.out; (try simp only [List.length_append, List.length_nil]); omega) HB.out.size ?_))
  intro u3 w3 hO hB
  have hB2 : Below w.heap.size w w3 := HB.out.trans hB
  clear HO HB
  have HO : Hid (OwnR w3 w.heap.size u3 (r0 ++ r1)) := hO
  have HB : Hid (Below w.heap.size w w3) := hB2
  rw [← hB.cell (p := ⟨b, 0, none⟩) hb] at g0
  rw [← hB.cell (p := ⟨b, 1, none⟩) hb] at g1
  rw [← hB.cell (p := ⟨b, 2, none⟩) hb] at g2
  clear hO hB hB2
  go_wp2_with fail
  rw [rounds_succ]
  go_wp2_with (at_builtin; go_must (refine wpList_append_src rfl _ _ rfl w.heap.size u3 (r0 ++ r1) rfl HO.out (.slice a2 n2 c2) r2 rfl (H2.out.below HB.out) (by have := HL.out; have := HN.out; (try simp only [List.length_append]); omega) HB.out.size ?_))
  intro u4 w4 hO hB
  have hB2 : Below w.heap.size w w4 := HB.out.trans hB
  clear HO HB
  have HO : Hid (OwnR w4 w.heap.size u4 (r0 ++ r1 ++ r2)) := by show OwnR _ _ _ (r0 ++ r1 ++ r2); rw [List.append_assoc]; exact hO
  have HB : Hid (Below w.heap.size w w4) := hB2
  rw [← hB.cell (p := ⟨b, 0, none⟩) hb] at g0
  rw [← hB.cell (p := ⟨b, 1, none⟩) hb] at g1
  rw [← hB.cell (p := ⟨b, 2, none⟩) hb] at g2
  clear hO hB hB2
  go_wp2_with fail
  rw [rounds_succ]
  go_wp2_with fail
  go_ret
  exact ⟨_, rfl, HO.out, HB.out⟩
end Go.Proofs.Ytmcbgfcpalfcjaa
