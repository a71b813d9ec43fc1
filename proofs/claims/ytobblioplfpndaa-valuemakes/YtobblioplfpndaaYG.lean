/- The contracts of List, both, of two values. -/
import Derived.Test.YtobblioplfpndaaYF
import Derived.Test.YtobblioplfpndaaXB
namespace Go.Proofs.Ytobblioplfpndaa
open Go.ChangeShapes Go.WideShapes Go.ChangeAt Go.RowKit Go.BigFrame
/-- Two values in one block. -/
theorem row2 {n g : Nat} {w : World} {t1 t2 : Tv} {c0 c1 c2 c3 c4 d0 d1 d2 d3 d4 : Value} (h1 : At5 w g 0 c0 c1 c2 c3 c4) (h2 : At5 w g 5 d0 d1 d2 d3 d4) (i1 : Is w n (.agg #[c0, c1, c2, c3, c4]) t1) (i2 : Is w n (.agg #[d0, d1, d2, d3, d4]) t2) : Row (Is w n) w (some ⟨g, 0, none⟩) [t1, t2] := by
  intro i t ht
  match i, ht with
  | 0, ht => cases ht; exact ⟨g, 0, _, _, _, _, _, rfl, h1, i1⟩
  | 1, ht => cases ht; exact ⟨g, 0, _, _, _, _, _, rfl, h2, i2⟩
/-- What List of two values gives. -/
def LiP (w : World) (n : Nat) (t1 t2 : Tv) (e : Ending) (w' : World) : Prop := (∃ v, e = .returned v ∧ Is w' (n + 1) v (.mk 4 0 0 ⟨#[]⟩ [t1, t2])) ∧ Below w.heap.size w w'
set_option maxHeartbeats 2000000 in
theorem mlist_calls (n g : Nat) (w : World) (t1 t2 : Tv) (hr : Row (Is w n) w (some ⟨g, 0, none⟩) [t1, t2]) (s1 : Small n t1) (s2 : Small n t2) :
    Calls Try.prog 18 #[.slice (some ⟨g, 0, none⟩) 2 2] w (LiP w n t1 t2) := by
  have C0 := fun W (hB : Below w.heap.size w W) => cloneAll_calls n (clone_calls n) (some ⟨g, 0, none⟩) 2 [t1, t2] W (by simp) (hr.below hB) (fun i t ht => by
    match i, ht with
    | 0, ht => cases ht; exact s1
    | 1, ht => cases ht; exact s2)
  simp only [List.length_cons, List.length_nil, Nat.zero_add, Nat.reduceAdd] at C0
  clear hr s1 s2
  go_enter Try.func18, Try.ntmps18
  go_wp2_with fail
  refine Calls.mono (C0 _ (bel1 _ _)) ?_
  rintro e w1 ⟨⟨a1, c1, rfl, hc1, hc2, hr1⟩, hb1⟩
  have hz : w.heap.size < w1.heap.size := by have := hb1.size; simp at this; omega
  have p2 := (box_at w (.int .i64 0) (.int .i64 0) (.int .u64 0) (.string ⟨#[]⟩) (.slice none 0 0)).below hb1
  have f2 : ∀ o, w1.frozen? ⟨w.heap.size, o, none⟩ = false := fun o => (hb1.frozen (by simp)).trans (fresh w _ o)
  have HP2 : Hid (At5 w1 w.heap.size 0 _ _ _ _ _) := p2
  obtain ⟨p20, p21, p22, p23, p24⟩ := p2
  have q1 := f2 0
  have q2 := f2 1
  have q3 := f2 2
  have q4 := f2 3
  have q5 := f2 4
  have HB1 : Hid (Below w.heap.size w w1) := bel2 (bel1 _ _) hb1
  simp only [World.size_alloc] at hr1
  have HR1 : Hid (RowN (w.heap.size + 1) (IsN (w.heap.size + 1) w1 n) w1 a1 [t1, t2]) := hr1
  have HC1 : Hid (2 ≤ c1 ∧ c1 ≤ 500) := ⟨hc1, hc2⟩
  clear hb1 hr1 f2 C0 hc1 hc2
  go_wp2_with fail
  have kb2 := set5_kb w1 w.heap.size 0 (.int .i64 4) (.int .i64 0) (.int .u64 0) (.string ⟨#[]⟩) (.slice a1 2 c1)
  refine bodyPost_ret (ret5 Try.results18 _ (g := w.heap.size) rfl (set5_at HP2.out _ _ _ _ _)) rfl ?_
  exact ⟨⟨_, rfl, a1, c1, rfl, ⟨by decide, by decide, by decide, by decide, by decide, by decide, by decide, HC1.out.1, by have := HC1.out.2; omega⟩, (HR1.out.kb kb2 (by omega)).row⟩, HB1.out.trans (kb2.below (Nat.le_refl _) (by omega))⟩
/-- append of two values to none. -/
theorem vtwo_run {lo src : Nat} {W : World} {c0 c1 c2 c3 c4 d0 d1 d2 d3 d4 : Value} (h1 : At5 W src 0 c0 c1 c2 c3 c4) (h2 : At5 W src 5 d0 d1 d2 d3 d4) (hs : ∀ z ∈ [c0, c1, c2, c3, c4, d0, d1, d2, d3, d4], z.oneCell' = true) (hB : lo ≤ W.heap.size) :
    ∃ G cap w', (Builtin.append_ #[23, 23] 23 #[.slice none 0 0, .slice (some ⟨src, 0, none⟩) 2 2]).run Try.prog W = .ok (.slice (some ⟨G, 0, none⟩) 2 cap) w' ∧ lo ≤ G ∧ 2 ≤ cap ∧ cap ≤ 9223372036854775807 ∧ At5 w' G 0 c0 c1 c2 c3 c4 ∧ At5 w' G 5 d0 d1 d2 d3 d4 ∧ Below W.heap.size W w' := by
  obtain ⟨i0, hi, hz0, hz1, hz2⟩ := info_parts info25
  have hnews : ∀ j z, [c0, c1, c2, c3, c4, d0, d1, d2, d3, d4][j]? = some z → W.cell? ((⟨src, 0, none⟩ : Addr).add j) = some z := fun j z hj => by
    rw [add_plain]
    obtain ⟨q0, q1, q2, q3, q4⟩ := h1
    obtain ⟨r0, r1, r2, r3, r4⟩ := h2
    match j, hj with
    | 0, hj => cases hj; exact q0
    | 1, hj => cases hj; exact q1
    | 2, hj => cases hj; exact q2
    | 3, hj => cases hj; exact q3
    | 4, hj => cases hj; exact q4
    | 5, hj => cases hj; exact r0
    | 6, hj => cases hj; exact r1
    | 7, hj => cases hj; exact r2
    | 8, hj => cases hj; exact r3
    | 9, hj => cases hj; exact r4
    | j + 10, hj => simp at hj
  obtain ⟨v', w', hr, hown, hgrow, hnil⟩ := run_append_own (P := Try.prog) (w := W) lo 23 23 25 i0 _ 5 64 Try.underlying23 hi hz0 hz1 hz2 rfl (by decide) (.slice none 0 0) 0 [] (World.ownsRow_nil _ _ _ _) ⟨src, 0, none⟩ 2 2 [c0, c1, c2, c3, c4, d0, d1, d2, d3, d4] rfl hnews hs (by unfold maxLen; omega) (by omega) hB
  have hown2 := hown
  obtain ⟨_, ⟨_, h0⟩ | ⟨G, cap, cur, rfl, hG, _, hle, hm, _⟩⟩ := hown2
  · omega
  · have f : ∀ j, j < 10 → w'.cell? ⟨G, j, none⟩ = [c0, c1, c2, c3, c4, d0, d1, d2, d3, d4][j]? := fun j hj => by
      have := World.ownsRow.cellAt hown j (by omega)
      rwa [List.nil_append] at this
    unfold maxLen at hm
    exact ⟨G, cap, w', hr, hG, by omega, by omega, ⟨f 0 (by omega), f 1 (by omega), f 2 (by omega), f 3 (by omega), f 4 (by omega)⟩, ⟨f 5 (by omega), f 6 (by omega), f 7 (by omega), f 8 (by omega), f 9 (by omega)⟩, (Below.refl _ _).grown hgrow (Nat.le_refl _) (fun k hk => by cases hk)⟩
end Go.Proofs.Ytobblioplfpndaa
