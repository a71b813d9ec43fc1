/- The contract of read. -/
import Derived.Test.YtjmonkhkcmcfiaaXD
import Derived.Deep.DeepCutAuto
namespace Go.Proofs.Ytjmonkhkcmcfiaa
open Go.ChangeShapes Go.WideShapes Go.ChangeAt Go.RowKit
/-- The world while a value is read: its result's box, its own box at q, and the reader. -/
structure Mid (w W : World) (g h q : Nat) (l : List UInt8) (e : Int) (c0 c1 c2 c3 c4 : Value) : Prop where
  q0 : w.heap.size < q
  q1 : q < W.heap.size
  gw : g < w.heap.size
  hw : h < w.heap.size
  res : At5 W w.heap.size 0 (.int .i64 0) (.int .i64 0) (.int .u64 0) (.string ⟨#[]⟩) (.slice none 0 0)
  rfr : ∀ o, W.frozen? ⟨w.heap.size, o, none⟩ = false
  own : At5 W q 0 c0 c1 c2 c3 c4
  ofr : ∀ o, W.frozen? ⟨q, o, none⟩ = false
  st : St W g h l e
  kb : KB g w W
theorem Mid.step {w W w' : World} {g h q : Nat} {l l' : List UInt8} {e e' : Int} {c0 c1 c2 c3 c4 : Value} (m : Mid w W g h q l e c0 c1 c2 c3 c4) (s : St w' g h l' e') (k : KB g W w') : Mid w w' g h q l' e' c0 c1 c2 c3 c4 := by
  have a := m.q0
  have b := m.q1
  have c := m.gw
  refine ⟨a, Nat.lt_of_lt_of_le b k.2.2.2.1, c, m.hw, m.res.kb k (by omega), fun o => (k.frozen (a := ⟨w.heap.size, o, none⟩) (show w.heap.size < W.heap.size by omega) (show w.heap.size ≠ g by omega)).trans (m.rfr o), m.own.kb k (by omega), fun o => (k.frozen (a := ⟨q, o, none⟩) b (show q ≠ g by omega)).trans (m.ofr o), s, m.kb.trans k⟩
theorem cs5 (w : World) (B o o' : Nat) (u : Value) (h : o ≠ o') : (w.setCell ⟨B, o', none⟩ u).cell? ⟨B, o, none⟩ = w.cell? ⟨B, o, none⟩ :=
  World.cell?_setCell_other w _ _ u (fun e => h (by injection e with _ e2; exact e2.symm))
/-- What of a store into the own box holds whatever field it is. -/
theorem Mid.put {w W : World} {g h q i : Nat} {l : List UInt8} {e : Int} {c0 c1 c2 c3 c4 d0 d1 d2 d3 d4 : Value} (m : Mid w W g h q l e c0 c1 c2 c3 c4) (u : Value) (h5 : At5 (W.setCell ⟨q, i, none⟩ u) q 0 d0 d1 d2 d3 d4) : Mid w (W.setCell ⟨q, i, none⟩ u) g h q l e d0 d1 d2 d3 d4 := by
  have a := m.q0
  have b := m.q1
  have c := m.gw
  have d := m.hw
  have hb : ∀ B, B ≠ q → (W.setCell ⟨q, i, none⟩ u).heap[B]? = W.heap[B]? := fun B hB => Below.heap_setCell _ _ _ _ hB
  have hsz : (W.setCell ⟨q, i, none⟩ u).heap.size = W.heap.size := by simp [World.setCell]
  exact ⟨a, by rw [hsz]; exact b, c, d, m.res.keepB (hb _ (by omega)), fun o => (World.frozen?_setCell _ _ _ _).trans (m.rfr o), h5, fun o => (World.frozen?_setCell _ _ _ _).trans (m.ofr o), m.st.keep (by omega) (hb g (by omega)) (hb h (by omega)), kb_below m.kb ((KB.setCell q W i u).below (by omega) (by omega))⟩
theorem At5.set1 {W : World} {q : Nat} {c0 c1 c2 c3 c4 : Value} (h : At5 W q 0 c0 c1 c2 c3 c4) (u : Value) : At5 (W.setCell ⟨q, 1, none⟩ u) q 0 c0 u c2 c3 c4 :=
  ⟨(cs5 _ _ _ _ _ (by decide)).trans h.1, World.cell?_setCell_same _ _ _ h.2.1, (cs5 _ _ _ _ _ (by decide)).trans h.2.2.1, (cs5 _ _ _ _ _ (by decide)).trans h.2.2.2.1, (cs5 _ _ _ _ _ (by decide)).trans h.2.2.2.2⟩
theorem At5.set2 {W : World} {q : Nat} {c0 c1 c2 c3 c4 : Value} (h : At5 W q 0 c0 c1 c2 c3 c4) (u : Value) : At5 (W.setCell ⟨q, 2, none⟩ u) q 0 c0 c1 u c3 c4 :=
  ⟨(cs5 _ _ _ _ _ (by decide)).trans h.1, (cs5 _ _ _ _ _ (by decide)).trans h.2.1, World.cell?_setCell_same _ _ _ h.2.2.1, (cs5 _ _ _ _ _ (by decide)).trans h.2.2.2.1, (cs5 _ _ _ _ _ (by decide)).trans h.2.2.2.2⟩
theorem At5.set3 {W : World} {q : Nat} {c0 c1 c2 c3 c4 : Value} (h : At5 W q 0 c0 c1 c2 c3 c4) (u : Value) : At5 (W.setCell ⟨q, 3, none⟩ u) q 0 c0 c1 c2 u c4 :=
  ⟨(cs5 _ _ _ _ _ (by decide)).trans h.1, (cs5 _ _ _ _ _ (by decide)).trans h.2.1, (cs5 _ _ _ _ _ (by decide)).trans h.2.2.1, World.cell?_setCell_same _ _ _ h.2.2.2.1, (cs5 _ _ _ _ _ (by decide)).trans h.2.2.2.2⟩
theorem At5.set4 {W : World} {q : Nat} {c0 c1 c2 c3 c4 : Value} (h : At5 W q 0 c0 c1 c2 c3 c4) (u : Value) : At5 (W.setCell ⟨q, 4, none⟩ u) q 0 c0 c1 c2 c3 u :=
  ⟨(cs5 _ _ _ _ _ (by decide)).trans h.1, (cs5 _ _ _ _ _ (by decide)).trans h.2.1, (cs5 _ _ _ _ _ (by decide)).trans h.2.2.1, (cs5 _ _ _ _ _ (by decide)).trans h.2.2.2.1, World.cell?_setCell_same _ _ _ h.2.2.2.2⟩
/-- The beginning: two boxes. -/
theorem Mid.first {w w1 : World} {g h : Nat} {l : List UInt8} {e : Int} (k : Int) (hg : g < w.heap.size) (hh : h < w.heap.size) (s : St w1 g h l e) (kb : KB g (w.alloc (.cells #[.int .i64 0, .int .i64 0, .int .u64 0, .string ⟨#[]⟩, .slice none 0 0] 25)) w1) :
    Mid w (w1.alloc (.cells #[.int .i64 k, .int .i64 0, .int .u64 0, .string ⟨#[]⟩, .slice none 0 0] 25)) g h w1.heap.size l e (.int .i64 k) (.int .i64 0) (.int .u64 0) (.string ⟨#[]⟩) (.slice none 0 0) := by
  have hz : w.heap.size + 1 ≤ w1.heap.size := by have := kb.2.2.2.1; simpa using this
  have hz0 : w.heap.size < (w.alloc (.cells #[.int .i64 0, .int .i64 0, .int .u64 0, .string ⟨#[]⟩, .slice none 0 0] 25)).heap.size := by simp
  have r1 := (box_at w (.int .i64 0) (.int .i64 0) (.int .u64 0) (.string ⟨#[]⟩) (.slice none 0 0)).kb kb (by omega)
  refine ⟨by omega, by simp, hg, hh, r1.below (bel1 _ _), fun o => ((bel1 w1 _).frozen (show w.heap.size < w1.heap.size by omega)).trans ((kb.frozen (a := ⟨w.heap.size, o, none⟩) hz0 (show w.heap.size ≠ g by omega)).trans (fresh w _ o)), box_at w1 _ _ _ _ _, fun o => fresh w1 _ o, s.keep (by simp) ((bel1 w1 _).block g (by omega)) ((bel1 w1 _).block h (by omega)), ?_⟩
  refine kb_below (a := w1) ?_ ((bel1 w1 _).mono (by omega))
  exact ⟨kb.1, kb.2.1, kb.2.2.1, by omega, fun i hi hne => (kb.2.2.2.2 i (by simp; omega) hne).trans ((bel1 w _).block i hi)⟩
/-- The end: the own box goes into the result's. -/
theorem Mid.fin {w W : World} {g h q n : Nat} {l : List UInt8} {e : Int} {c0 c1 c2 c3 c4 : Value} {t : Tv} (m : Mid w W g h q l e c0 c1 c2 c3 c4) (hi : IsN (w.heap.size + 1) W n (.agg #[c0, c1, c2, c3, c4]) t) :
    RdP w g h n (t, l, e) (.returned (.agg #[c0, c1, c2, c3, c4])) (set5 W w.heap.size 0 c0 c1 c2 c3 c4) := by
  have a := m.q0
  have b := m.q1
  have c := m.gw
  have d := m.hw
  have kb := set5_kb W w.heap.size 0 c0 c1 c2 c3 c4
  exact ⟨_, rfl, (hi.kb kb (by omega)).lower (by omega), m.st.keep kb.2.2.2.1 (kb.2.2.2.2 g (by omega) (by omega)) (kb.2.2.2.2 h (by omega) (by omega)), kb_below m.kb (kb.below (Nat.le_refl _) (by omega))⟩
theorem flat_is {lo : Nat} {W : World} {n : Nat} {k x b : Int} {s : ByteArray} (hf : Fit k x b s 0 0) : IsN lo W (n + 1) (.agg #[.int .i64 k, .int .i64 x, .int .u64 b, .string s, .slice none 0 0]) (.mk k x b s []) :=
  ⟨none, 0, rfl, hf, fun i t h => by simp at h⟩
theorem sInt_rng (l : List UInt8) (e : Int) : -9223372036854775808 ≤ (sInt l e).1 ∧ (sInt l e).1 ≤ 9223372036854775807 := by
  unfold sInt
  have := val8_lt l
  split
  · split
    · simp
    · dsimp only; omega
  · simp
theorem sBits_rng (l : List UInt8) (e : Int) : (sBits l e).1 ≤ 18446744073709551615 := by
  unfold sBits
  have := val8_lt l
  split
  · split
    · simp
    · dsimp only; omega
  · simp
theorem sText_rng (l : List UInt8) (e : Int) : (sText 200 l e).1.length ≤ 200 := by
  unfold sText
  split
  · split
    · simp
    · have h0 : (sNum 200 l e).1 ≤ 200 := by
        unfold sNum
        split
        · split
          · split
            · simp
            · simp; omega
          · simp
        · simp
      dsimp only
      rw [List.length_take]
      omega
  · simp
set_option maxHeartbeats 1000000 in
set_option maxRecDepth 100000 in
theorem read1_calls (gl : List UInt8 → Int → List Tv × List UInt8 × Int) (d n : Nat) (hL : ListAt gl d n) : ReadAt (rd1 gl) d (n + 1) := by
  intro w g h l e r hh
  have hg := r.lt
  have NC := num_st (w.alloc (.cells #[.int .i64 0, .int .i64 0, .int .u64 0, .string ⟨#[]⟩, .slice none 0 0] 25)) g h l e 4 (r.keep (by simp) ((bel1 w _).block g hg) ((bel1 w _).block h hh))
  have n0 := sNum_nat 4 l e
  have nle : (sNum 4 l e).1 ≤ 4 := by
    unfold sNum
    split
    · split
      · split
        · simp
        · simp; omega
      · simp
    · simp
  unfold rd1
  generalize (sNum 4 l e).1 = k at NC n0 nle ⊢
  generalize (sNum 4 l e).2 = q2 at NC ⊢
  obtain ⟨l1, e1⟩ := q2
  dsimp only at NC ⊢
  have HL : Hid (ListAt gl d n) := hL
  have HGH : Hid (g < w.heap.size ∧ h < w.heap.size) := ⟨hg, hh⟩
  have HNC : Hid (Calls Try.prog 56 #[.pointer (some ⟨g, 0, none⟩), .int .i64 4] (w.alloc (.cells #[.int .i64 0, .int .i64 0, .int .u64 0, .string ⟨#[]⟩, .slice none 0 0] 25)) (Rs _ g h (.int .i64 k) l1 e1)) := NC
  have hk : k = 1 ∨ k = 2 ∨ k = 3 ∨ k = 4 ∨ k = 0 := by omega
  clear NC n0 nle r hL hg hh
  rcases hk with rfl | rfl | rfl | rfl | rfl
  · rw [if_pos rfl]
    have IR := sInt_rng l1 e1
    have IS := fun W (r : St W g h l1 e1) => int_st W g h l1 e1 r
    generalize (sInt l1 e1).1 = X at IR IS ⊢
    generalize (sInt l1 e1).2 = q2 at IS ⊢
    obtain ⟨l2, e2⟩ := q2
    dsimp only at IS ⊢
    have HIS : Hid (∀ W, St W g h l1 e1 → Calls Try.prog 100 #[.pointer (some ⟨g, 0, none⟩)] W (Rs W g h (.int .i64 X) l2 e2)) := IS
    have HIR : Hid (-9223372036854775808 ≤ X ∧ X ≤ 9223372036854775807) := IR
    clear IS IR
    go_enter Try.func93, Try.ntmps93
    go_wp2_with fail
    refine HNC.out.mono ?_
    rintro x w1 ⟨rfl, s1, k1⟩
    have M0 : Hid (Mid w (w1.alloc (.cells #[.int .i64 1, .int .i64 0, .int .u64 0, .string ⟨#[]⟩, .slice none 0 0] 25)) g h w1.heap.size l1 e1 (.int .i64 1) (.int .i64 0) (.int .u64 0) (.string ⟨#[]⟩) (.slice none 0 0)) := Mid.first 1 HGH.out.1 HGH.out.2 s1 k1
    obtain ⟨W2, hW2⟩ : ∃ W2, W2 = w1.alloc (.cells #[.int .i64 1, .int .i64 0, .int .u64 0, .string ⟨#[]⟩, .slice none 0 0] 25) := ⟨_, rfl⟩
    obtain ⟨q, hq⟩ : ∃ q, q = w1.heap.size := ⟨_, rfl⟩
    rw [← hW2, ← hq] at M0
    have HW2 : Hid (W2 = w1.alloc (.cells #[.int .i64 1, .int .i64 0, .int .u64 0, .string ⟨#[]⟩, .slice none 0 0] 25)) := hW2
    have HQ : Hid (q = w1.heap.size) := hq
    clear s1 k1 hW2 hq
    go_upto_region 2 with fail
    rw [← HW2.out, ← HQ.out]
    obtain ⟨o0, o1, o2, o3, o4⟩ := M0.out.own
    have CC : Hid (Calls Try.prog 100 #[.pointer (some ⟨g, 0, none⟩)] W2 (Rs W2 g h (.int .i64 X) l2 e2)) := HIS.out W2 M0.out.st
    go_wp2_with fail
    refine CC.out.mono ?_
    rintro x w3 ⟨rfl, s3, k3⟩
    have M3 : Hid (Mid w w3 g h q _ _ (.int .i64 1) (.int .i64 0) (.int .u64 0) (.string ⟨#[]⟩) (.slice none 0 0)) := M0.out.step s3 k3
    clear s3 k3 o0 o1 o2 o3 o4 CC
    obtain ⟨o0, o1, o2, o3, o4⟩ := M3.out.own
    have y := M3.out.ofr 1
    have M4 : Hid (Mid w (w3.setCell ⟨q, 1, none⟩ (.int .i64 X)) g h q _ _ (.int .i64 1) (.int .i64 X) (.int .u64 0) (.string ⟨#[]⟩) (.slice none 0 0)) := M3.out.put (.int .i64 X) (M3.out.own.set1 _)
    obtain ⟨W4, hW4⟩ : ∃ W4, W4 = w3.setCell ⟨q, 1, none⟩ (.int .i64 X) := ⟨_, rfl⟩
    rw [← hW4] at M4
    have HW4 : Hid (W4 = w3.setCell ⟨q, 1, none⟩ (.int .i64 X)) := hW4
    clear hW4
    go_upto_region 13 with fail
    rw [← HW4.out]
    clear o0 o1 o2 o3 o4 y
    obtain ⟨a0, a1, a2, a3, a4⟩ := M4.out.own
    obtain ⟨b0, b1, b2, b3, b4⟩ := M4.out.res
    have f0 := M4.out.rfr 0
    have f1 := M4.out.rfr 1
    have f2 := M4.out.rfr 2
    have f3 := M4.out.rfr 3
    have f4 := M4.out.rfr 4
    go_wp2_with fail
    refine bodyPost_ret (ret5 Try.results93 _ (g := w.heap.size) rfl (set5_at M4.out.res (.int .i64 1) (.int .i64 X) (.int .u64 0) (.string ⟨#[]⟩) (.slice none 0 0))) rfl ?_
    exact M4.out.fin (flat_is ⟨by decide, by decide, HIR.out.1, HIR.out.2, by decide, by decide, by decide, by decide, by decide⟩)
  · rw [if_neg (by decide), if_pos rfl]
    have IR := sBits_rng l1 e1
    have IS := fun W (r : St W g h l1 e1) => bits_st W g h l1 e1 r
    generalize (sBits l1 e1).1 = X at IR IS ⊢
    generalize (sBits l1 e1).2 = q2 at IS ⊢
    obtain ⟨l2, e2⟩ := q2
    dsimp only at IS ⊢
    have HIS : Hid (∀ W, St W g h l1 e1 → Calls Try.prog 84 #[.pointer (some ⟨g, 0, none⟩)] W (Rs W g h (.int .u64 (X : Int)) l2 e2)) := IS
    have HIR : Hid (X ≤ 18446744073709551615) := IR
    clear IS IR
    have CN : Hid (∀ W, Calls Try.prog 101 #[.int .u64 (X : Int)] W fun e w' => e = .returned (.int .u64 (cn X : Nat)) ∧ w' = W) := fun W => canon_calls X W
    obtain ⟨C, hC⟩ : ∃ C, C = cn X := ⟨_, rfl⟩
    rw [← hC] at CN ⊢
    by_cases hc : C = X
    · rw [if_pos hc]
      have dc : ((C : Int) != (X : Int)) = false := by rw [hc]; simp
      clear hc hC
      go_enter Try.func93, Try.ntmps93
      go_wp2_with fail
      refine HNC.out.mono ?_
      rintro x w1 ⟨rfl, s1, k1⟩
      have M0 : Hid (Mid w (w1.alloc (.cells #[.int .i64 2, .int .i64 0, .int .u64 0, .string ⟨#[]⟩, .slice none 0 0] 25)) g h w1.heap.size l1 e1 (.int .i64 2) (.int .i64 0) (.int .u64 0) (.string ⟨#[]⟩) (.slice none 0 0)) := Mid.first 2 HGH.out.1 HGH.out.2 s1 k1
      obtain ⟨W2, hW2⟩ : ∃ W2, W2 = w1.alloc (.cells #[.int .i64 2, .int .i64 0, .int .u64 0, .string ⟨#[]⟩, .slice none 0 0] 25) := ⟨_, rfl⟩
      obtain ⟨q, hq⟩ : ∃ q, q = w1.heap.size := ⟨_, rfl⟩
      rw [← hW2, ← hq] at M0
      have HW2 : Hid (W2 = w1.alloc (.cells #[.int .i64 2, .int .i64 0, .int .u64 0, .string ⟨#[]⟩, .slice none 0 0] 25)) := hW2
      have HQ : Hid (q = w1.heap.size) := hq
      clear s1 k1 hW2 hq
      go_upto_region 2 with fail
      rw [← HW2.out, ← HQ.out]
      obtain ⟨o0, o1, o2, o3, o4⟩ := M0.out.own
      have CC : Hid (Calls Try.prog 84 #[.pointer (some ⟨g, 0, none⟩)] W2 (Rs W2 g h (.int .u64 (X : Int)) l2 e2)) := HIS.out W2 M0.out.st
      go_wp2_with fail
      refine CC.out.mono ?_
      rintro x w3 ⟨rfl, s3, k3⟩
      have M3 : Hid (Mid w w3 g h q _ _ (.int .i64 2) (.int .i64 0) (.int .u64 0) (.string ⟨#[]⟩) (.slice none 0 0)) := M0.out.step s3 k3
      clear s3 k3 o0 o1 o2 o3 o4 CC
      obtain ⟨o0, o1, o2, o3, o4⟩ := M3.out.own
      have y := M3.out.ofr 2
      have M4 : Hid (Mid w (w3.setCell ⟨q, 2, none⟩ (.int .u64 (X : Int))) g h q _ _ (.int .i64 2) (.int .i64 0) (.int .u64 (X : Int)) (.string ⟨#[]⟩) (.slice none 0 0)) := M3.out.put (.int .u64 (X : Int)) (M3.out.own.set2 _)
      obtain ⟨W4, hW4⟩ : ∃ W4, W4 = w3.setCell ⟨q, 2, none⟩ (.int .u64 (X : Int)) := ⟨_, rfl⟩
      rw [← hW4] at M4
      have HW4 : Hid (W4 = w3.setCell ⟨q, 2, none⟩ (.int .u64 (X : Int))) := hW4
      clear hW4
      go_upto_region 7 with fail
      rw [← HW4.out]
      clear o0 o1 o2 o3 o4 y
      obtain ⟨o0, o1, o2, o3, o4⟩ := M4.out.own
      go_quiet ((go_at_call 101; exact Calls.quiet_of_same (CN.out _)))
      clear o0 o1 o2 o3 o4
      have MD : Hid (∀ k, Mid w (W4.drewN k) g h q l2 e2 (.int .i64 2) (.int .i64 0) (.int .u64 (X : Int)) (.string ⟨#[]⟩) (.slice none 0 0)) := fun k => M4.out.step (M4.out.st.keep (Nat.le_refl _) rfl rfl) (KB.of_below (belN W4 k))
      generalize hW5 : W4.drewN _ = W5
      have M5 : Hid (Mid w W5 g h q l2 e2 (.int .i64 2) (.int .i64 0) (.int .u64 (X : Int)) (.string ⟨#[]⟩) (.slice none 0 0)) := by rw [← hW5]; exact MD.out _
      clear hW5
      go_upto_region 13 with fail
      obtain ⟨a0, a1, a2, a3, a4⟩ := M5.out.own
      obtain ⟨b0, b1, b2, b3, b4⟩ := M5.out.res
      have f0 := M5.out.rfr 0
      have f1 := M5.out.rfr 1
      have f2 := M5.out.rfr 2
      have f3 := M5.out.rfr 3
      have f4 := M5.out.rfr 4
      go_wp2_with fail
      refine bodyPost_ret (ret5 Try.results93 _ (g := w.heap.size) rfl (set5_at M5.out.res (.int .i64 2) (.int .i64 0) (.int .u64 (X : Int)) (.string ⟨#[]⟩) (.slice none 0 0))) rfl ?_
      exact M5.out.fin (flat_is ⟨by decide, by decide, by decide, by decide, by omega, by have := HIR.out; omega, by decide, by decide, by decide⟩)
    · rw [if_neg hc]
      have dc : ((C : Int) != (X : Int)) = true := by simp; omega
      clear hc hC
      go_enter Try.func93, Try.ntmps93
      go_wp2_with fail
      refine HNC.out.mono ?_
      rintro x w1 ⟨rfl, s1, k1⟩
      have M0 : Hid (Mid w (w1.alloc (.cells #[.int .i64 2, .int .i64 0, .int .u64 0, .string ⟨#[]⟩, .slice none 0 0] 25)) g h w1.heap.size l1 e1 (.int .i64 2) (.int .i64 0) (.int .u64 0) (.string ⟨#[]⟩) (.slice none 0 0)) := Mid.first 2 HGH.out.1 HGH.out.2 s1 k1
      obtain ⟨W2, hW2⟩ : ∃ W2, W2 = w1.alloc (.cells #[.int .i64 2, .int .i64 0, .int .u64 0, .string ⟨#[]⟩, .slice none 0 0] 25) := ⟨_, rfl⟩
      obtain ⟨q, hq⟩ : ∃ q, q = w1.heap.size := ⟨_, rfl⟩
      rw [← hW2, ← hq] at M0
      have HW2 : Hid (W2 = w1.alloc (.cells #[.int .i64 2, .int .i64 0, .int .u64 0, .string ⟨#[]⟩, .slice none 0 0] 25)) := hW2
      have HQ : Hid (q = w1.heap.size) := hq
      clear s1 k1 hW2 hq
      go_upto_region 2 with fail
      rw [← HW2.out, ← HQ.out]
      obtain ⟨o0, o1, o2, o3, o4⟩ := M0.out.own
      have CC : Hid (Calls Try.prog 84 #[.pointer (some ⟨g, 0, none⟩)] W2 (Rs W2 g h (.int .u64 (X : Int)) l2 e2)) := HIS.out W2 M0.out.st
      go_wp2_with fail
      refine CC.out.mono ?_
      rintro x w3 ⟨rfl, s3, k3⟩
      have M3 : Hid (Mid w w3 g h q _ _ (.int .i64 2) (.int .i64 0) (.int .u64 0) (.string ⟨#[]⟩) (.slice none 0 0)) := M0.out.step s3 k3
      clear s3 k3 o0 o1 o2 o3 o4 CC
      obtain ⟨o0, o1, o2, o3, o4⟩ := M3.out.own
      have y := M3.out.ofr 2
      have M4 : Hid (Mid w (w3.setCell ⟨q, 2, none⟩ (.int .u64 (X : Int))) g h q _ _ (.int .i64 2) (.int .i64 0) (.int .u64 (X : Int)) (.string ⟨#[]⟩) (.slice none 0 0)) := M3.out.put (.int .u64 (X : Int)) (M3.out.own.set2 _)
      obtain ⟨W4, hW4⟩ : ∃ W4, W4 = w3.setCell ⟨q, 2, none⟩ (.int .u64 (X : Int)) := ⟨_, rfl⟩
      rw [← hW4] at M4
      have HW4 : Hid (W4 = w3.setCell ⟨q, 2, none⟩ (.int .u64 (X : Int))) := hW4
      clear hW4
      go_upto_region 7 with fail
      rw [← HW4.out]
      clear o0 o1 o2 o3 o4 y
      obtain ⟨o0, o1, o2, o3, o4⟩ := M4.out.own
      go_quiet ((go_at_call 101; exact Calls.quiet_of_same (CN.out _)))
      clear o0 o1 o2 o3 o4
      have MD : Hid (∀ k, Mid w (W4.drewN k) g h q l2 e2 (.int .i64 2) (.int .i64 0) (.int .u64 (X : Int)) (.string ⟨#[]⟩) (.slice none 0 0)) := fun k => M4.out.step (M4.out.st.keep (Nat.le_refl _) rfl rfl) (KB.of_below (belN W4 k))
      generalize hW5 : W4.drewN _ = W5
      have M5 : Hid (Mid w W5 g h q l2 e2 (.int .i64 2) (.int .i64 0) (.int .u64 (X : Int)) (.string ⟨#[]⟩) (.slice none 0 0)) := by rw [← hW5]; exact MD.out _
      clear hW5
      have FC : Hid (Calls Try.prog 81 #[.pointer (some ⟨g, 0, none⟩), .int .i64 3] W5 fun r w' => r = .returned (.tuple #[]) ∧ St w' g h (flL l2 e2) (flE e2 3) ∧ KB g W5 w') := by
        have := fail_st W5 g h l2 e2 3 M5.out.st
        rwa [fl_l l2 e2 3 (by decide), fl_e e2 3] at this
      go_wp2_with fail
      refine FC.out.mono ?_
      rintro x w6 ⟨rfl, s6, k6⟩
      have M6 : Hid (Mid w w6 g h q (flL l2 e2) (flE e2 3) (.int .i64 2) (.int .i64 0) (.int .u64 (X : Int)) (.string ⟨#[]⟩) (.slice none 0 0)) := M5.out.step s6 k6
      clear s6 k6 FC
      obtain ⟨a0, a1, a2, a3, a4⟩ := M6.out.own
      obtain ⟨b0, b1, b2, b3, b4⟩ := M6.out.res
      have f0 := M6.out.rfr 0
      have f1 := M6.out.rfr 1
      have f2 := M6.out.rfr 2
      have f3 := M6.out.rfr 3
      have f4 := M6.out.rfr 4
      go_wp2_with fail
      refine bodyPost_ret (ret5 Try.results93 _ (g := w.heap.size) rfl (set5_at M6.out.res (.int .i64 2) (.int .i64 0) (.int .u64 (X : Int)) (.string ⟨#[]⟩) (.slice none 0 0))) rfl ?_
      exact M6.out.fin (flat_is ⟨by decide, by decide, by decide, by decide, by omega, by have := HIR.out; omega, by decide, by decide, by decide⟩)
  · rw [if_neg (by decide), if_neg (by decide), if_pos rfl]
    have IR := sText_rng l1 e1
    have IS := fun W (r : St W g h l1 e1) => text_st W g h l1 e1 200 r
    generalize (sText 200 l1 e1).1 = X at IR IS ⊢
    generalize (sText 200 l1 e1).2 = q2 at IS ⊢
    obtain ⟨l2, e2⟩ := q2
    dsimp only at IS ⊢
    have HIS : Hid (∀ W, St W g h l1 e1 → Calls Try.prog 82 #[.pointer (some ⟨g, 0, none⟩), .int .i64 200] W (Rs W g h (.string (str X)) l2 e2)) := IS
    have HIR : Hid (X.length ≤ 200) := IR
    clear IS IR
    go_enter Try.func93, Try.ntmps93
    go_wp2_with fail
    refine HNC.out.mono ?_
    rintro x w1 ⟨rfl, s1, k1⟩
    have M0 : Hid (Mid w (w1.alloc (.cells #[.int .i64 3, .int .i64 0, .int .u64 0, .string ⟨#[]⟩, .slice none 0 0] 25)) g h w1.heap.size l1 e1 (.int .i64 3) (.int .i64 0) (.int .u64 0) (.string ⟨#[]⟩) (.slice none 0 0)) := Mid.first 3 HGH.out.1 HGH.out.2 s1 k1
    obtain ⟨W2, hW2⟩ : ∃ W2, W2 = w1.alloc (.cells #[.int .i64 3, .int .i64 0, .int .u64 0, .string ⟨#[]⟩, .slice none 0 0] 25) := ⟨_, rfl⟩
    obtain ⟨q, hq⟩ : ∃ q, q = w1.heap.size := ⟨_, rfl⟩
    rw [← hW2, ← hq] at M0
    have HW2 : Hid (W2 = w1.alloc (.cells #[.int .i64 3, .int .i64 0, .int .u64 0, .string ⟨#[]⟩, .slice none 0 0] 25)) := hW2
    have HQ : Hid (q = w1.heap.size) := hq
    clear s1 k1 hW2 hq
    go_upto_region 2 with fail
    rw [← HW2.out, ← HQ.out]
    obtain ⟨o0, o1, o2, o3, o4⟩ := M0.out.own
    have CC : Hid (Calls Try.prog 82 #[.pointer (some ⟨g, 0, none⟩), .int .i64 200] W2 (Rs W2 g h (.string (str X)) l2 e2)) := HIS.out W2 M0.out.st
    go_wp2_with fail
    refine CC.out.mono ?_
    rintro x w3 ⟨rfl, s3, k3⟩
    have M3 : Hid (Mid w w3 g h q _ _ (.int .i64 3) (.int .i64 0) (.int .u64 0) (.string ⟨#[]⟩) (.slice none 0 0)) := M0.out.step s3 k3
    clear s3 k3 o0 o1 o2 o3 o4 CC
    obtain ⟨o0, o1, o2, o3, o4⟩ := M3.out.own
    have y := M3.out.ofr 3
    have M4 : Hid (Mid w (w3.setCell ⟨q, 3, none⟩ (.string (str X))) g h q _ _ (.int .i64 3) (.int .i64 0) (.int .u64 0) (.string (str X)) (.slice none 0 0)) := M3.out.put (.string (str X)) (M3.out.own.set3 _)
    obtain ⟨W4, hW4⟩ : ∃ W4, W4 = w3.setCell ⟨q, 3, none⟩ (.string (str X)) := ⟨_, rfl⟩
    rw [← hW4] at M4
    have HW4 : Hid (W4 = w3.setCell ⟨q, 3, none⟩ (.string (str X))) := hW4
    clear hW4
    go_upto_region 13 with fail
    rw [← HW4.out]
    clear o0 o1 o2 o3 o4 y
    obtain ⟨a0, a1, a2, a3, a4⟩ := M4.out.own
    obtain ⟨b0, b1, b2, b3, b4⟩ := M4.out.res
    have f0 := M4.out.rfr 0
    have f1 := M4.out.rfr 1
    have f2 := M4.out.rfr 2
    have f3 := M4.out.rfr 3
    have f4 := M4.out.rfr 4
    go_wp2_with fail
    refine bodyPost_ret (ret5 Try.results93 _ (g := w.heap.size) rfl (set5_at M4.out.res (.int .i64 3) (.int .i64 0) (.int .u64 0) (.string (str X)) (.slice none 0 0))) rfl ?_
    exact M4.out.fin (flat_is ⟨by decide, by decide, by decide, by decide, by decide, by decide, by rw [str_size]; have := HIR.out; omega, by decide, by decide⟩)
  · rw [if_neg (by decide), if_neg (by decide), if_neg (by decide), if_pos rfl]
    have HL2 : Hid (∀ W, St W g h l1 e1 → h < W.heap.size → Calls Try.prog 102 #[.pointer (some ⟨g, 0, none⟩), .int .i64 (d : Int)] W (LsP W g h n (gl l1 e1))) := fun W s hh => HL.out W g h l1 e1 s hh
    generalize gl l1 e1 = G at HL2 ⊢
    obtain ⟨ts, l2, e2⟩ := G
    dsimp only
    go_enter Try.func93, Try.ntmps93
    go_wp2_with fail
    refine HNC.out.mono ?_
    rintro x w1 ⟨rfl, s1, k1⟩
    have M0 : Hid (Mid w (w1.alloc (.cells #[.int .i64 4, .int .i64 0, .int .u64 0, .string ⟨#[]⟩, .slice none 0 0] 25)) g h w1.heap.size l1 e1 (.int .i64 4) (.int .i64 0) (.int .u64 0) (.string ⟨#[]⟩) (.slice none 0 0)) := Mid.first 4 HGH.out.1 HGH.out.2 s1 k1
    obtain ⟨W2, hW2⟩ : ∃ W2, W2 = w1.alloc (.cells #[.int .i64 4, .int .i64 0, .int .u64 0, .string ⟨#[]⟩, .slice none 0 0] 25) := ⟨_, rfl⟩
    obtain ⟨q, hq⟩ : ∃ q, q = w1.heap.size := ⟨_, rfl⟩
    rw [← hW2, ← hq] at M0
    have HW2 : Hid (W2 = w1.alloc (.cells #[.int .i64 4, .int .i64 0, .int .u64 0, .string ⟨#[]⟩, .slice none 0 0] 25)) := hW2
    have HQ : Hid (q = w1.heap.size) := hq
    clear s1 k1 hW2 hq
    go_upto_region 2 with fail
    rw [← HW2.out, ← HQ.out]
    obtain ⟨o0, o1, o2, o3, o4⟩ := M0.out.own
    have LC : Hid (Calls Try.prog 102 #[.pointer (some ⟨g, 0, none⟩), .int .i64 (d : Int)] W2 (LsP W2 g h n (ts, l2, e2))) := HL2.out W2 M0.out.st (by have := M0.out.hw; have := M0.out.q0; have := M0.out.q1; omega)
    go_wp2_with fail
    refine LC.out.mono ?_
    rintro x w3 ⟨la, lc, rfl, hlc, hlm, hrow, s3, k3⟩
    dsimp only at hlc hlm hrow s3 ⊢
    have M3 : Hid (Mid w w3 g h q l2 e2 (.int .i64 4) (.int .i64 0) (.int .u64 0) (.string ⟨#[]⟩) (.slice none 0 0)) := M0.out.step s3 k3
    have HRow : Hid (RowN W2.heap.size (IsN W2.heap.size w3 n) w3 la ts) := hrow
    have HLC : Hid (ts.length ≤ lc ∧ lc ≤ 9223372036854775807) := ⟨hlc, hlm⟩
    obtain ⟨L, hLn⟩ : ∃ L, L = ts.length := ⟨_, rfl⟩
    rw [← hLn]
    have HLn : Hid (L = ts.length) := hLn
    clear s3 k3 o0 o1 o2 o3 o4 LC hlc hlm hrow hLn
    obtain ⟨o0, o1, o2, o3, o4⟩ := M3.out.own
    have y := M3.out.ofr 4
    have M4 : Hid (Mid w (w3.setCell ⟨q, 4, none⟩ (.slice la L lc)) g h q l2 e2 (.int .i64 4) (.int .i64 0) (.int .u64 0) (.string ⟨#[]⟩) (.slice la L lc)) := M3.out.put _ (M3.out.own.set4 _)
    have I4 : Hid (IsN (w.heap.size + 1) (w3.setCell ⟨q, 4, none⟩ (.slice la L lc)) (n + 1) (.agg #[.int .i64 4, .int .i64 0, .int .u64 0, .string ⟨#[]⟩, .slice la L lc]) (.mk 4 0 0 ⟨#[]⟩ ts)) := by
      rw [HLn.out]
      have hq1 := M0.out.q1
      have hq0 := M0.out.q0
      refine ⟨la, lc, rfl, ⟨by decide, by decide, by decide, by decide, by decide, by decide, by decide, HLC.out.1, HLC.out.2⟩, fun i t ht => ?_⟩
      obtain ⟨B, o, d0, d1, d2, d3, d4, ha, hB, h5, hn⟩ := (HRow.out.kb (KB.setCell q w3 4 (.slice la ts.length lc)) hq1) i t ht
      exact ⟨B, o, d0, d1, d2, d3, d4, ha, by omega, h5, hn.lower (by omega)⟩
    obtain ⟨W4, hW4⟩ : ∃ W4, W4 = w3.setCell ⟨q, 4, none⟩ (.slice la L lc) := ⟨_, rfl⟩
    rw [← hW4] at M4 I4
    have HW4 : Hid (W4 = w3.setCell ⟨q, 4, none⟩ (.slice la L lc)) := hW4
    clear hW4
    go_upto_region 13 with fail
    rw [← HW4.out]
    clear o0 o1 o2 o3 o4 y
    obtain ⟨a0, a1, a2, a3, a4⟩ := M4.out.own
    obtain ⟨b0, b1, b2, b3, b4⟩ := M4.out.res
    have f0 := M4.out.rfr 0
    have f1 := M4.out.rfr 1
    have f2 := M4.out.rfr 2
    have f3 := M4.out.rfr 3
    have f4 := M4.out.rfr 4
    go_wp2_with fail
    refine bodyPost_ret (ret5 Try.results93 _ (g := w.heap.size) rfl (set5_at M4.out.res (.int .i64 4) (.int .i64 0) (.int .u64 0) (.string ⟨#[]⟩) (.slice la L lc))) rfl ?_
    exact M4.out.fin I4.out
  · rw [if_neg (by decide), if_neg (by decide), if_neg (by decide), if_neg (by decide)]
    go_enter Try.func93, Try.ntmps93
    go_wp2_with fail
    refine HNC.out.mono ?_
    rintro x w1 ⟨rfl, s1, k1⟩
    have M0 : Hid (Mid w (w1.alloc (.cells #[.int .i64 0, .int .i64 0, .int .u64 0, .string ⟨#[]⟩, .slice none 0 0] 25)) g h w1.heap.size l1 e1 (.int .i64 0) (.int .i64 0) (.int .u64 0) (.string ⟨#[]⟩) (.slice none 0 0)) := Mid.first 0 HGH.out.1 HGH.out.2 s1 k1
    obtain ⟨W2, hW2⟩ : ∃ W2, W2 = w1.alloc (.cells #[.int .i64 0, .int .i64 0, .int .u64 0, .string ⟨#[]⟩, .slice none 0 0] 25) := ⟨_, rfl⟩
    obtain ⟨q, hq⟩ : ∃ q, q = w1.heap.size := ⟨_, rfl⟩
    rw [← hW2, ← hq] at M0
    have HW2 : Hid (W2 = w1.alloc (.cells #[.int .i64 0, .int .i64 0, .int .u64 0, .string ⟨#[]⟩, .slice none 0 0] 25)) := hW2
    have HQ : Hid (q = w1.heap.size) := hq
    clear s1 k1 hW2 hq
    go_upto_region 2 with fail
    rw [← HW2.out, ← HQ.out]
    obtain ⟨o0, o1, o2, o3, o4⟩ := M0.out.own
    clear o0 o1 o2 o3 o4
    obtain ⟨a0, a1, a2, a3, a4⟩ := M0.out.own
    obtain ⟨b0, b1, b2, b3, b4⟩ := M0.out.res
    have f0 := M0.out.rfr 0
    have f1 := M0.out.rfr 1
    have f2 := M0.out.rfr 2
    have f3 := M0.out.rfr 3
    have f4 := M0.out.rfr 4
    go_wp2_with fail
    refine bodyPost_ret (ret5 Try.results93 _ (g := w.heap.size) rfl (set5_at M0.out.res (.int .i64 0) (.int .i64 0) (.int .u64 0) (.string ⟨#[]⟩) (.slice none 0 0))) rfl ?_
    exact M0.out.fin (flat_is ⟨by decide, by decide, by decide, by decide, by decide, by decide, by decide, by decide, by decide⟩)
theorem read_calls : ∀ d, d ≤ 4 → ReadAt (rdV d) d (d + 1) := by
  intro d
  induction d with
  | zero => intro _; exact read1_calls _ 0 0 (list0_calls 0)
  | succ d ih => intro hd; exact read1_calls _ (d + 1) (d + 1) (list_calls (rdV d) d (d + 1) (by omega) (ih (by omega)))
end Go.Proofs.Ytjmonkhkcmcfiaa
