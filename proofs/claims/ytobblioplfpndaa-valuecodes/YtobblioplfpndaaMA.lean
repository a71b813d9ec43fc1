/- ValueCodes: the reference's reading and writing of values, the walk (ZC, ZD, ZE, ZF, ZA, ZB, ZG, ZH). -/
import Derived.Test.YtobblioplfpndaaMB
import Derived.Test.YtobblioplfpndaaMC
import Derived.Test.YtobblioplfpndaaFT2
import Derived.Deep.RegionLaw
import Derived.Test.YtobblioplfpndaaPP
import Derived.Test.YtobblioplfpndaaYF
namespace Go.Proofs.Ytobblioplfpndaa
open Go.ChangeShapes Go.WideShapes Go.ChangeAt Go.RowKit
/-- The reference's reader stays, while its two blocks do. -/
theorem RT.keep {w w' : World} {g h : Nat} {l : List UInt8} {e : Int} (r : RT w g h l e) (h1 : w'.heap[g]? = w.heap[g]?) (h2 : w'.heap[h]? = w.heap[h]?) : RT w' g h l e := by
  have fg : ∀ o, w'.cell? ⟨g, o, none⟩ = w.cell? ⟨g, o, none⟩ := fun o => World.cell?_of_block h1
  have fh : ∀ o, w'.cell? ⟨h, o, none⟩ = w.cell? ⟨h, o, none⟩ := fun o => World.cell?_of_block h2
  have zg : ∀ o, w'.frozen? ⟨g, o, none⟩ = w.frozen? ⟨g, o, none⟩ := fun o => World.frozen?_of_block h1
  obtain ⟨p, c, a0, a1, f0, f1, hl, hg, hb, he⟩ := r
  refine ⟨p, c, (fg 0).trans a0, (fg 1).trans a1, (zg 0).trans f0, (zg 1).trans f1, hl, hg, fun hne => ?_, he⟩
  obtain ⟨o, hp, hcell⟩ := hb hne
  exact ⟨o, hp, fun i x hx => (fh _).trans (hcell i x hx)⟩
theorem RT.lt {w : World} {g h : Nat} {l : List UInt8} {e : Int} (r : RT w g h l e) : g < w.heap.size := by
  obtain ⟨p, c, a0, _⟩ := r
  exact World.block_lt_of_cell? w ⟨g, 0, none⟩ a0
/-- What reading a value leaves, of the reference's reader. -/
def RdX (w : World) (g h n : Nat) (r : Tv × List UInt8 × Int) (x : Ending) (w' : World) : Prop :=
  ∃ v, x = .returned v ∧ IsN w.heap.size w' n v r.1 ∧ RT w' g h r.2.1 r.2.2 ∧ KB g w w'
/-- The same; behind an error some value. -/
def RdQ (w : World) (g h n : Nat) (r : Tv × List UInt8 × Int) (x : Ending) (w' : World) : Prop :=
  ∃ v t, x = .returned v ∧ IsN w.heap.size w' n v t ∧ (r.2.2 = 0 → t = r.1) ∧ RT w' g h r.2.1 r.2.2 ∧ KB g w w'
def ReadR (f : List UInt8 → Int → Tv × List UInt8 × Int) (d n : Nat) : Prop := ∀ (w : World) (g h : Nat) (l : List UInt8) (e : Int), RT w g h l e → h < w.heap.size →
    Calls Try.prog 61 #[.pointer (some ⟨g, 0, none⟩), .int .i64 (d : Int)] w (RdQ w g h n (f l e))
theorem RdX.q {w : World} {g h n : Nat} {r : Tv × List UInt8 × Int} {x : Ending} {w' : World} (hx : RdX w g h n r x w') : RdQ w g h n r x w' := by
  obtain ⟨v, e, i, s, k⟩ := hx
  exact ⟨v, _, e, i, fun _ => rfl, s, k⟩
/-- The world while a value is read: its result's box, its own box at q, and the reader. -/
structure MidR (w W : World) (g h q : Nat) (l : List UInt8) (e : Int) (c0 c1 c2 c3 c4 : Value) : Prop where
  q0 : w.heap.size < q
  q1 : q < W.heap.size
  gw : g < w.heap.size
  hw : h < w.heap.size
  res : At5 W w.heap.size 0 (.int .i64 0) (.int .i64 0) (.int .u64 0) (.string ⟨#[]⟩) (.slice none 0 0)
  rfr : ∀ o, W.frozen? ⟨w.heap.size, o, none⟩ = false
  own : At5 W q 0 c0 c1 c2 c3 c4
  ofr : ∀ o, W.frozen? ⟨q, o, none⟩ = false
  st : RT W g h l e
  kb : KB g w W
theorem MidR.step {w W w' : World} {g h q : Nat} {l l' : List UInt8} {e e' : Int} {c0 c1 c2 c3 c4 : Value} (m : MidR w W g h q l e c0 c1 c2 c3 c4) (s : RT w' g h l' e') (k : KB g W w') : MidR w w' g h q l' e' c0 c1 c2 c3 c4 := by
  have a := m.q0
  have b := m.q1
  have c := m.gw
  refine ⟨a, Nat.lt_of_lt_of_le b k.2.2.2.1, c, m.hw, m.res.kb k (by omega), fun o => (k.frozen (a := ⟨w.heap.size, o, none⟩) (show w.heap.size < W.heap.size by omega) (show w.heap.size ≠ g by omega)).trans (m.rfr o), m.own.kb k (by omega), fun o => (k.frozen (a := ⟨q, o, none⟩) b (show q ≠ g by omega)).trans (m.ofr o), s, m.kb.trans k⟩
/-- What of a store into the own box holds whatever field it is. -/
theorem MidR.put {w W : World} {g h q i : Nat} {l : List UInt8} {e : Int} {c0 c1 c2 c3 c4 d0 d1 d2 d3 d4 : Value} (m : MidR w W g h q l e c0 c1 c2 c3 c4) (u : Value) (h5 : At5 (W.setCell ⟨q, i, none⟩ u) q 0 d0 d1 d2 d3 d4) : MidR w (W.setCell ⟨q, i, none⟩ u) g h q l e d0 d1 d2 d3 d4 := by
  have a := m.q0
  have b := m.q1
  have c := m.gw
  have d := m.hw
  have hb : ∀ B, B ≠ q → (W.setCell ⟨q, i, none⟩ u).heap[B]? = W.heap[B]? := fun B hB => Below.heap_setCell _ _ _ _ hB
  have hsz : (W.setCell ⟨q, i, none⟩ u).heap.size = W.heap.size := by simp [World.setCell]
  exact ⟨a, by rw [hsz]; exact b, c, d, m.res.keepB (hb _ (by omega)), fun o => (World.frozen?_setCell _ _ _ _).trans (m.rfr o), h5, fun o => (World.frozen?_setCell _ _ _ _).trans (m.ofr o), m.st.keep (hb g (by omega)) (hb h (by omega)), kb_below m.kb ((KB.setCell q W i u).below (by omega) (by omega))⟩
/-- The beginning: two boxes. -/
theorem MidR.first {w w1 : World} {g h : Nat} {l : List UInt8} {e : Int} (k : Int) (hg : g < w.heap.size) (hh : h < w.heap.size) (s : RT w1 g h l e) (kb : KB g (w.alloc (.cells #[.int .i64 0, .int .i64 0, .int .u64 0, .string ⟨#[]⟩, .slice none 0 0] 25)) w1) :
    MidR w (w1.alloc (.cells #[.int .i64 k, .int .i64 0, .int .u64 0, .string ⟨#[]⟩, .slice none 0 0] 25)) g h w1.heap.size l e (.int .i64 k) (.int .i64 0) (.int .u64 0) (.string ⟨#[]⟩) (.slice none 0 0) := by
  have hz : w.heap.size + 1 ≤ w1.heap.size := by have := kb.2.2.2.1; simpa using this
  have hz0 : w.heap.size < (w.alloc (.cells #[.int .i64 0, .int .i64 0, .int .u64 0, .string ⟨#[]⟩, .slice none 0 0] 25)).heap.size := by simp
  have r1 := (box_at w (.int .i64 0) (.int .i64 0) (.int .u64 0) (.string ⟨#[]⟩) (.slice none 0 0)).kb kb (by omega)
  refine ⟨by omega, by simp, hg, hh, r1.below (bel1 _ _), fun o => ((bel1 w1 _).frozen (show w.heap.size < w1.heap.size by omega)).trans ((kb.frozen (a := ⟨w.heap.size, o, none⟩) hz0 (show w.heap.size ≠ g by omega)).trans (fresh w _ o)), box_at w1 _ _ _ _ _, fun o => fresh w1 _ o, s.keep ((bel1 w1 _).block g (by omega)) ((bel1 w1 _).block h (by omega)), ?_⟩
  refine kb_below (a := w1) ?_ ((bel1 w1 _).mono (by omega))
  exact ⟨kb.1, kb.2.1, kb.2.2.1, by omega, fun i hi hne => (kb.2.2.2.2 i (by simp; omega) hne).trans ((bel1 w _).block i hi)⟩
/-- The end: the own box goes into the result's. -/
theorem MidR.finX {w W : World} {g h q n : Nat} {l : List UInt8} {e : Int} {c0 c1 c2 c3 c4 : Value} {t : Tv} (m : MidR w W g h q l e c0 c1 c2 c3 c4) (hi : IsN (w.heap.size + 1) W n (.agg #[c0, c1, c2, c3, c4]) t) :
    RdX w g h n (t, l, e) (.returned (.agg #[c0, c1, c2, c3, c4])) (set5 W w.heap.size 0 c0 c1 c2 c3 c4) := by
  have a := m.q0
  have b := m.q1
  have c := m.gw
  have d := m.hw
  have kb := set5_kb W w.heap.size 0 c0 c1 c2 c3 c4
  exact ⟨_, rfl, (hi.kb kb (by omega)).lower (by omega), m.st.keep (kb.2.2.2.2 g (by omega) (by omega)) (kb.2.2.2.2 h (by omega) (by omega)), kb_below m.kb (kb.below (Nat.le_refl _) (by omega))⟩
theorem MidR.fin {w W : World} {g h q n : Nat} {l : List UInt8} {e : Int} {c0 c1 c2 c3 c4 : Value} {t : Tv} (m : MidR w W g h q l e c0 c1 c2 c3 c4) (hi : IsN (w.heap.size + 1) W n (.agg #[c0, c1, c2, c3, c4]) t) :
    RdQ w g h n (t, l, e) (.returned (.agg #[c0, c1, c2, c3, c4])) (set5 W w.heap.size 0 c0 c1 c2 c3 c4) := (m.finX hi).q
set_option maxHeartbeats 1000000 in
set_option maxRecDepth 100000 in
theorem rread_flat (gl : List UInt8 → Int → List Tv × List UInt8 × Int) (d : Int) (n : Nat) (w : World) (g h : Nat) (l : List UInt8) (e : Int) (r : RT w g h l e) (hh : h < w.heap.size) (h4 : (sNum 4 l e).1 ≠ 4) :
    Calls Try.prog 61 #[.pointer (some ⟨g, 0, none⟩), .int .i64 d] w (RdQ w g h (n + 1) (rd1 gl l e)) := by
  have hg := r.lt
  have NC := rnum_rt (w.alloc (.cells #[.int .i64 0, .int .i64 0, .int .u64 0, .string ⟨#[]⟩, .slice none 0 0] 25)) g h l e 4 (r.keep ((bel1 w _).block g hg) ((bel1 w _).block h hh))
  have n0 := sNum_nat 4 l e
  have nle : (sNum 4 l e).1 ≤ 4 := by
    unfold sNum
    split
    · split
      · split
        · simp
        · simp; omega
      · simp
    · simp
  unfold rd1
  generalize (sNum 4 l e).1 = k at NC n0 nle h4 ⊢
  generalize (sNum 4 l e).2 = q2 at NC ⊢
  obtain ⟨l1, e1⟩ := q2
  dsimp only at NC ⊢
  have HGH : Hid (g < w.heap.size ∧ h < w.heap.size) := ⟨hg, hh⟩
  have HNC : Hid (Calls Try.prog 85 #[.pointer (some ⟨g, 0, none⟩), .int .i64 4] (w.alloc (.cells #[.int .i64 0, .int .i64 0, .int .u64 0, .string ⟨#[]⟩, .slice none 0 0] 25)) (Rr _ g h (.int .i64 k) l1 e1)) := NC
  have hk : k = 1 ∨ k = 2 ∨ k = 3 ∨ k = 0 := by omega
  clear NC n0 nle r hg hh h4
  rcases hk with rfl | rfl | rfl | rfl
  · rw [if_pos rfl]
    have IR := sInt_rng l1 e1
    have IS := fun W (r : RT W g h l1 e1) => rint_rt W g h l1 e1 r
    generalize (sInt l1 e1).1 = X at IR IS ⊢
    generalize (sInt l1 e1).2 = q2 at IS ⊢
    obtain ⟨l2, e2⟩ := q2
    dsimp only at IS ⊢
    have HIS : Hid (∀ W, RT W g h l1 e1 → Calls Try.prog 86 #[.pointer (some ⟨g, 0, none⟩)] W (Rr W g h (.int .i64 X) l2 e2)) := IS
    have HIR : Hid (-9223372036854775808 ≤ X ∧ X ≤ 9223372036854775807) := IR
    clear IS IR
    go_enter Try.func61, Try.ntmps61
    go_wp2_with fail
    refine HNC.out.mono ?_
    rintro x w1 ⟨rfl, s1, k1⟩
    have M0 : Hid (MidR w (w1.alloc (.cells #[.int .i64 1, .int .i64 0, .int .u64 0, .string ⟨#[]⟩, .slice none 0 0] 25)) g h w1.heap.size l1 e1 (.int .i64 1) (.int .i64 0) (.int .u64 0) (.string ⟨#[]⟩) (.slice none 0 0)) := MidR.first 1 HGH.out.1 HGH.out.2 s1 k1
    obtain ⟨W2, hW2⟩ : ∃ W2, W2 = w1.alloc (.cells #[.int .i64 1, .int .i64 0, .int .u64 0, .string ⟨#[]⟩, .slice none 0 0] 25) := ⟨_, rfl⟩
    obtain ⟨q, hq⟩ : ∃ q, q = w1.heap.size := ⟨_, rfl⟩
    rw [← hW2, ← hq] at M0
    have HW2 : Hid (W2 = w1.alloc (.cells #[.int .i64 1, .int .i64 0, .int .u64 0, .string ⟨#[]⟩, .slice none 0 0] 25)) := hW2
    have HQ : Hid (q = w1.heap.size) := hq
    clear s1 k1 hW2 hq
    go_upto_region 2 with fail
    rw [← HW2.out, ← HQ.out]
    obtain ⟨o0, o1, o2, o3, o4⟩ := M0.out.own
    have CC : Hid (Calls Try.prog 86 #[.pointer (some ⟨g, 0, none⟩)] W2 (Rr W2 g h (.int .i64 X) l2 e2)) := HIS.out W2 M0.out.st
    go_wp2_with fail
    refine CC.out.mono ?_
    rintro x w3 ⟨rfl, s3, k3⟩
    have M3 : Hid (MidR w w3 g h q _ _ (.int .i64 1) (.int .i64 0) (.int .u64 0) (.string ⟨#[]⟩) (.slice none 0 0)) := M0.out.step s3 k3
    clear s3 k3 o0 o1 o2 o3 o4 CC
    obtain ⟨o0, o1, o2, o3, o4⟩ := M3.out.own
    have y := M3.out.ofr 1
    have M4 : Hid (MidR w (w3.setCell ⟨q, 1, none⟩ (.int .i64 X)) g h q _ _ (.int .i64 1) (.int .i64 X) (.int .u64 0) (.string ⟨#[]⟩) (.slice none 0 0)) := M3.out.put (.int .i64 X) (M3.out.own.set1 _)
    obtain ⟨W4, hW4⟩ : ∃ W4, W4 = w3.setCell ⟨q, 1, none⟩ (.int .i64 X) := ⟨_, rfl⟩
    rw [← hW4] at M4
    have HW4 : Hid (W4 = w3.setCell ⟨q, 1, none⟩ (.int .i64 X)) := hW4
    clear hW4
    go_upto_region 19 with fail
    rw [← HW4.out]
    clear o0 o1 o2 o3 o4 y
    obtain ⟨a0, a1, a2, a3, a4⟩ := M4.out.own
    obtain ⟨b0, b1, b2, b3, b4⟩ := M4.out.res
    have f0 := M4.out.rfr 0
    have f1 := M4.out.rfr 1
    have f2 := M4.out.rfr 2
    have f3 := M4.out.rfr 3
    have f4 := M4.out.rfr 4
    go_wp2_with fail
    refine bodyPost_ret (ret5 Try.results61 _ (g := w.heap.size) rfl (set5_at M4.out.res (.int .i64 1) (.int .i64 X) (.int .u64 0) (.string ⟨#[]⟩) (.slice none 0 0))) rfl ?_
    exact M4.out.fin (flat_is ⟨by decide, by decide, HIR.out.1, HIR.out.2, by decide, by decide, by decide, by decide, by decide⟩)
  · rw [if_neg (by decide), if_pos rfl]
    have IR := sBits_rng l1 e1
    have IS := fun W (r : RT W g h l1 e1) => rbits_rt W g h l1 e1 r
    generalize (sBits l1 e1).1 = X at IR IS ⊢
    generalize (sBits l1 e1).2 = q2 at IS ⊢
    obtain ⟨l2, e2⟩ := q2
    dsimp only at IS ⊢
    have HIS : Hid (∀ W, RT W g h l1 e1 → Calls Try.prog 87 #[.pointer (some ⟨g, 0, none⟩)] W (Rr W g h (.int .u64 (X : Int)) l2 e2)) := IS
    have HIR : Hid (X ≤ 18446744073709551615) := IR
    clear IS IR
    have CN : Hid (∀ W, Calls Try.prog 41 #[.int .u64 (X : Int)] W fun e w' => e = .returned (.int .u64 (cn X : Nat)) ∧ w' = W) := fun W => refCanon_calls X W
    obtain ⟨C, hC⟩ : ∃ C, C = cn X := ⟨_, rfl⟩
    rw [← hC] at CN ⊢
    by_cases hc : C = X
    · rw [if_pos hc]
      have dc : ((X : Int) != (C : Int)) = false := by rw [hc]; simp
      clear hc hC
      go_enter Try.func61, Try.ntmps61
      go_wp2_with fail
      refine HNC.out.mono ?_
      rintro x w1 ⟨rfl, s1, k1⟩
      have M0 : Hid (MidR w (w1.alloc (.cells #[.int .i64 2, .int .i64 0, .int .u64 0, .string ⟨#[]⟩, .slice none 0 0] 25)) g h w1.heap.size l1 e1 (.int .i64 2) (.int .i64 0) (.int .u64 0) (.string ⟨#[]⟩) (.slice none 0 0)) := MidR.first 2 HGH.out.1 HGH.out.2 s1 k1
      obtain ⟨W2, hW2⟩ : ∃ W2, W2 = w1.alloc (.cells #[.int .i64 2, .int .i64 0, .int .u64 0, .string ⟨#[]⟩, .slice none 0 0] 25) := ⟨_, rfl⟩
      obtain ⟨q, hq⟩ : ∃ q, q = w1.heap.size := ⟨_, rfl⟩
      rw [← hW2, ← hq] at M0
      have HW2 : Hid (W2 = w1.alloc (.cells #[.int .i64 2, .int .i64 0, .int .u64 0, .string ⟨#[]⟩, .slice none 0 0] 25)) := hW2
      have HQ : Hid (q = w1.heap.size) := hq
      clear s1 k1 hW2 hq
      go_upto_region 2 with fail
      rw [← HW2.out, ← HQ.out]
      obtain ⟨o0, o1, o2, o3, o4⟩ := M0.out.own
      have CC : Hid (Calls Try.prog 87 #[.pointer (some ⟨g, 0, none⟩)] W2 (Rr W2 g h (.int .u64 (X : Int)) l2 e2)) := HIS.out W2 M0.out.st
      go_wp2_with fail
      refine CC.out.mono ?_
      rintro x w3 ⟨rfl, s3, k3⟩
      have M3 : Hid (MidR w w3 g h q _ _ (.int .i64 2) (.int .i64 0) (.int .u64 0) (.string ⟨#[]⟩) (.slice none 0 0)) := M0.out.step s3 k3
      clear s3 k3 o0 o1 o2 o3 o4 CC
      obtain ⟨o0, o1, o2, o3, o4⟩ := M3.out.own
      have y := M3.out.ofr 2
      have M4 : Hid (MidR w (w3.setCell ⟨q, 2, none⟩ (.int .u64 (X : Int))) g h q _ _ (.int .i64 2) (.int .i64 0) (.int .u64 (X : Int)) (.string ⟨#[]⟩) (.slice none 0 0)) := M3.out.put (.int .u64 (X : Int)) (M3.out.own.set2 _)
      obtain ⟨W4, hW4⟩ : ∃ W4, W4 = w3.setCell ⟨q, 2, none⟩ (.int .u64 (X : Int)) := ⟨_, rfl⟩
      rw [← hW4] at M4
      have HW4 : Hid (W4 = w3.setCell ⟨q, 2, none⟩ (.int .u64 (X : Int))) := hW4
      clear hW4
      go_upto_region 7 with fail
      rw [← HW4.out]
      clear o0 o1 o2 o3 o4 y
      obtain ⟨o0, o1, o2, o3, o4⟩ := M4.out.own
      go_quiet ((go_at_call 41; exact Calls.quiet_of_same (CN.out _)))
      clear o0 o1 o2 o3 o4
      have MD : Hid (∀ k, MidR w (W4.drewN k) g h q l2 e2 (.int .i64 2) (.int .i64 0) (.int .u64 (X : Int)) (.string ⟨#[]⟩) (.slice none 0 0)) := fun k => M4.out.step (M4.out.st.keep rfl rfl) (KB.of_below (belN W4 k))
      generalize hW5 : W4.drewN _ = W5
      have M5 : Hid (MidR w W5 g h q l2 e2 (.int .i64 2) (.int .i64 0) (.int .u64 (X : Int)) (.string ⟨#[]⟩) (.slice none 0 0)) := by rw [← hW5]; exact MD.out _
      clear hW5
      go_upto_region 19 with fail
      obtain ⟨a0, a1, a2, a3, a4⟩ := M5.out.own
      obtain ⟨b0, b1, b2, b3, b4⟩ := M5.out.res
      have f0 := M5.out.rfr 0
      have f1 := M5.out.rfr 1
      have f2 := M5.out.rfr 2
      have f3 := M5.out.rfr 3
      have f4 := M5.out.rfr 4
      go_wp2_with fail
      refine bodyPost_ret (ret5 Try.results61 _ (g := w.heap.size) rfl (set5_at M5.out.res (.int .i64 2) (.int .i64 0) (.int .u64 (X : Int)) (.string ⟨#[]⟩) (.slice none 0 0))) rfl ?_
      exact M5.out.fin (flat_is ⟨by decide, by decide, by decide, by decide, by omega, by have := HIR.out; omega, by decide, by decide, by decide⟩)
    · rw [if_neg hc]
      have dc : ((X : Int) != (C : Int)) = true := by simp; omega
      clear hc hC
      go_enter Try.func61, Try.ntmps61
      go_wp2_with fail
      refine HNC.out.mono ?_
      rintro x w1 ⟨rfl, s1, k1⟩
      have M0 : Hid (MidR w (w1.alloc (.cells #[.int .i64 2, .int .i64 0, .int .u64 0, .string ⟨#[]⟩, .slice none 0 0] 25)) g h w1.heap.size l1 e1 (.int .i64 2) (.int .i64 0) (.int .u64 0) (.string ⟨#[]⟩) (.slice none 0 0)) := MidR.first 2 HGH.out.1 HGH.out.2 s1 k1
      obtain ⟨W2, hW2⟩ : ∃ W2, W2 = w1.alloc (.cells #[.int .i64 2, .int .i64 0, .int .u64 0, .string ⟨#[]⟩, .slice none 0 0] 25) := ⟨_, rfl⟩
      obtain ⟨q, hq⟩ : ∃ q, q = w1.heap.size := ⟨_, rfl⟩
      rw [← hW2, ← hq] at M0
      have HW2 : Hid (W2 = w1.alloc (.cells #[.int .i64 2, .int .i64 0, .int .u64 0, .string ⟨#[]⟩, .slice none 0 0] 25)) := hW2
      have HQ : Hid (q = w1.heap.size) := hq
      clear s1 k1 hW2 hq
      go_upto_region 2 with fail
      rw [← HW2.out, ← HQ.out]
      obtain ⟨o0, o1, o2, o3, o4⟩ := M0.out.own
      have CC : Hid (Calls Try.prog 87 #[.pointer (some ⟨g, 0, none⟩)] W2 (Rr W2 g h (.int .u64 (X : Int)) l2 e2)) := HIS.out W2 M0.out.st
      go_wp2_with fail
      refine CC.out.mono ?_
      rintro x w3 ⟨rfl, s3, k3⟩
      have M3 : Hid (MidR w w3 g h q _ _ (.int .i64 2) (.int .i64 0) (.int .u64 0) (.string ⟨#[]⟩) (.slice none 0 0)) := M0.out.step s3 k3
      clear s3 k3 o0 o1 o2 o3 o4 CC
      obtain ⟨o0, o1, o2, o3, o4⟩ := M3.out.own
      have y := M3.out.ofr 2
      have M4 : Hid (MidR w (w3.setCell ⟨q, 2, none⟩ (.int .u64 (X : Int))) g h q _ _ (.int .i64 2) (.int .i64 0) (.int .u64 (X : Int)) (.string ⟨#[]⟩) (.slice none 0 0)) := M3.out.put (.int .u64 (X : Int)) (M3.out.own.set2 _)
      obtain ⟨W4, hW4⟩ : ∃ W4, W4 = w3.setCell ⟨q, 2, none⟩ (.int .u64 (X : Int)) := ⟨_, rfl⟩
      rw [← hW4] at M4
      have HW4 : Hid (W4 = w3.setCell ⟨q, 2, none⟩ (.int .u64 (X : Int))) := hW4
      clear hW4
      go_upto_region 7 with fail
      rw [← HW4.out]
      clear o0 o1 o2 o3 o4 y
      obtain ⟨o0, o1, o2, o3, o4⟩ := M4.out.own
      go_quiet ((go_at_call 41; exact Calls.quiet_of_same (CN.out _)))
      clear o0 o1 o2 o3 o4
      have MD : Hid (∀ k, MidR w (W4.drewN k) g h q l2 e2 (.int .i64 2) (.int .i64 0) (.int .u64 (X : Int)) (.string ⟨#[]⟩) (.slice none 0 0)) := fun k => M4.out.step (M4.out.st.keep rfl rfl) (KB.of_below (belN W4 k))
      generalize hW5 : W4.drewN _ = W5
      have M5 : Hid (MidR w W5 g h q l2 e2 (.int .i64 2) (.int .i64 0) (.int .u64 (X : Int)) (.string ⟨#[]⟩) (.slice none 0 0)) := by rw [← hW5]; exact MD.out _
      clear hW5
      have FC : Hid (Calls Try.prog 62 #[.pointer (some ⟨g, 0, none⟩), .int .i64 3] W5 fun r w' => r = .returned (.tuple #[]) ∧ RT w' g h (flL l2 e2) (flE e2 3) ∧ KB g W5 w') := by
        have := rfail_rt W5 g h l2 e2 3 M5.out.st
        rwa [fl_l l2 e2 3 (by decide), fl_e e2 3] at this
      go_wp2_with fail
      refine FC.out.mono ?_
      rintro x w6 ⟨rfl, s6, k6⟩
      have M6 : Hid (MidR w w6 g h q (flL l2 e2) (flE e2 3) (.int .i64 2) (.int .i64 0) (.int .u64 (X : Int)) (.string ⟨#[]⟩) (.slice none 0 0)) := M5.out.step s6 k6
      clear s6 k6 FC
      obtain ⟨a0, a1, a2, a3, a4⟩ := M6.out.own
      obtain ⟨b0, b1, b2, b3, b4⟩ := M6.out.res
      have f0 := M6.out.rfr 0
      have f1 := M6.out.rfr 1
      have f2 := M6.out.rfr 2
      have f3 := M6.out.rfr 3
      have f4 := M6.out.rfr 4
      go_wp2_with fail
      refine bodyPost_ret (ret5 Try.results61 _ (g := w.heap.size) rfl (set5_at M6.out.res (.int .i64 2) (.int .i64 0) (.int .u64 (X : Int)) (.string ⟨#[]⟩) (.slice none 0 0))) rfl ?_
      exact M6.out.fin (flat_is ⟨by decide, by decide, by decide, by decide, by omega, by have := HIR.out; omega, by decide, by decide, by decide⟩)
  · rw [if_neg (by decide), if_neg (by decide), if_pos rfl]
    have IR := sText_rng l1 e1
    have IS := fun W (r : RT W g h l1 e1) => rtext_rt W g h l1 e1 200 r
    generalize (sText 200 l1 e1).1 = X at IR IS ⊢
    generalize (sText 200 l1 e1).2 = q2 at IS ⊢
    obtain ⟨l2, e2⟩ := q2
    dsimp only at IS ⊢
    have HIS : Hid (∀ W, RT W g h l1 e1 → Calls Try.prog 88 #[.pointer (some ⟨g, 0, none⟩), .int .i64 200] W (Rr W g h (.string (str X)) l2 e2)) := IS
    have HIR : Hid (X.length ≤ 200) := IR
    clear IS IR
    go_enter Try.func61, Try.ntmps61
    go_wp2_with fail
    refine HNC.out.mono ?_
    rintro x w1 ⟨rfl, s1, k1⟩
    have M0 : Hid (MidR w (w1.alloc (.cells #[.int .i64 3, .int .i64 0, .int .u64 0, .string ⟨#[]⟩, .slice none 0 0] 25)) g h w1.heap.size l1 e1 (.int .i64 3) (.int .i64 0) (.int .u64 0) (.string ⟨#[]⟩) (.slice none 0 0)) := MidR.first 3 HGH.out.1 HGH.out.2 s1 k1
    obtain ⟨W2, hW2⟩ : ∃ W2, W2 = w1.alloc (.cells #[.int .i64 3, .int .i64 0, .int .u64 0, .string ⟨#[]⟩, .slice none 0 0] 25) := ⟨_, rfl⟩
    obtain ⟨q, hq⟩ : ∃ q, q = w1.heap.size := ⟨_, rfl⟩
    rw [← hW2, ← hq] at M0
    have HW2 : Hid (W2 = w1.alloc (.cells #[.int .i64 3, .int .i64 0, .int .u64 0, .string ⟨#[]⟩, .slice none 0 0] 25)) := hW2
    have HQ : Hid (q = w1.heap.size) := hq
    clear s1 k1 hW2 hq
    go_upto_region 2 with fail
    rw [← HW2.out, ← HQ.out]
    obtain ⟨o0, o1, o2, o3, o4⟩ := M0.out.own
    have CC : Hid (Calls Try.prog 88 #[.pointer (some ⟨g, 0, none⟩), .int .i64 200] W2 (Rr W2 g h (.string (str X)) l2 e2)) := HIS.out W2 M0.out.st
    go_wp2_with fail
    refine CC.out.mono ?_
    rintro x w3 ⟨rfl, s3, k3⟩
    have M3 : Hid (MidR w w3 g h q _ _ (.int .i64 3) (.int .i64 0) (.int .u64 0) (.string ⟨#[]⟩) (.slice none 0 0)) := M0.out.step s3 k3
    clear s3 k3 o0 o1 o2 o3 o4 CC
    obtain ⟨o0, o1, o2, o3, o4⟩ := M3.out.own
    have y := M3.out.ofr 3
    have M4 : Hid (MidR w (w3.setCell ⟨q, 3, none⟩ (.string (str X))) g h q _ _ (.int .i64 3) (.int .i64 0) (.int .u64 0) (.string (str X)) (.slice none 0 0)) := M3.out.put (.string (str X)) (M3.out.own.set3 _)
    obtain ⟨W4, hW4⟩ : ∃ W4, W4 = w3.setCell ⟨q, 3, none⟩ (.string (str X)) := ⟨_, rfl⟩
    rw [← hW4] at M4
    have HW4 : Hid (W4 = w3.setCell ⟨q, 3, none⟩ (.string (str X))) := hW4
    clear hW4
    go_upto_region 19 with fail
    rw [← HW4.out]
    clear o0 o1 o2 o3 o4 y
    obtain ⟨a0, a1, a2, a3, a4⟩ := M4.out.own
    obtain ⟨b0, b1, b2, b3, b4⟩ := M4.out.res
    have f0 := M4.out.rfr 0
    have f1 := M4.out.rfr 1
    have f2 := M4.out.rfr 2
    have f3 := M4.out.rfr 3
    have f4 := M4.out.rfr 4
    go_wp2_with fail
    refine bodyPost_ret (ret5 Try.results61 _ (g := w.heap.size) rfl (set5_at M4.out.res (.int .i64 3) (.int .i64 0) (.int .u64 0) (.string (str X)) (.slice none 0 0))) rfl ?_
    exact M4.out.fin (flat_is ⟨by decide, by decide, by decide, by decide, by decide, by decide, by rw [str_size]; have := HIR.out; omega, by decide, by decide⟩)
  · rw [if_neg (by decide), if_neg (by decide), if_neg (by decide), if_neg (by decide)]
    go_enter Try.func61, Try.ntmps61
    go_wp2_with fail
    refine HNC.out.mono ?_
    rintro x w1 ⟨rfl, s1, k1⟩
    have M0 : Hid (MidR w (w1.alloc (.cells #[.int .i64 0, .int .i64 0, .int .u64 0, .string ⟨#[]⟩, .slice none 0 0] 25)) g h w1.heap.size l1 e1 (.int .i64 0) (.int .i64 0) (.int .u64 0) (.string ⟨#[]⟩) (.slice none 0 0)) := MidR.first 0 HGH.out.1 HGH.out.2 s1 k1
    obtain ⟨W2, hW2⟩ : ∃ W2, W2 = w1.alloc (.cells #[.int .i64 0, .int .i64 0, .int .u64 0, .string ⟨#[]⟩, .slice none 0 0] 25) := ⟨_, rfl⟩
    obtain ⟨q, hq⟩ : ∃ q, q = w1.heap.size := ⟨_, rfl⟩
    rw [← hW2, ← hq] at M0
    have HW2 : Hid (W2 = w1.alloc (.cells #[.int .i64 0, .int .i64 0, .int .u64 0, .string ⟨#[]⟩, .slice none 0 0] 25)) := hW2
    have HQ : Hid (q = w1.heap.size) := hq
    clear s1 k1 hW2 hq
    go_upto_region 2 with fail
    rw [← HW2.out, ← HQ.out]
    obtain ⟨o0, o1, o2, o3, o4⟩ := M0.out.own
    clear o0 o1 o2 o3 o4
    obtain ⟨a0, a1, a2, a3, a4⟩ := M0.out.own
    obtain ⟨b0, b1, b2, b3, b4⟩ := M0.out.res
    have f0 := M0.out.rfr 0
    have f1 := M0.out.rfr 1
    have f2 := M0.out.rfr 2
    have f3 := M0.out.rfr 3
    have f4 := M0.out.rfr 4
    go_wp2_with fail
    refine bodyPost_ret (ret5 Try.results61 _ (g := w.heap.size) rfl (set5_at M0.out.res (.int .i64 0) (.int .i64 0) (.int .u64 0) (.string ⟨#[]⟩) (.slice none 0 0))) rfl ?_
    exact M0.out.fin (flat_is ⟨by decide, by decide, by decide, by decide, by decide, by decide, by decide, by decide, by decide⟩)
end Go.Proofs.Ytobblioplfpndaa
namespace Go.Proofs.Ytobblioplfpndaa
open Go.ChangeShapes Go.WideShapes Go.ChangeAt Go.RowKit
/-- append with a known run, as a step of a region that draws its order. -/
theorem step_app_run {P : Program} {ops : Array Oper} {o : Oper} {a : Act} {w : World} {K : Act → World → Prop} {Q : Exit → Act → World → Prop} {E : Prop}
    (hg : o.guard = none) (s x : Operand) (t : TypeId) (hop : o.op = Op.call { callee := Callee.builtin Builtin.append, args := #[s, x], argTypes := #[t, t] })
    (vs vx : Value) (hs : a.eval s = vs) (hx : a.eval x = vx) {v' : Value} {w' : World} (hr : ∀ ty, (Builtin.append_ #[t, t] ty #[vs, vx]).run P w = .ok v' w') (hK : K (a.put o.dst v') w') :
    if Region.wanted o (yielded ops a.tmps) = true then Oper.wp P o a w K Q else E := by
  have hw : Region.wanted o (yielded ops a.tmps) = true := by simp [Region.wanted, hg]
  rw [if_pos hw]
  have hrun := hr o.type
  unfold Oper.wp
  simp [execOp, hop, resolve, invoke, builtin, hs, hx, hrun, Result.andThen]
  exact hK
theorem num_top {m : Int} (hm : 0 ≤ m) (l : List UInt8) (e : Int) : (sNum m l e).1 ≤ m := by
  unfold sNum
  split
  · split
    · split
      · simpa using hm
      · simp; omega
    · simpa using hm
  · simpa using hm
set_option maxHeartbeats 1000000 in
set_option maxRecDepth 100000 in
theorem rread_zero (n : Nat) (w : World) (g h : Nat) (l : List UInt8) (e : Int) (r : RT w g h l e) (hh : h < w.heap.size) (h4 : (sNum 4 l e).1 = 4) :
    Calls Try.prog 61 #[.pointer (some ⟨g, 0, none⟩), .int .i64 0] w (RdQ w g h (n + 1) (rd1 (fun l e => ([], flL l e, flE e 5)) l e)) := by
  have hg := r.lt
  have NC := rnum_rt (w.alloc (.cells #[.int .i64 0, .int .i64 0, .int .u64 0, .string ⟨#[]⟩, .slice none 0 0] 25)) g h l e 4 (r.keep ((bel1 w _).block g hg) ((bel1 w _).block h hh))
  unfold rd1
  generalize (sNum 4 l e).1 = k at NC h4 ⊢
  generalize (sNum 4 l e).2 = q2 at NC ⊢
  obtain ⟨l1, e1⟩ := q2
  subst h4
  dsimp only at NC ⊢
  have HGH : Hid (g < w.heap.size ∧ h < w.heap.size) := ⟨hg, hh⟩
  have HNC : Hid (Calls Try.prog 85 #[.pointer (some ⟨g, 0, none⟩), .int .i64 4] (w.alloc (.cells #[.int .i64 0, .int .i64 0, .int .u64 0, .string ⟨#[]⟩, .slice none 0 0] 25)) (Rr _ g h (.int .i64 4) l1 e1)) := NC
  clear NC r hg hh
  rw [if_neg (by decide), if_neg (by decide), if_neg (by decide), if_pos rfl]
  have hE := flE_ne (e := e1) (f := 5) (by decide)
  have HN2 : Hid (∀ W, RT W g h (flL l1 e1) (flE e1 5) → Calls Try.prog 85 #[.pointer (some ⟨g, 0, none⟩), .int .i64 12] W (Rr W g h (.int .i64 0) (flL l1 e1) (flE e1 5))) := fun W r => by
    have := rnum_rt W g h _ _ 12 r
    have hz : sNum 12 (flL l1 e1) (flE e1 5) = (0, flL l1 e1, flE e1 5) := by unfold sNum; rw [if_neg hE]
    rwa [hz] at this
  clear hE
  go_enter Try.func61, Try.ntmps61
  go_wp2_with fail
  refine HNC.out.mono ?_
  rintro x w1 ⟨rfl, s1, k1⟩
  have M0 : Hid (MidR w (w1.alloc (.cells #[.int .i64 4, .int .i64 0, .int .u64 0, .string ⟨#[]⟩, .slice none 0 0] 25)) g h w1.heap.size l1 e1 (.int .i64 4) (.int .i64 0) (.int .u64 0) (.string ⟨#[]⟩) (.slice none 0 0)) := MidR.first 4 HGH.out.1 HGH.out.2 s1 k1
  obtain ⟨W2, hW2⟩ : ∃ W2, W2 = w1.alloc (.cells #[.int .i64 4, .int .i64 0, .int .u64 0, .string ⟨#[]⟩, .slice none 0 0] 25) := ⟨_, rfl⟩
  obtain ⟨q, hq⟩ : ∃ q, q = w1.heap.size := ⟨_, rfl⟩
  rw [← hW2, ← hq] at M0
  have HW2 : Hid (W2 = w1.alloc (.cells #[.int .i64 4, .int .i64 0, .int .u64 0, .string ⟨#[]⟩, .slice none 0 0] 25)) := hW2
  have HQ : Hid (q = w1.heap.size) := hq
  clear s1 k1 hW2 hq
  go_upto_region 2 with fail
  rw [← HW2.out, ← HQ.out]
  obtain ⟨o0, o1, o2, o3, o4⟩ := M0.out.own
  have FC : Hid (Calls Try.prog 62 #[.pointer (some ⟨g, 0, none⟩), .int .i64 5] W2 fun r w' => r = .returned (.tuple #[]) ∧ RT w' g h (flL l1 e1) (flE e1 5) ∧ KB g W2 w') := by
    have := rfail_rt W2 g h l1 e1 5 M0.out.st
    rwa [fl_l l1 e1 5 (by decide), fl_e e1 5] at this
  go_wp2_with fail
  refine FC.out.mono ?_
  rintro x w3 ⟨rfl, s3, k3⟩
  have M3 : Hid (MidR w w3 g h q _ _ (.int .i64 4) (.int .i64 0) (.int .u64 0) (.string ⟨#[]⟩) (.slice none 0 0)) := M0.out.step s3 k3
  clear s3 k3 o0 o1 o2 o3 o4 FC
  have NC2 : Hid (Calls _ _ _ w3 _) := HN2.out w3 M3.out.st
  go_wp2_with fail
  refine NC2.out.mono ?_
  rintro x w4 ⟨rfl, s4, k4⟩
  have M4 : Hid (MidR w w4 g h q _ _ (.int .i64 4) (.int .i64 0) (.int .u64 0) (.string ⟨#[]⟩) (.slice none 0 0)) := M3.out.step s4 k4
  clear s4 k4 NC2
  go_wp2_with fail
  go_loopw [7] (fun i wr => i = .int .i64 0 ∧ wr = w4) (fun _ _ => 0)
  case atStart => exact ⟨rfl, rfl⟩
  case round =>
    obtain ⟨rfl, hwr⟩ := hrel
    subst hwr
    go_upto_region 19 with fail
    obtain ⟨a0, a1, a2, a3, a4⟩ := M4.out.own
    obtain ⟨b0, b1, b2, b3, b4⟩ := M4.out.res
    have f0 := M4.out.rfr 0
    have f1 := M4.out.rfr 1
    have f2 := M4.out.rfr 2
    have f3 := M4.out.rfr 3
    have f4 := M4.out.rfr 4
    go_wp2_with fail
    refine bodyPost_ret (ret5 Try.results61 _ (g := w.heap.size) rfl (set5_at M4.out.res (.int .i64 4) (.int .i64 0) (.int .u64 0) (.string ⟨#[]⟩) (.slice none 0 0))) rfl ?_
    exact M4.out.fin (flat_is ⟨by decide, by decide, by decide, by decide, by decide, by decide, by decide, by decide, by decide⟩)
/-- Where the reference's loop over a list stands. -/
def LpI (f : List UInt8 → Int → Tv × List UInt8 × Int) (N : Nat) (R : List Tv × List UInt8 × Int) (j : Nat) (acc : List Tv) (lj : List UInt8) (ej : Int) : Prop :=
  (ej = 0 → R = jn acc (rdN f (N - j) lj 0)) ∧ (ej ≠ 0 → R = ([], lj, ej))
theorem LpI.first {f : List UInt8 → Int → Tv × List UInt8 × Int} {N : Nat} {l1 : List UInt8} {e1 : Int} (h : N = 0 ∨ e1 = 0) : LpI f N (rdN f N l1 e1) 0 [] l1 e1 := by
  refine ⟨fun h0 => ?_, fun h0 => ?_⟩
  · subst h0
    rw [Nat.sub_zero, jn_nil]
  · obtain rfl : N = 0 := h.resolve_right h0
    rfl
theorem LpI.more {f : List UInt8 → Int → Tv × List UInt8 × Int} {N j : Nat} {R : List Tv × List UInt8 × Int} {acc : List Tv} {lj : List UInt8} {t : Tv} (h : LpI f N R j acc lj 0) (hj : j < N) (ht : (f lj 0).2.2 = 0 → t = (f lj 0).1) : LpI f N R (j + 1) (acc ++ [t]) (f lj 0).2.1 (f lj 0).2.2 := by
  obtain ⟨m, hm⟩ : ∃ m, N - j = m + 1 := ⟨N - j - 1, by omega⟩
  have h1 := h.1 rfl
  rw [hm] at h1
  have hm2 : N - (j + 1) = m := by omega
  refine ⟨fun h0 => ?_, fun h0 => ?_⟩
  · rw [h1, jn_more acc m lj h0, ht h0, hm2]
  · rw [h1, jn_end acc m lj h0]
theorem LpI.done {f : List UInt8 → Int → Tv × List UInt8 × Int} {N : Nat} {R : List Tv × List UInt8 × Int} {acc : List Tv} {lj : List UInt8} {ej : Int} (h : LpI f N R N acc lj ej) : R.2 = (lj, ej) ∧ (ej = 0 → acc = R.1) := by
  by_cases h0 : ej = 0
  · subst h0
    have h1 := h.1 rfl
    rw [Nat.sub_self] at h1
    have : R = (acc, lj, 0) := by rw [h1]; simp [jn, rdN]
    rw [this]
    exact ⟨rfl, fun _ => rfl⟩
  · rw [h.2 h0]
    exact ⟨rfl, fun h => absurd h h0⟩
theorem LpI.err {f : List UInt8 → Int → Tv × List UInt8 × Int} {N j : Nat} {R : List Tv × List UInt8 × Int} {acc : List Tv} {lj : List UInt8} {ej : Int} (h : LpI f N R j acc lj ej) (h0 : ej ≠ 0) : R.2 = (lj, ej) ∧ (ej = 0 → acc = R.1) := by
  rw [h.2 h0]
  exact ⟨rfl, fun h => absurd h h0⟩
/-- The end of a list: the own box, with the list in it, goes into the result's. -/
theorem MidR.finL {w W : World} {g h q n : Nat} {l : List UInt8} {e : Int} {ua : Option Addr} {un uc : Nat} {acc : List Tv} {R : List Tv × List UInt8 × Int} (m : MidR w W g h q l e (.int .i64 4) (.int .i64 0) (.int .u64 0) (.string ⟨#[]⟩) (.slice ua un uc)) (hv : Vs (q + 1) n W (.slice ua un uc) acc) (hR : R.2 = (l, e) ∧ (e = 0 → acc = R.1)) :
    RdQ w g h (n + 1) (.mk 4 0 0 ⟨#[]⟩ R.1, R.2) (.returned (.agg #[.int .i64 4, .int .i64 0, .int .u64 0, .string ⟨#[]⟩, .slice ua un uc])) (set5 W w.heap.size 0 (.int .i64 4) (.int .i64 0) (.int .u64 0) (.string ⟨#[]⟩) (.slice ua un uc)) := by
  have hq0 := m.q0
  obtain ⟨a, c, hs, hc1, hc2⟩ := hv.shape
  cases hs
  have hi : IsN (w.heap.size + 1) W (n + 1) (.agg #[.int .i64 4, .int .i64 0, .int .u64 0, .string ⟨#[]⟩, .slice ua acc.length uc]) (.mk 4 0 0 ⟨#[]⟩ acc) := by
    refine ⟨ua, uc, rfl, ⟨by decide, by decide, by decide, by decide, by decide, by decide, by decide, hc1, hc2⟩, fun i t ht => ?_⟩
    obtain ⟨B, o, d0, d1, d2, d3, d4, ha, hB, h5, hn⟩ := hv.row i t ht
    exact ⟨B, o, d0, d1, d2, d3, d4, ha, by omega, h5, hn.lower (by omega)⟩
  obtain ⟨v, e1, i1, s1, k1⟩ := m.finX hi
  exact ⟨v, _, e1, i1, fun h0 => by dsimp only at h0 ⊢; rw [hR.1] at h0; rw [hR.2 h0], by dsimp only; rw [hR.1]; exact s1, k1⟩
/-- One round of the loop: a value more is read, and appended. -/
structure RlS (w w2 w3 : World) (g h q n : Nat) (l2 : List UInt8) (e2 : Int) (ua : Option Addr) (un uc : Nat) (c0 c1 c2 c3 c4 : Value) (ua' : Option Addr) (un' uc' : Nat) (acc : List Tv) : Prop where
  run : ∀ ty, (Builtin.append_ #[23, 23] ty #[.slice ua un uc, .slice (some ⟨w2.heap.size, 0, none⟩) 1 1]).run Try.prog (w2.alloc (.cells #[c0, c1, c2, c3, c4] 25)) = .ok (.slice ua' un' uc') w3
  old : w3.cell? ⟨q, 4, none⟩ = some (.slice ua un uc)
  frz : w3.frozen? ⟨q, 4, none⟩ = false
  mid : MidR w (w3.setCell ⟨q, 4, none⟩ (.slice ua' un' uc')) g h q l2 e2 (.int .i64 4) (.int .i64 0) (.int .u64 0) (.string ⟨#[]⟩) (.slice ua' un' uc')
  vs : Vs (q + 1) n (w3.setCell ⟨q, 4, none⟩ (.slice ua' un' uc')) (.slice ua' un' uc') acc
theorem rlist_step {w wr w2 : World} {g h q n : Nat} {lj l2 : List UInt8} {e2 : Int} {ua : Option Addr} {un uc : Nat} {acc : List Tv} {t2 : Tv} {vk vx vb : Int} {vs : ByteArray} {va : Option Addr} {vm vc : Nat}
    (m : MidR w wr g h q lj 0 (.int .i64 4) (.int .i64 0) (.int .u64 0) (.string ⟨#[]⟩) (.slice ua un uc)) (hv : Vs (q + 1) n wr (.slice ua un uc) acc)
    (hi2 : IsN wr.drew.heap.size w2 n (.agg #[.int .i64 vk, .int .i64 vx, .int .u64 vb, .string vs, .slice va vm vc]) t2) (hs2 : RT w2 g h l2 e2) (hk2 : KB g wr.drew w2) (hl : acc.length ≤ 1000) :
    ∃ ua' un' uc' w3, RlS w w2 w3 g h q n l2 e2 ua un uc (.int .i64 vk) (.int .i64 vx) (.int .u64 vb) (.string vs) (.slice va vm vc) ua' un' uc' (acc ++ [t2]) := by
  have q0 := m.q0
  have q1 := m.q1
  have gw := m.gw
  have hw := m.hw
  have hk : KB g wr w2 := (KB.of_below (Below.refl _ wr).drew).trans hk2
  have hz2 : wr.heap.size ≤ w2.heap.size := hk.2.2.2.1
  have hvs2 : Vs (q + 1) n w2 (.slice ua un uc) acc := hv.keep (fun B h1 h2 => hk.2.2.2.2 B h2 (by omega))
  have hVW : Vs (q + 1) n (w2.alloc (.cells #[.int .i64 vk, .int .i64 vx, .int .u64 vb, .string vs, .slice va vm vc] 25)) (.slice ua un uc) acc := hvs2.keep (fun B _ h2 => (bel1 w2 _).block B h2)
  have hlto : ∀ B, (Value.slice ua un uc).ownBlock = some B → B < wr.heap.size := fun B hB => by obtain ⟨cells, ho, _⟩ := hv; exact (World.ownsRow.lt ho B hB).2
  have hq : IsQ (fun B => q + 1 ≤ B ∧ (Value.slice ua un uc).ownBlock ≠ some B) w2 n (.agg #[.int .i64 vk, .int .i64 vx, .int .u64 vb, .string vs, .slice va vm vc]) t2 := hi2.isQ (fun B h1 _ => by
    have h1' : wr.heap.size ≤ B := h1
    exact ⟨by omega, fun e => by have := hlto B e; omega⟩)
  obtain ⟨u', w3, hr3, hv3, hb3, hk3⟩ := vapp_run (src := w2.heap.size) hVW (box_at w2 _ _ _ _ _) (by intro z hz; simp only [List.mem_cons, List.not_mem_nil, or_false] at hz; rcases hz with rfl | rfl | rfl | rfl | rfl <;> rfl) (hq.keep (fun B hB hl => ⟨(bel1 w2 _).block B hl, hB⟩)) (by simp; omega) hl
  obtain ⟨ua', un', uc', rfl⟩ : ∃ a n c, u' = .slice a n c := by obtain ⟨a, c, h, _⟩ := hv3.shape; exact ⟨_, _, _, h⟩
  have hgo : ∀ B, B ≤ q → w3.heap[B]? = w2.heap[B]? := fun B hB => (hb3.block B (by omega)).trans ((bel1 w2 _).block B (by omega))
  have s3 : RT w3 g h l2 e2 := hs2.keep (hgo g (by omega)) (hgo h (by omega))
  have m2 := m.step hs2 hk
  have k3 : KB g w w3 := kb_below m2.kb (((bel1 w2 _).mono (by omega)).trans (hb3.mono (by omega)))
  have hs3 : w2.heap.size ≤ w3.heap.size := by have := hb3.size; simp at this; omega
  have m3 : MidR w w3 g h q l2 e2 (.int .i64 4) (.int .i64 0) (.int .u64 0) (.string ⟨#[]⟩) (.slice ua un uc) := ⟨q0, by omega, gw, hw, m2.res.keepB (hgo w.heap.size (by omega)), fun o => (World.frozen?_of_block (hgo w.heap.size (by omega))).trans (m2.rfr o), m2.own.keepB (hgo q (Nat.le_refl _)), fun o => (World.frozen?_of_block (hgo q (Nat.le_refl _))).trans (m2.ofr o), s3, k3⟩
  have m4 := m3.put (.slice ua' un' uc') (m3.own.set4 _)
  have hne : ∀ B, B ≠ q → (w3.setCell ⟨q, 4, none⟩ (.slice ua' un' uc')).heap[B]? = w3.heap[B]? := fun B hB => Below.heap_setCell _ _ _ _ hB
  exact ⟨ua', un', uc', w3, hr3, m3.own.2.2.2.2, m3.ofr 4, m4, hv3.keep (fun B h1 _ => hne B (by omega))⟩
set_option maxHeartbeats 1000000 in
set_option maxRecDepth 100000 in
theorem rread_list (f : List UInt8 → Int → Tv × List UInt8 × Int) (d n : Nat) (hd : d ≤ 4) (hR : ReadR f d n) (w : World) (g h : Nat) (l : List UInt8) (e : Int) (r : RT w g h l e) (hh : h < w.heap.size) (h4 : (sNum 4 l e).1 = 4) :
    Calls Try.prog 61 #[.pointer (some ⟨g, 0, none⟩), .int .i64 ((d + 1 : Nat) : Int)] w (RdQ w g h (n + 1) (rd1 (rdL f) l e)) := by
  have hg := r.lt
  have NC := rnum_rt (w.alloc (.cells #[.int .i64 0, .int .i64 0, .int .u64 0, .string ⟨#[]⟩, .slice none 0 0] 25)) g h l e 4 (r.keep ((bel1 w _).block g hg) ((bel1 w _).block h hh))
  unfold rd1
  generalize (sNum 4 l e).1 = k at NC h4 ⊢
  generalize (sNum 4 l e).2 = q2 at NC ⊢
  obtain ⟨l0, e0⟩ := q2
  subst h4
  dsimp only at NC ⊢
  have HGH : Hid (g < w.heap.size ∧ h < w.heap.size) := ⟨hg, hh⟩
  have HNC : Hid (Calls Try.prog 85 #[.pointer (some ⟨g, 0, none⟩), .int .i64 4] (w.alloc (.cells #[.int .i64 0, .int .i64 0, .int .u64 0, .string ⟨#[]⟩, .slice none 0 0] 25)) (Rr _ g h (.int .i64 4) l0 e0)) := NC
  clear NC r hg hh
  rw [if_neg (by decide), if_neg (by decide), if_neg (by decide), if_pos rfl]
  have NC2 := fun W (r : RT W g h l0 e0) => rnum_rt W g h l0 e0 12 r
  have n0 := sNum_nat 12 l0 e0
  have nle := num_top (m := 12) (by decide) l0 e0
  have nz := sNum_zero 12 l0 e0
  have hdef : rdL f l0 e0 = rdN f (sNum 12 l0 e0).1.toNat (sNum 12 l0 e0).2.1 (sNum 12 l0 e0).2.2 := rfl
  rw [hdef]
  generalize (sNum 12 l0 e0).1 = k at NC2 n0 nle nz ⊢
  generalize (sNum 12 l0 e0).2.1 = l1 at NC2 ⊢
  generalize (sNum 12 l0 e0).2.2 = e1 at NC2 nz ⊢
  obtain ⟨N, rfl⟩ := Int.eq_ofNat_of_zero_le n0
  rw [Int.toNat_natCast]
  have HN2 : Hid (∀ W, RT W g h l0 e0 → Calls Try.prog 85 #[.pointer (some ⟨g, 0, none⟩), .int .i64 12] W (Rr W g h (.int .i64 (N : Int)) l1 e1)) := NC2
  have HL0 : Hid (LpI f N (rdN f N l1 e1) 0 [] l1 e1) := LpI.first (by
    by_cases h0 : e1 = 0
    · exact .inr h0
    · exact .inl (by have := nz h0; omega))
  generalize rdN f N l1 e1 = R at HL0 ⊢
  have HN : Hid (N ≤ 12) := by show _ ≤ _; omega
  have HR : Hid (ReadR f d n) := hR
  have f0 : (((d + 1 : Nat) : Int) == 0) = false := by simp; omega
  obtain ⟨D, hD⟩ : ∃ D : Int, D = ((d + 1 : Nat) : Int) := ⟨_, rfl⟩
  rw [← hD] at f0 ⊢
  have hdw : IntKind.i64.wrap (D - 1) = (d : Int) := by rw [hD, IntKind.wrap_i64]; omega
  have hdw2 : wrap64 (D - 1) = (d : Int) := by rw [hD]; unfold wrap64; omega
  have hNb : (N : Int) ≤ 12 := by have := HN.out; omega
  clear NC2 n0 nle nz hdef hR hD hd
  go_enter Try.func61, Try.ntmps61
  go_wp2_with fail
  refine HNC.out.mono ?_
  rintro x w1 ⟨rfl, s1, k1⟩
  have M0 : Hid (MidR w (w1.alloc (.cells #[.int .i64 4, .int .i64 0, .int .u64 0, .string ⟨#[]⟩, .slice none 0 0] 25)) g h w1.heap.size l0 e0 (.int .i64 4) (.int .i64 0) (.int .u64 0) (.string ⟨#[]⟩) (.slice none 0 0)) := MidR.first 4 HGH.out.1 HGH.out.2 s1 k1
  obtain ⟨W2, hW2⟩ : ∃ W2, W2 = w1.alloc (.cells #[.int .i64 4, .int .i64 0, .int .u64 0, .string ⟨#[]⟩, .slice none 0 0] 25) := ⟨_, rfl⟩
  obtain ⟨q, hq⟩ : ∃ q, q = w1.heap.size := ⟨_, rfl⟩
  rw [← hW2, ← hq] at M0
  have HW2 : Hid (W2 = w1.alloc (.cells #[.int .i64 4, .int .i64 0, .int .u64 0, .string ⟨#[]⟩, .slice none 0 0] 25)) := hW2
  have HQ : Hid (q = w1.heap.size) := hq
  clear s1 k1 hW2 hq
  go_upto_region 2 with fail
  rw [← HW2.out, ← HQ.out]
  obtain ⟨o0, o1, o2, o3, o4⟩ := M0.out.own
  have CC : Hid (Calls _ _ _ W2 _) := HN2.out W2 M0.out.st
  go_wp2_with fail
  refine CC.out.mono ?_
  rintro x w3 ⟨rfl, s3, k3⟩
  have M3 : Hid (MidR w w3 g h q _ _ (.int .i64 4) (.int .i64 0) (.int .u64 0) (.string ⟨#[]⟩) (.slice none 0 0)) := M0.out.step s3 k3
  clear s3 k3 o0 o1 o2 o3 o4 CC
  go_wp2_with fail
  go_loopw [7] (fun i wr => ∃ (j : Nat) (ua : Option Addr) (un uc : Nat) (acc : List Tv) (lj : List UInt8) (ej : Int), j ≤ N ∧ i = .int .i64 (j : Int) ∧ Hid (acc.length = j) ∧ Hid (Vs (q + 1) n wr (.slice ua un uc) acc) ∧ Hid (MidR w wr g h q lj ej (.int .i64 4) (.int .i64 0) (.int .u64 0) (.string ⟨#[]⟩) (.slice ua un uc)) ∧ Hid (LpI f N R j acc lj ej)) (fun i _ => N - (intOf i).toNat)
  case atStart => exact ⟨0, none, 0, 0, [], l1, e1, Nat.zero_le _, rfl, rfl, Vs.nil _ _ _, M3, HL0⟩
  case round =>
    obtain ⟨j, ua, un, uc, acc, lj, ej, hj, rfl, HA, HV, HM, HJ⟩ := hrel
    have EC : Hid (Calls Try.prog 35 #[.pointer (some ⟨g, 0, none⟩)] wr _) := rerr_rt _ _ _ _ _ HM.out.st
    by_cases hlt : j < N
    · have hjl : (j : Int) < (N : Int) := by omega
      by_cases h0 : ej = 0
      · subst h0
        go_wp2_with fail
        refine EC.out.mono ?_
        rintro x wz ⟨rfl, hwz⟩
        have hwz2 := hwz.symm
        subst hwz2
        clear hwz
        obtain ⟨o0, o1, o2, o3, o4⟩ := HM.out.own
        have y := HM.out.ofr 4
        have q0 := HM.out.q0
        have q1 := HM.out.q1
        have HQ2 : Hid (w.heap.size < q ∧ q < wr.heap.size ∧ g < w.heap.size ∧ h < w.heap.size) := ⟨q0, q1, HGH.out.1, HGH.out.2⟩
        have HRD : Hid (Calls Try.prog 61 #[.pointer (some ⟨g, 0, none⟩), .int .i64 (d : Int)] wr.drew (RdQ wr.drew g h n (f lj 0))) := HR.out wr.drew g h lj 0 (HM.out.st.keep rfl rfl) (by show h < wr.heap.size; have := HM.out.hw; omega)
        clear q0 q1 EC
        go_wp2_with fail
        have HAc : Hid (acc.length ≤ 1000) := by have := HA.out; have := HN.out; show _ ≤ _; omega
        go_region_law (first
          | (go_simp; go_at_call 61; refine HRD.out.mono ?_; rintro x w2 ⟨v, t2, rfl, hi2, ht2, hs2, hk2⟩; obtain ⟨vk, vx, vb, vs, va, vm, vc, rfl⟩ := hi2.shape; obtain ⟨ua', un', uc', w3, HS⟩ := rlist_step HM.out HV.out hi2 hs2 hk2 HAc.out; have HSS : Hid (RlS _ _ _ _ _ _ _ _ _ _ _ _ _ _ _ _ _ _ _ _ _) := HS; have hr3 := HS.run; have z4 := HS.old; have y4 := HS.frz; have y5 : w2.cell? ⟨q, 4, none⟩ = some (.slice ua un uc) := (HM.out.step (w' := w2) hs2 ((KB.of_below (Below.refl _ _).drew).trans hk2)).own.2.2.2.2; have y6 : (w2.alloc (Obj.cells #[.int .i64 vk, .int .i64 vx, .int .u64 vb, .string vs, .slice va vm vc] 25)).cell? ⟨q, 4, none⟩ = some (.slice ua un uc) := ((bel1 w2 _).cell (p := ⟨q, 4, none⟩) (World.block_lt_of_cell? w2 _ y5)).trans y5; have HT2 : Hid (_ → t2 = _) := ht2; clear HS hi2 ht2 hs2 hk2)
          | (refine step_app_run rfl (.tmp 55) (.tmp 60) 23 rfl (.slice ua un uc) (.slice (some ⟨w2.heap.size, 0, none⟩) 1 1) rfl rfl (by with_reducible assumption) ?_))
        all_goals go_wp2_with fail
        all_goals exact ⟨⟨j + 1, ua', un', uc', acc ++ [t2], _, _, hlt, by rw [Int.natCast_add]; rfl, (by show _ = _; rw [List.length_append, HA.out]; rfl), HSS.out.vs, HSS.out.mid, HJ.out.more hlt HT2.out⟩, by simp only [intOf]; omega⟩
      · have d0 : (ej == 0) = false := by simpa using h0
        have HE0 : Hid (ej ≠ 0) := h0
        clear h0
        go_wp2_with fail
        refine EC.out.mono ?_
        rintro x wz ⟨rfl, hwz⟩
        have hwz2 := hwz.symm
        subst hwz2
        clear hwz
        go_upto_region 19 with fail
        obtain ⟨a0, a1, a2, a3, a4⟩ := HM.out.own
        obtain ⟨b0, b1, b2, b3, b4⟩ := HM.out.res
        have f0 := HM.out.rfr 0
        have f1 := HM.out.rfr 1
        have f2 := HM.out.rfr 2
        have f3 := HM.out.rfr 3
        have f4 := HM.out.rfr 4
        go_wp2_with fail
        refine bodyPost_ret (ret5 Try.results61 _ (g := w.heap.size) rfl (set5_at HM.out.res (.int .i64 4) (.int .i64 0) (.int .u64 0) (.string ⟨#[]⟩) (.slice ua un uc))) rfl ?_
        exact HM.out.finL HV.out (HJ.out.err HE0.out)
    · obtain rfl : j = N := by omega
      go_upto_region 19 with fail
      obtain ⟨a0, a1, a2, a3, a4⟩ := HM.out.own
      obtain ⟨b0, b1, b2, b3, b4⟩ := HM.out.res
      have f0 := HM.out.rfr 0
      have f1 := HM.out.rfr 1
      have f2 := HM.out.rfr 2
      have f3 := HM.out.rfr 3
      have f4 := HM.out.rfr 4
      go_wp2_with fail
      refine bodyPost_ret (ret5 Try.results61 _ (g := w.heap.size) rfl (set5_at HM.out.res (.int .i64 4) (.int .i64 0) (.int .u64 0) (.string ⟨#[]⟩) (.slice ua un uc))) rfl ?_
      exact HM.out.finL HV.out HJ.out.done
end Go.Proofs.Ytobblioplfpndaa
namespace Go.Proofs.Ytobblioplfpndaa
open Go.ChangeShapes Go.WideShapes Go.ChangeAt Go.RowKit
theorem rread_calls : ∀ d, d ≤ 4 → ReadR (rdV d) d (d + 1) := by
  intro d
  induction d with
  | zero =>
    intro _ w g h l e r hh
    by_cases h4 : (sNum 4 l e).1 = 4
    · exact rread_zero 0 w g h l e r hh h4
    · exact rread_flat _ 0 0 w g h l e r hh h4
  | succ d ih =>
    intro hd w g h l e r hh
    by_cases h4 : (sNum 4 l e).1 = 4
    · exact rread_list (rdV d) d (d + 1) (by omega) (ih (by omega)) w g h l e r hh h4
    · exact rread_flat _ _ (d + 1) w g h l e r hh h4
/-- Open, its block of bytes told where there are none, too. -/
theorem ropen2_calls (v : Value) (l : List UInt8) (w : World) (hv : Lib.HoldsBytes w v l) (hl : l.length ≤ 140737488351232) (h0 : 0 < w.heap.size) :
    Calls Try.prog 31 #[v] w fun e w' => ∃ g h, e = .returned (.pointer (some ⟨g, 0, none⟩)) ∧ w.heap.size ≤ g ∧ (w.heap.size ≤ h ∨ h = 0) ∧ h < w'.heap.size ∧ RT w' g h l 0 ∧ Below w.heap.size w w' := by
  refine (ropen_calls v l w hv hl).mono ?_
  rintro e w' ⟨g, h, rfl, hg, hh, ⟨p, c, a0, a1, f0, f1, hlc, hgh, hb, he⟩, hB⟩
  have hs := hB.size
  by_cases hn : l = []
  · subst hn
    exact ⟨g, 0, rfl, hg, .inr rfl, by omega, ⟨p, c, a0, a1, f0, f1, hlc, by omega, HBk.nil _ _ _, he⟩, hB⟩
  · obtain ⟨o, hp, hc⟩ := hb hn
    obtain ⟨x, l2, rfl⟩ := List.exists_cons_of_ne_nil hn
    have := World.block_lt_of_cell? w' ⟨h, o + 0, none⟩ (hc 0 x rfl)
    exact ⟨g, h, rfl, hg, .inl hh, this, ⟨p, c, a0, a1, f0, f1, hlc, hgh, hb, he⟩, hB⟩
/-- As MidR.first, with a box of any five. -/
theorem MidR.box {w w1 : World} {g h : Nat} {l : List UInt8} {e : Int} {c0 c1 c2 c3 c4 : Value} (hg : g < w.heap.size) (hh : h < w.heap.size) (s : RT w1 g h l e) (kb : KB g (w.alloc (.cells #[.int .i64 0, .int .i64 0, .int .u64 0, .string ⟨#[]⟩, .slice none 0 0] 25)) w1) :
    MidR w (w1.alloc (.cells #[c0, c1, c2, c3, c4] 25)) g h w1.heap.size l e c0 c1 c2 c3 c4 := by
  have hz : w.heap.size + 1 ≤ w1.heap.size := by have := kb.2.2.2.1; simpa using this
  have hz0 : w.heap.size < (w.alloc (.cells #[.int .i64 0, .int .i64 0, .int .u64 0, .string ⟨#[]⟩, .slice none 0 0] 25)).heap.size := by simp
  have r1 := (box_at w (.int .i64 0) (.int .i64 0) (.int .u64 0) (.string ⟨#[]⟩) (.slice none 0 0)).kb kb (by omega)
  refine ⟨by omega, by simp, hg, hh, r1.below (bel1 _ _), fun o => ((bel1 w1 _).frozen (show w.heap.size < w1.heap.size by omega)).trans ((kb.frozen (a := ⟨w.heap.size, o, none⟩) hz0 (show w.heap.size ≠ g by omega)).trans (fresh w _ o)), box_at w1 _ _ _ _ _, fun o => fresh w1 _ o, s.keep ((bel1 w1 _).block g (by omega)) ((bel1 w1 _).block h (by omega)), ?_⟩
  refine kb_below (a := w1) ?_ ((bel1 w1 _).mono (by omega))
  exact ⟨kb.1, kb.2.1, kb.2.2.1, by omega, fun i hi hne => (kb.2.2.2.2 i (by simp; omega) hne).trans ((bel1 w _).block i hi)⟩
theorem MidR.fin0 {w W : World} {g h q n : Nat} {l : List UInt8} {e : Int} {c0 c1 c2 c3 c4 : Value} (m : MidR w W g h q l e c0 c1 c2 c3 c4) :
    RdX w g h (n + 1) (zT, l, e) (.returned (.agg #[.int .i64 0, .int .i64 0, .int .u64 0, .string ⟨#[]⟩, .slice none 0 0])) (set5 W w.heap.size 0 (.int .i64 0) (.int .i64 0) (.int .u64 0) (.string ⟨#[]⟩) (.slice none 0 0)) := by
  have a := m.q0
  have b := m.q1
  have c := m.gw
  have d := m.hw
  have kb := set5_kb W w.heap.size 0 (.int .i64 0) (.int .i64 0) (.int .u64 0) (.string ⟨#[]⟩) (.slice none 0 0)
  exact ⟨_, rfl, zT_is _ _ _, m.st.keep (kb.2.2.2.2 g (by omega) (by omega)) (kb.2.2.2.2 h (by omega) (by omega)), kb_below m.kb (kb.below (Nat.le_refl _) (by omega))⟩
set_option maxHeartbeats 1000000 in
set_option maxRecDepth 100000 in
theorem rreadv_calls (w : World) (g h : Nat) (l : List UInt8) (e : Int) (r : RT w g h l e) (hh : h < w.heap.size) (hl : l.length ≤ 281474976710656) :
    Calls Try.prog 33 #[.pointer (some ⟨g, 0, none⟩)] w (RdX w g h 5 (rdR l e)) := by
  have hg := r.lt
  have s0 : RT (w.alloc (.cells #[.int .i64 0, .int .i64 0, .int .u64 0, .string ⟨#[]⟩, .slice none 0 0] 25)) g h l e := r.keep ((bel1 w _).block g hg) ((bel1 w _).block h hh)
  have LF : Hid (Calls Try.prog 37 #[.pointer (some ⟨g, 0, none⟩)] (w.alloc (.cells #[.int .i64 0, .int .i64 0, .int .u64 0, .string ⟨#[]⟩, .slice none 0 0] 25)) _) := rleft_rt _ g h l e s0
  have RC := rread_calls 4 (by omega) (w.alloc (.cells #[.int .i64 0, .int .i64 0, .int .u64 0, .string ⟨#[]⟩, .slice none 0 0] 25)) g h l e s0 (by simp; omega)
  have hlen := rdV_len 4 l e
  have hdef : rdR l e = afR l.length (rdV 4 l e) := rfl
  rw [hdef]
  generalize rdV 4 l e = R at RC hlen ⊢
  obtain ⟨t, l1, e1⟩ := R
  dsimp only at hlen
  have HRC : Hid (Calls Try.prog 61 #[.pointer (some ⟨g, 0, none⟩), .int .i64 4] (w.alloc (.cells #[.int .i64 0, .int .i64 0, .int .u64 0, .string ⟨#[]⟩, .slice none 0 0] 25)) (RdQ _ g h 5 (t, l1, e1))) := RC
  obtain ⟨A, hA⟩ : ∃ A, A = l.length := ⟨_, rfl⟩
  obtain ⟨B, hB⟩ : ∃ B, B = l1.length := ⟨_, rfl⟩
  rw [← hA] at LF ⊢
  obtain ⟨D, hD⟩ : ∃ D : Int, D = (A : Int) - (B : Int) := ⟨_, rfl⟩
  have hw1 : wrap64 ((A : Int) - (B : Int)) = D := by rw [hD]; unfold wrap64; omega
  have hw2 : IntKind.i64.wrap ((A : Int) - (B : Int)) = D := by rw [hD, IntKind.wrap_i64]; omega
  have HGH : Hid (g < w.heap.size ∧ h < w.heap.size) := ⟨hg, hh⟩
  have HB : Hid (B = l1.length) := hB
  have HD : Hid (D = (A : Int) - (B : Int)) := hD
  clear RC hdef s0 r hg hh hl hlen hA hB hD
  by_cases h0 : e1 = 0
  · subst h0
    by_cases hbig : 1000 < D
    · have d1 : decide (1000 < D) = true := decide_eq_true hbig
      have HF : Hid (afR A (t, l1, 0) = (zT, flL l1 0, flE 0 5)) := by show _ = _; unfold afR; dsimp only; rw [if_pos (by have := HD.out; have := HB.out; omega)]
      clear hbig
      go_enter Try.func33, Try.ntmps33
      go_wp2_with fail
      refine LF.out.mono ?_
      rintro x w0 ⟨rfl, hw0⟩
      have hw0' := hw0.symm
      subst hw0'
      clear hw0
      go_wp2_with fail
      refine HRC.out.mono ?_
      rintro x w1 ⟨v, t1, rfl, hi1, ht1, s1, k1⟩
      dsimp only at s1
      obtain ⟨vk, vx, vb, vs, va, vm, vc, rfl⟩ := hi1.shape
      have M0 : Hid (MidR w (w1.alloc (.cells #[.int .i64 vk, .int .i64 vx, .int .u64 vb, .string vs, .slice va vm vc] 25)) g h w1.heap.size l1 0 (.int .i64 vk) (.int .i64 vx) (.int .u64 vb) (.string vs) (.slice va vm vc)) := MidR.box HGH.out.1 HGH.out.2 s1 k1
      obtain ⟨W2, hW2⟩ : ∃ W2, W2 = w1.alloc (.cells #[.int .i64 vk, .int .i64 vx, .int .u64 vb, .string vs, .slice va vm vc] 25) := ⟨_, rfl⟩
      obtain ⟨q, hq⟩ : ∃ q, q = w1.heap.size := ⟨_, rfl⟩
      rw [← hW2, ← hq] at M0
      have HW2 : Hid (W2 = _) := hW2
      have HQ : Hid (q = w1.heap.size) := hq
      have L2 : Hid (Calls Try.prog 37 #[.pointer (some ⟨g, 0, none⟩)] W2 fun x w' => x = .returned (.int .i64 (B : Int)) ∧ w' = W2) := by
        have := rleft_rt W2 g h l1 _ M0.out.st
        rwa [← HB.out] at this
      have EC : Hid (Calls Try.prog 35 #[.pointer (some ⟨g, 0, none⟩)] W2 _) := rerr_rt _ _ _ _ _ M0.out.st
      clear hi1 ht1 s1 k1 hW2 hq
      go_upto_region 3 with fail
      rw [← HW2.out, ← HQ.out]
      go_wp2_with fail
      refine EC.out.mono ?_
      rintro x w5 ⟨rfl, hw5⟩
      have hw5' := hw5.symm
      subst hw5'
      clear hw5
      go_wp2_with fail
      refine L2.out.mono ?_
      rintro x w3 ⟨rfl, hw3⟩
      have hw3' := hw3.symm
      subst hw3'
      clear hw3
      have FC : Hid (Calls Try.prog 62 #[.pointer (some ⟨g, 0, none⟩), .int .i64 5] W2 fun r w' => r = .returned (.tuple #[]) ∧ RT w' g h (flL l1 0) (flE 0 5) ∧ KB g W2 w') := by
        have := rfail_rt W2 g h l1 0 5 M0.out.st
        rwa [fl_l l1 0 5 (by decide), fl_e 0 5] at this
      clear EC
      go_wp2_with fail
      refine FC.out.mono ?_
      rintro x w4 ⟨rfl, s4, k4⟩
      have M4 : Hid (MidR w w4 g h q (flL l1 0) (flE 0 5) (.int .i64 vk) (.int .i64 vx) (.int .u64 vb) (.string vs) (.slice va vm vc)) := M0.out.step s4 k4
      have EC : Hid (Calls Try.prog 35 #[.pointer (some ⟨g, 0, none⟩)] w4 _) := rerr_rt _ _ _ _ _ M4.out.st
      have dE : (flE 0 5 != 0) = true := by simpa using flE_ne (e := 0) (f := 5) (by decide)
      clear s4 k4 FC
      go_wp2_with fail
      refine EC.out.mono ?_
      rintro x w6 ⟨rfl, hw6⟩
      have hw6' := hw6.symm
      subst hw6'
      clear hw6
      obtain ⟨b0, b1, b2, b3, b4⟩ := M4.out.res
      have f0 := M4.out.rfr 0
      have f1 := M4.out.rfr 1
      have f2 := M4.out.rfr 2
      have f3 := M4.out.rfr 3
      have f4 := M4.out.rfr 4
      go_wp2_with fail
      refine bodyPost_ret (ret5 Try.results33 _ (g := w.heap.size) rfl (set5_at M4.out.res (.int .i64 0) (.int .i64 0) (.int .u64 0) (.string ⟨#[]⟩) (.slice none 0 0))) rfl ?_
      rw [HF.out]
      exact M4.out.fin0
    · have d1 : decide (1000 < D) = false := decide_eq_false hbig
      have HF : Hid (afR A (t, l1, 0) = (t, l1, 0)) := by show _ = _; unfold afR; dsimp only; rw [if_neg (by have := HD.out; have := HB.out; omega), if_pos rfl]
      clear hbig
      go_enter Try.func33, Try.ntmps33
      go_wp2_with fail
      refine LF.out.mono ?_
      rintro x w0 ⟨rfl, hw0⟩
      have hw0' := hw0.symm
      subst hw0'
      clear hw0
      go_wp2_with fail
      refine HRC.out.mono ?_
      rintro x w1 ⟨v, t1, rfl, hi1, ht1, s1, k1⟩
      dsimp only at s1
      obtain ⟨vk, vx, vb, vs, va, vm, vc, rfl⟩ := hi1.shape
      have M0 : Hid (MidR w (w1.alloc (.cells #[.int .i64 vk, .int .i64 vx, .int .u64 vb, .string vs, .slice va vm vc] 25)) g h w1.heap.size l1 0 (.int .i64 vk) (.int .i64 vx) (.int .u64 vb) (.string vs) (.slice va vm vc)) := MidR.box HGH.out.1 HGH.out.2 s1 k1
      obtain ⟨W2, hW2⟩ : ∃ W2, W2 = w1.alloc (.cells #[.int .i64 vk, .int .i64 vx, .int .u64 vb, .string vs, .slice va vm vc] 25) := ⟨_, rfl⟩
      obtain ⟨q, hq⟩ : ∃ q, q = w1.heap.size := ⟨_, rfl⟩
      rw [← hW2, ← hq] at M0
      have HW2 : Hid (W2 = _) := hW2
      have HQ : Hid (q = w1.heap.size) := hq
      have L2 : Hid (Calls Try.prog 37 #[.pointer (some ⟨g, 0, none⟩)] W2 fun x w' => x = .returned (.int .i64 (B : Int)) ∧ w' = W2) := by
        have := rleft_rt W2 g h l1 _ M0.out.st
        rwa [← HB.out] at this
      have EC : Hid (Calls Try.prog 35 #[.pointer (some ⟨g, 0, none⟩)] W2 _) := rerr_rt _ _ _ _ _ M0.out.st
      have I2 : Hid (IsN (w.heap.size + 1) W2 5 (.agg #[.int .i64 vk, .int .i64 vx, .int .u64 vb, .string vs, .slice va vm vc]) t) := by
        rw [HW2.out]
        have hz : (w.alloc (.cells #[.int .i64 0, .int .i64 0, .int .u64 0, .string ⟨#[]⟩, .slice none 0 0] 25)).heap.size = w.heap.size + 1 := by simp
        rw [hz] at hi1
        have ht2 : t1 = t := ht1 rfl
        rw [← ht2]
        exact hi1.kb (kb_below (KB.refl g w1) (bel1 _ _)) (by have := HGH.out.1; omega)
      clear hi1 ht1 s1 k1 hW2 hq
      go_upto_region 3 with fail
      rw [← HW2.out, ← HQ.out]
      go_wp2_with fail
      refine EC.out.mono ?_
      rintro x w5 ⟨rfl, hw5⟩
      have hw5' := hw5.symm
      subst hw5'
      clear hw5
      go_wp2_with fail
      refine L2.out.mono ?_
      rintro x w3 ⟨rfl, hw3⟩
      have hw3' := hw3.symm
      subst hw3'
      clear hw3
      go_wp2_with fail
      refine EC.out.mono ?_
      rintro x w6 ⟨rfl, hw6⟩
      have hw6' := hw6.symm
      subst hw6'
      clear hw6
      obtain ⟨a0, a1, a2, a3, a4⟩ := M0.out.own
      obtain ⟨b0, b1, b2, b3, b4⟩ := M0.out.res
      have f0 := M0.out.rfr 0
      have f1 := M0.out.rfr 1
      have f2 := M0.out.rfr 2
      have f3 := M0.out.rfr 3
      have f4 := M0.out.rfr 4
      go_wp2_with fail
      refine bodyPost_ret (ret5 Try.results33 _ (g := w.heap.size) rfl (set5_at M0.out.res (.int .i64 vk) (.int .i64 vx) (.int .u64 vb) (.string vs) (.slice va vm vc))) rfl ?_
      rw [HF.out]
      exact M0.out.finX I2.out
  · have dE : (e1 != 0) = true := by simpa using h0
    have dE2 : (e1 == 0) = false := by simpa using h0
    have HF : Hid (afR A (t, l1, e1) = (zT, l1, e1)) := by
      show _ = _
      unfold afR flL flE
      dsimp only
      rw [if_neg h0, if_neg h0, if_neg h0]
      split <;> rfl
    clear h0
    go_enter Try.func33, Try.ntmps33
    go_wp2_with fail
    refine LF.out.mono ?_
    rintro x w0 ⟨rfl, hw0⟩
    have hw0' := hw0.symm
    subst hw0'
    clear hw0
    go_wp2_with fail
    refine HRC.out.mono ?_
    rintro x w1 ⟨v, t1, rfl, hi1, ht1, s1, k1⟩
    dsimp only at s1
    obtain ⟨vk, vx, vb, vs, va, vm, vc, rfl⟩ := hi1.shape
    have M0 : Hid (MidR w (w1.alloc (.cells #[.int .i64 vk, .int .i64 vx, .int .u64 vb, .string vs, .slice va vm vc] 25)) g h w1.heap.size l1 e1 (.int .i64 vk) (.int .i64 vx) (.int .u64 vb) (.string vs) (.slice va vm vc)) := MidR.box HGH.out.1 HGH.out.2 s1 k1
    obtain ⟨W2, hW2⟩ : ∃ W2, W2 = w1.alloc (.cells #[.int .i64 vk, .int .i64 vx, .int .u64 vb, .string vs, .slice va vm vc] 25) := ⟨_, rfl⟩
    obtain ⟨q, hq⟩ : ∃ q, q = w1.heap.size := ⟨_, rfl⟩
    rw [← hW2, ← hq] at M0
    have HW2 : Hid (W2 = _) := hW2
    have HQ : Hid (q = w1.heap.size) := hq
    have L2 : Hid (Calls Try.prog 37 #[.pointer (some ⟨g, 0, none⟩)] W2 fun x w' => x = .returned (.int .i64 (B : Int)) ∧ w' = W2) := by
      have := rleft_rt W2 g h l1 _ M0.out.st
      rwa [← HB.out] at this
    have EC : Hid (Calls Try.prog 35 #[.pointer (some ⟨g, 0, none⟩)] W2 _) := rerr_rt _ _ _ _ _ M0.out.st
    clear hi1 ht1 s1 k1 hW2 hq
    go_upto_region 3 with fail
    rw [← HW2.out, ← HQ.out]
    go_wp2_with fail
    refine EC.out.mono ?_
    rintro x w5 ⟨rfl, hw5⟩
    have hw5' := hw5.symm
    subst hw5'
    clear hw5
    go_wp2_with fail
    refine EC.out.mono ?_
    rintro x w6 ⟨rfl, hw6⟩
    have hw6' := hw6.symm
    subst hw6'
    clear hw6
    obtain ⟨b0, b1, b2, b3, b4⟩ := M0.out.res
    have f0 := M0.out.rfr 0
    have f1 := M0.out.rfr 1
    have f2 := M0.out.rfr 2
    have f3 := M0.out.rfr 3
    have f4 := M0.out.rfr 4
    go_wp2_with fail
    refine bodyPost_ret (ret5 Try.results33 _ (g := w.heap.size) rfl (set5_at M0.out.res (.int .i64 0) (.int .i64 0) (.int .u64 0) (.string ⟨#[]⟩) (.slice none 0 0))) rfl ?_
    rw [HF.out]
    exact M0.out.fin0
end Go.Proofs.Ytobblioplfpndaa
namespace Go.Proofs.Ytobblioplfpndaa
open Go.ChangeShapes Go.WideShapes Go.ChangeAt Go.RowKit
theorem ret26 (tmps : Array Value) {w : World} {g : Nat} {c0 c1 c2 c3 c4 y : Value} (hp : tmps.getD 2 undef = .pointer (some ⟨g, 0, none⟩)) (hq : tmps.getD 3 undef = y) (h5 : At5 w g 0 c0 c1 c2 c3 c4) :
    (results Try.f26 tmps).run Try.prog w = .ok (.tuple #[.agg #[c0, c1, c2, c3, c4], y]) w := by
  have hp' : tmps[2]?.getD undef = .pointer (some ⟨g, 0, none⟩) := by simpa using hp
  have hq' : tmps[3]?.getD undef = y := by simpa using hq
  simp [results, hp', hq', asAddr, load5 h5]
/-- Where Parse stands when the value is read. -/
structure PMidR (w W : World) (g h q : Nat) (l : List UInt8) (e : Int) (c0 c1 c2 c3 c4 : Value) (t : Tv) : Prop where
  q0 : w.heap.size < q
  q1 : q < W.heap.size
  res : At5 W w.heap.size 0 (.int .i64 0) (.int .i64 0) (.int .u64 0) (.string ⟨#[]⟩) (.slice none 0 0)
  rfr : ∀ o, W.frozen? ⟨w.heap.size, o, none⟩ = false
  own : At5 W q 0 c0 c1 c2 c3 c4
  st : RT W g h l e
  is : IsN (w.heap.size + 1) W 5 (.agg #[c0, c1, c2, c3, c4]) t
  bel : Below w.heap.size w W
theorem PMidR.box {w w1 w2 : World} {g h : Nat} {l : List UInt8} {e : Int} {c0 c1 c2 c3 c4 : Value} {t : Tv}
    (hg : w.heap.size < g) (hg1 : g < w1.heap.size) (hh1 : h < w1.heap.size)
    (b1 : Below (w.alloc (.cells #[.int .i64 0, .int .i64 0, .int .u64 0, .string ⟨#[]⟩, .slice none 0 0] 25)).heap.size (w.alloc (.cells #[.int .i64 0, .int .i64 0, .int .u64 0, .string ⟨#[]⟩, .slice none 0 0] 25)) w1)
    (s : RT w2 g h l e) (kb : KB g w1 w2) (hi : IsN w1.heap.size w2 5 (.agg #[c0, c1, c2, c3, c4]) t) :
    PMidR w (w2.alloc (.cells #[c0, c1, c2, c3, c4] 25)) g h w2.heap.size l e c0 c1 c2 c3 c4 t := by
  have hz0 : w.heap.size < (w.alloc (.cells #[.int .i64 0, .int .i64 0, .int .u64 0, .string ⟨#[]⟩, .slice none 0 0] 25)).heap.size := by simp
  have hz1 := b1.size
  have hz2 := kb.2.2.2.1
  have r1 := ((box_at w (.int .i64 0) (.int .i64 0) (.int .u64 0) (.string ⟨#[]⟩) (.slice none 0 0)).below b1).kb kb (by omega)
  refine ⟨by omega, by simp, r1.below (bel1 _ _), fun o => ((bel1 w2 _).frozen (show w.heap.size < w2.heap.size by omega)).trans ((kb.frozen (a := ⟨w.heap.size, o, none⟩) (show w.heap.size < w1.heap.size by omega) (show w.heap.size ≠ g by omega)).trans ((b1.frozen (p := ⟨w.heap.size, o, none⟩) hz0).trans (fresh w _ o))), box_at w2 _ _ _ _ _, s.keep ((bel1 w2 _).block g (by omega)) ((bel1 w2 _).block h (by omega)), ?_, ?_⟩
  · exact ((hi.kb (kb_below (KB.refl w.heap.size w2) (bel1 _ _)) (by omega)).lower (by omega))
  · exact ((bel1 w _).trans ((b1.mono (by omega)).trans ((kb.below (by omega) (by omega)).trans ((bel1 w2 _).mono (by omega)))))
theorem PMidR.fin {w W : World} {g h q : Nat} {l : List UInt8} {e : Int} {c0 c1 c2 c3 c4 : Value} {t : Tv} (m : PMidR w W g h q l e c0 c1 c2 c3 c4 t) :
    Is (set5 W w.heap.size 0 c0 c1 c2 c3 c4) 5 (.agg #[c0, c1, c2, c3, c4]) t ∧ Below w.heap.size w (set5 W w.heap.size 0 c0 c1 c2 c3 c4) := by
  have kb := set5_kb W w.heap.size 0 c0 c1 c2 c3 c4
  exact ⟨(m.is.kb kb (by omega)).is, m.bel.trans (kb.below (Nat.le_refl _) m.bel.size)⟩
theorem PMidR.fin0 {w W : World} {g h q : Nat} {l : List UInt8} {e : Int} {c0 c1 c2 c3 c4 : Value} {t : Tv} (m : PMidR w W g h q l e c0 c1 c2 c3 c4 t) :
    Is (set5 W w.heap.size 0 (.int .i64 0) (.int .i64 0) (.int .u64 0) (.string ⟨#[]⟩) (.slice none 0 0)) 5 (.agg #[.int .i64 0, .int .i64 0, .int .u64 0, .string ⟨#[]⟩, .slice none 0 0]) zT ∧ Below w.heap.size w (set5 W w.heap.size 0 (.int .i64 0) (.int .i64 0) (.int .u64 0) (.string ⟨#[]⟩) (.slice none 0 0)) := by
  have kb := set5_kb W w.heap.size 0 (.int .i64 0) (.int .i64 0) (.int .u64 0) (.string ⟨#[]⟩) (.slice none 0 0)
  exact ⟨(zT_is 0 _ 4).is, m.bel.trans (kb.below (Nat.le_refl _) m.bel.size)⟩
set_option maxHeartbeats 1000000 in
set_option maxRecDepth 100000 in
theorem rparse_calls (w : World) (v : Value) (l : List UInt8) (hv : Lib.HoldsBytes w v l) (hl : l.length ≤ 140737488351232) :
    Calls Try.prog 26 #[v] w (PsP w (psR l)) := by
  have HV : Hid (Lib.HoldsBytes (w.alloc (.cells #[.int .i64 0, .int .i64 0, .int .u64 0, .string ⟨#[]⟩, .slice none 0 0] 25)) v l) := holds_below hv (bel1 w _)
  have OC : Hid (Calls Try.prog 31 #[v] (w.alloc (.cells #[.int .i64 0, .int .i64 0, .int .u64 0, .string ⟨#[]⟩, .slice none 0 0] 25)) _) := ropen2_calls v l _ HV.out hl (by simp)
  have RC : Hid (∀ (w : World) (g h : Nat), RT w g h l 0 → h < w.heap.size → Calls Try.prog 33 #[.pointer (some ⟨g, 0, none⟩)] w (RdX w g h 5 (rdR l 0))) := fun w g h r hh => rreadv_calls w g h l 0 r hh (by omega)
  obtain ⟨k', x', b', rfl⟩ : ∃ a m c, v = .slice a m c := by obtain ⟨p, cap, rfl, q1, q2⟩ := hv; exact ⟨_, _, _, rfl⟩
  have hdef : psR l = if en (rdR l 0).2.1 (rdR l 0).2.2 = 0 then ((rdR l 0).1, 0) else (zT, en (rdR l 0).2.1 (rdR l 0).2.2) := rfl
  rw [hdef]
  generalize rdR l 0 = R at RC ⊢
  obtain ⟨t, l2, e2⟩ := R
  dsimp only
  obtain ⟨E, hE⟩ : ∃ E, E = en l2 e2 := ⟨_, rfl⟩
  rw [← hE]
  have HE : Hid (E = en l2 e2) := hE
  clear hdef hv hl hE
  have hW0 : Hid ((w.alloc (.cells #[.int .i64 0, .int .i64 0, .int .u64 0, .string ⟨#[]⟩, .slice none 0 0] 25)).heap.size = w.heap.size + 1) := by show _ = _; simp
  by_cases h0 : E = 0
  · have dE : (E != 0) = false := by simpa using h0
    rw [if_pos h0]
    clear h0
    go_enter Try.func26, Try.ntmps26
    go_wp2_with fail
    refine OC.out.mono ?_
    rintro x w1 ⟨g, h, rfl, hh1, hh2, hh4, s1, b1⟩
    have hh3 := s1.lt
    have HG : Hid (w.heap.size < g ∧ g < w1.heap.size ∧ h < w1.heap.size) := by have := hW0.out; show _ ∧ _; omega
    have HB1 : Hid (Below _ _ w1) := b1
    have RC1 : Hid (Calls Try.prog 33 #[.pointer (some ⟨g, 0, none⟩)] w1 (RdX w1 g h 5 (t, l2, e2))) := RC.out w1 g h s1 HG.out.2.2
    clear hh1 hh2 hh3 hh4 s1 b1 RC
    go_wp2_with fail
    refine RC1.out.mono ?_
    rintro x w2 ⟨v, rfl, hi2, s2, k2⟩
    dsimp only at hi2 s2
    obtain ⟨vk, vx, vb, vs, va, vm, vc, rfl⟩ := hi2.shape
    have M0 : Hid (PMidR w (w2.alloc (.cells #[.int .i64 vk, .int .i64 vx, .int .u64 vb, .string vs, .slice va vm vc] 25)) g h w2.heap.size l2 e2 (.int .i64 vk) (.int .i64 vx) (.int .u64 vb) (.string vs) (.slice va vm vc) t) := PMidR.box HG.out.1 HG.out.2.1 HG.out.2.2 HB1.out s2 k2 hi2
    obtain ⟨W2, hW2⟩ : ∃ W2, W2 = w2.alloc (.cells #[.int .i64 vk, .int .i64 vx, .int .u64 vb, .string vs, .slice va vm vc] 25) := ⟨_, rfl⟩
    obtain ⟨q, hq⟩ : ∃ q, q = w2.heap.size := ⟨_, rfl⟩
    rw [← hW2, ← hq] at M0
    have HW2 : Hid (W2 = _) := hW2
    have HQ : Hid (q = w2.heap.size) := hq
    have EC : Hid (Calls Try.prog 55 #[.pointer (some ⟨g, 0, none⟩)] W2 fun x w' => x = .returned (.int .i64 E) ∧ w' = W2) := by
      have := rend_rt W2 g h l2 e2 M0.out.st
      rwa [← HE.out] at this
    clear hi2 s2 k2 hW2 hq
    go_upto_region 3 with fail
    rw [← HW2.out, ← HQ.out]
    go_wp2_with fail
    refine EC.out.mono ?_
    rintro x w3 ⟨rfl, hw3⟩
    have hw3' := hw3.symm
    subst hw3'
    clear hw3
    obtain ⟨a0, a1, a2, a3, a4⟩ := M0.out.own
    obtain ⟨b0, b1, b2, b3, b4⟩ := M0.out.res
    have f0 := M0.out.rfr 0
    have f1 := M0.out.rfr 1
    have f2 := M0.out.rfr 2
    have f3 := M0.out.rfr 3
    have f4 := M0.out.rfr 4
    go_wp2_with fail
    refine bodyPost_ret (ret26 _ (g := w.heap.size) rfl rfl (set5_at M0.out.res (.int .i64 vk) (.int .i64 vx) (.int .u64 vb) (.string vs) (.slice va vm vc))) rfl ?_
    exact ⟨_, rfl, M0.out.fin⟩
  · have dE : (E != 0) = true := by simpa using h0
    rw [if_neg h0]
    clear h0
    go_enter Try.func26, Try.ntmps26
    go_wp2_with fail
    refine OC.out.mono ?_
    rintro x w1 ⟨g, h, rfl, hh1, hh2, hh4, s1, b1⟩
    have hh3 := s1.lt
    have HG : Hid (w.heap.size < g ∧ g < w1.heap.size ∧ h < w1.heap.size) := by have := hW0.out; show _ ∧ _; omega
    have HB1 : Hid (Below _ _ w1) := b1
    have RC1 : Hid (Calls Try.prog 33 #[.pointer (some ⟨g, 0, none⟩)] w1 (RdX w1 g h 5 (t, l2, e2))) := RC.out w1 g h s1 HG.out.2.2
    clear hh1 hh2 hh3 hh4 s1 b1 RC
    go_wp2_with fail
    refine RC1.out.mono ?_
    rintro x w2 ⟨v, rfl, hi2, s2, k2⟩
    dsimp only at hi2 s2
    obtain ⟨vk, vx, vb, vs, va, vm, vc, rfl⟩ := hi2.shape
    have M0 : Hid (PMidR w (w2.alloc (.cells #[.int .i64 vk, .int .i64 vx, .int .u64 vb, .string vs, .slice va vm vc] 25)) g h w2.heap.size l2 e2 (.int .i64 vk) (.int .i64 vx) (.int .u64 vb) (.string vs) (.slice va vm vc) t) := PMidR.box HG.out.1 HG.out.2.1 HG.out.2.2 HB1.out s2 k2 hi2
    obtain ⟨W2, hW2⟩ : ∃ W2, W2 = w2.alloc (.cells #[.int .i64 vk, .int .i64 vx, .int .u64 vb, .string vs, .slice va vm vc] 25) := ⟨_, rfl⟩
    obtain ⟨q, hq⟩ : ∃ q, q = w2.heap.size := ⟨_, rfl⟩
    rw [← hW2, ← hq] at M0
    have HW2 : Hid (W2 = _) := hW2
    have HQ : Hid (q = w2.heap.size) := hq
    have EC : Hid (Calls Try.prog 55 #[.pointer (some ⟨g, 0, none⟩)] W2 fun x w' => x = .returned (.int .i64 E) ∧ w' = W2) := by
      have := rend_rt W2 g h l2 e2 M0.out.st
      rwa [← HE.out] at this
    clear hi2 s2 k2 hW2 hq
    go_upto_region 3 with fail
    rw [← HW2.out, ← HQ.out]
    go_wp2_with fail
    refine EC.out.mono ?_
    rintro x w3 ⟨rfl, hw3⟩
    have hw3' := hw3.symm
    subst hw3'
    clear hw3
    obtain ⟨b0, b1, b2, b3, b4⟩ := M0.out.res
    have f0 := M0.out.rfr 0
    have f1 := M0.out.rfr 1
    have f2 := M0.out.rfr 2
    have f3 := M0.out.rfr 3
    have f4 := M0.out.rfr 4
    go_wp2_with fail
    refine bodyPost_ret (ret26 _ (g := w.heap.size) rfl rfl (set5_at M0.out.res (.int .i64 0) (.int .i64 0) (.int .u64 0) (.string ⟨#[]⟩) (.slice none 0 0))) rfl ?_
    exact ⟨_, rfl, M0.out.fin0⟩
end Go.Proofs.Ytobblioplfpndaa
namespace Go.Proofs.Ytobblioplfpndaa
open Go.ChangeShapes Go.WideShapes Go.ChangeAt Go.RowKit
set_option maxHeartbeats 1000000 in
theorem high_all (B : Nat) (v : Value) (l : List UInt8) (x k : Nat) (w : World) (hx : x < 18446744073709551616) (hk : k ≤ 8) (hB : B ≤ w.heap.size) (hv : Own B w v l) (hl : l.length ≤ 140737488353000) :
    Calls Try.prog 92 #[v, .int .u64 (x : Int), .int .i64 (k : Int)] w fun e w' => ∃ v', e = .returned v' ∧ Own B w' v' (l ++ be x k) ∧ Below B w w' := by
  obtain ⟨i0, hi, hz0, hz1, hz2⟩ := info_parts Try.info5
  have HV : Hid (Own B w v l) := hv
  clear hv
  obtain ⟨L, hL⟩ : ∃ L, L = l ++ be x k := ⟨_, rfl⟩
  have HL : Hid (L = l ++ be x k) := hL
  rw [← hL]
  have HX : Hid (x < 18446744073709551616) := hx
  clear hL hx
  go_enter Try.func92, Try.ntmps92
  go_wp2
  go_loopw [0, 2] (fun b i wr => ∃ (j : Nat) (acc : List UInt8), j ≤ k ∧ i = .int .i64 j ∧ Hid (Own B wr b acc) ∧ Hid (Below B w wr) ∧ Hid (acc ++ be x j = L)) (fun _ i _ => (intOf i).toNat)
  case atStart => exact ⟨k, l, Nat.le_refl _, rfl, HV, Below.refl _ _, HL.out.symm⟩
  case round =>
    obtain ⟨j, acc, hj, rfl, HO, HB, HE⟩ := hrel
    cases j with
    | zero =>
      go_wp2
      go_ret
      have he : acc = L := by have := HE.out; simpa [be] using this
      rw [he] at HO
      exact ⟨_, rfl, HO.out, HB.out⟩
    | succ j =>
      have hj0 : (0 : Int) < ((j + 1 : Nat) : Int) := by omega
      have hacc : acc.length ≤ 140737488353100 := by
        have h1 := congrArg List.length HE.out
        rw [HL.out] at h1
        simp [be_length] at h1
        omega
      have hws : B ≤ wr.heap.size := Nat.le_trans hB HB.out.size
      go_wp2
      go_loop [7, 8] (fun y i => ∃ m : Nat, m ≤ j ∧ i = .int .i64 m ∧ y = .int .u64 ((x / 256 ^ m : Nat) : Int)) (fun _ i => j - (intOf i).toNat)
      case atStart => exact ⟨0, Nat.zero_le _, rfl, by simp⟩
      case round =>
        obtain ⟨m, hm, rfl, rfl⟩ := hrel
        have HS : Hid (x / 256 ^ (m + 1) = x / 256 ^ m / 256) := div_step x m
        obtain ⟨q, hq⟩ : ∃ q, x / 256 ^ m = q := ⟨_, rfl⟩
        rw [hq] at HS ⊢
        have HQ : Hid (x / 256 ^ m = q) := hq
        have hqu : (q : Int) ≤ 18446744073709551615 := by
          have h1 := HX.out
          have h2 := Nat.div_le_self x (256 ^ m)
          omega
        clear hq
        by_cases hlt : m < j
        · go_wp2
          go_round
          case rel => exact ⟨m + 1, by omega, by go_num, by rw [HS.out]; go_num⟩
          case measure => simp [intOf]; omega
        · obtain rfl : m = j := by omega
          go_wp2_with (at_builtin; refine wpList_append_own _ rfl _ _ 38 rfl B 5 i0 (.int .u8 0) 1 1 Try.underlying38 hi hz0 hz1 hz2 rfl (by decide) _ _ _ rfl (HO.out.alloc _) ⟨wr.heap.size, 0, none⟩ 1 1 (bval [UInt8.ofNat q]) rfl ?qc1 ?qc2 ?qc3 ?qc4 ?qc5 ?qc6 ?_)
          case qc1 => rfl
          case qc2 =>
            intro i u hu
            rw [byte_lit q]
            exact hu
          case qc3 => intro u hu; obtain ⟨x, _, rfl⟩ := List.mem_map.1 hu; rfl
          case qc4 => unfold maxLen; omega
          case qc5 => omega
          case qc6 => omega
          intro v' w1 hown hgrow hnil
          have HW : Hid (Own B w1 v' (acc ++ [UInt8.ofNat q])) := by
            show w1.ownsRow B 5 1 v' _ _
            have e1 : (acc ++ [UInt8.ofNat q]).length = acc.length + 1 := by simp
            have e2 : bval (acc ++ [UInt8.ofNat q]) = bval acc ++ bval [UInt8.ofNat q] := by simp [bval]
            rw [e1, e2]
            exact hown
          have HBW : Hid (Below B w w1) := by
            refine (HB.out.alloc hws _).grown hgrow (by simp; omega) ?_
            intro kk hkk
            exact (World.ownsRow.lt HO.out kk hkk).1
          clear hown hgrow hnil
          go_wp2
          go_roundw
          case rel =>
            refine ⟨m, acc ++ [UInt8.ofNat q], by omega, by go_num, HW, HBW, ?_⟩
            show _ = L
            rw [← HE.out, ← HQ.out, pow_256]
            simp [be]
          case measure => simp [intOf]
theorem refNum_smallA (v : Value) (l : List UInt8) (m : Nat) (n : Int) (hn : n < 240) (hm : m = n.toNat) (w : World) (hv : Lib.HoldsBytes w v l) (hl : l.length ≤ 140737488353000) : Calls Try.prog 71 #[v, .int .i64 n] w (RB w (l ++ enc m)) := by
  obtain ⟨i0, hi, hz0, hz1, hz2⟩ := info_parts Try.info5
  have HV : Hid (Lib.HoldsBytes w v l) := hv
  have HLL : Hid (l.length ≤ 140737488353000) := hl
  obtain ⟨L, hL⟩ : ∃ L, L = l ++ enc m := ⟨_, rfl⟩
  have HL : Hid (L = l ++ enc m) := hL
  rw [← hL]
  have HE : Hid (enc m = [UInt8.ofNat m]) := by show enc m = _; unfold enc; rw [if_pos (by omega)]
  have BY : Hid (bval [UInt8.ofNat m] = [.int .u8 (m : Int)]) := by
    show bval [UInt8.ofNat m] = _
    have e : ((UInt8.ofNat m).toNat : Int) = (m : Int) := by rw [UInt8.toNat_ofNat']; omega
    simp only [bval, List.map_cons, List.map_nil]
    rw [e]
  have hm240 : (m : Int) < 240 := by omega
  rw [HE.out] at HL
  obtain ⟨p, cap, rfl, q1, q2⟩ := hv
  clear q1 q2 hL
  by_cases h0 : n < 0
  · obtain rfl : m = 0 := by omega
    clear hm
    have BY0 : Hid (bval [UInt8.ofNat 0] = [.int .u8 0]) := BY.out
    clear BY
    go_enter Try.func71, Try.ntmps71
    go_wp2_with fail
    refine (copied_all _ _ _ HV.out (by have := HLL.out; omega)).mono ?_
    rintro e w1 ⟨v1, rfl, ho, hb⟩
    have HO : Hid (Own w.heap.size w1 v1 l) := ho
    have HB : Hid (Below w.heap.size w w1) := hb
    clear ho hb
    go_wp2_with (at_builtin; refine wpList_append_own _ rfl _ _ 38 rfl w.heap.size 5 i0 (.int .u8 0) 1 1 Try.underlying38 hi hz0 hz1 hz2 rfl (by decide) _ _ _ rfl (HO.out.alloc _) ⟨w1.heap.size, 0, none⟩ 1 1 (bval [UInt8.ofNat 0]) rfl ?qc1 ?qc2 ?qc3 ?qc4 ?qc5 ?qc6 ?_)
    case qc1 => rfl
    case qc2 =>
      intro i u hu
      rw [BY0.out] at hu
      first | exact hu | (rw [add_plain, Nat.zero_add]; simpa using hu)
    case qc3 => intro u hu; obtain ⟨x, _, rfl⟩ := List.mem_map.1 hu; rfl
    case qc4 => unfold maxLen; omega
    case qc5 => omega
    case qc6 => have := HB.out.size; simp; omega
    intro v2 w2 hown hgrow hnil
    have HW : Hid (Own w.heap.size w2 v2 (l ++ [UInt8.ofNat 0])) := own_snoc hown
    have HBW : Hid (Below w.heap.size w w2) := by
      refine (HB.out.alloc HB.out.size _).grown hgrow (by have := HB.out.size; simp; omega) ?_
      intro kk hkk
      exact (World.ownsRow.lt HO.out kk hkk).1
    clear hown hgrow hnil
    go_wp2
    go_ret
    exact ⟨_, rfl, by rw [HL.out]; exact HW.out, HBW.out⟩
  · obtain rfl : n = (m : Int) := by omega
    clear hm
    go_enter Try.func71, Try.ntmps71
    go_wp2_with fail
    refine (copied_all _ _ _ HV.out (by have := HLL.out; omega)).mono ?_
    rintro e w1 ⟨v1, rfl, ho, hb⟩
    have HO : Hid (Own w.heap.size w1 v1 l) := ho
    have HB : Hid (Below w.heap.size w w1) := hb
    clear ho hb
    go_wp2_with (at_builtin; refine wpList_append_own _ rfl _ _ 38 rfl w.heap.size 5 i0 (.int .u8 0) 1 1 Try.underlying38 hi hz0 hz1 hz2 rfl (by decide) _ _ _ rfl (HO.out.alloc _) ⟨w1.heap.size, 0, none⟩ 1 1 (bval [UInt8.ofNat m]) rfl ?qc1 ?qc2 ?qc3 ?qc4 ?qc5 ?qc6 ?_)
    case qc1 => rfl
    case qc2 =>
      intro i u hu
      rw [BY.out] at hu
      first | exact hu | (rw [add_plain, Nat.zero_add]; simpa using hu)
    case qc3 => intro u hu; obtain ⟨x, _, rfl⟩ := List.mem_map.1 hu; rfl
    case qc4 => unfold maxLen; omega
    case qc5 => omega
    case qc6 => have := HB.out.size; simp; omega
    intro v2 w2 hown hgrow hnil
    have HW : Hid (Own w.heap.size w2 v2 (l ++ [UInt8.ofNat m])) := own_snoc hown
    have HBW : Hid (Below w.heap.size w w2) := by
      refine (HB.out.alloc HB.out.size _).grown hgrow (by have := HB.out.size; simp; omega) ?_
      intro kk hkk
      exact (World.ownsRow.lt HO.out kk hkk).1
    clear hown hgrow hnil
    go_wp2
    go_ret
    exact ⟨_, rfl, by rw [HL.out]; exact HW.out, HBW.out⟩
theorem refNum_bigA (v : Value) (l : List UInt8) (m : Nat) (h0 : 240 ≤ m) (h1 : m < 9223372036854775808) (w : World) (hv : Lib.HoldsBytes w v l) (hl : l.length ≤ 140737488352900) : Calls Try.prog 71 #[v, .int .i64 (m : Int)] w (RB w (l ++ enc m)) := by
  obtain ⟨i0, hi, hz0, hz1, hz2⟩ := info_parts Try.info5
  have HV : Hid (Lib.HoldsBytes w v l) := hv
  have HLL : Hid (l.length ≤ 140737488353000) := by show l.length ≤ 140737488353000; omega
  obtain ⟨L, hL⟩ : ∃ L, L = l ++ enc m := ⟨_, rfl⟩
  have HL : Hid (L = l ++ enc m) := hL
  rw [← hL]
  have HE : Hid (enc m = [UInt8.ofNat (239 + nb m)] ++ be m (nb m)) := by show enc m = _; unfold enc; rw [if_neg (by omega)]; rfl
  obtain ⟨k1, k8⟩ := nb_bounds m h0 h1
  have BY : Hid (bval [UInt8.ofNat (239 + nb m)] = [.int .u8 (239 + (nb m : Nat) : Int)]) := by
    show bval [UInt8.ofNat (239 + nb m)] = _
    have e : ((UInt8.ofNat (239 + nb m)).toNat : Int) = 239 + (nb m : Nat) := by rw [UInt8.toNat_ofNat']; omega
    simp only [bval, List.map_cons, List.map_nil]
    rw [e]
  obtain ⟨b0, hb0⟩ : ∃ b, UInt8.ofNat (239 + nb m) = b := ⟨_, rfl⟩
  rw [hb0] at HE BY
  clear hb0
  have H1 : Hid (m < 9223372036854775808) := h1
  have d0 : decide ((m : Int) < 0) = false := decide_eq_false (by omega)
  have d1 : decide ((m : Int) < 240) = false := decide_eq_false (by omega)
  have hw : IntKind.u64.wrap (m : Int) = (m : Int) := by rw [IntKind.wrap_u64]; omega
  have HLM : Hid (l.length ≤ 140737488352900) := hl
  obtain ⟨p, cap, rfl, q1, q2⟩ := hv
  clear q1 q2 hL
  clear h0 h1
  go_enter Try.func71, Try.ntmps71
  go_wp2_with fail
  refine (bytes_calls _ _ H1.out).mono ?_
  rintro e w0 ⟨rfl, hw0⟩
  have hw00 := hw0.symm
  subst hw00
  go_wp2_with fail
  refine (copied_all _ _ _ HV.out (by have := HLL.out; omega)).mono ?_
  rintro e w1 ⟨v1, rfl, ho, hb⟩
  have HO : Hid (Own w.heap.size w1 v1 l) := ho
  have HB : Hid (Below w.heap.size w w1) := hb
  clear ho hb
  go_wp2_with (at_builtin; refine wpList_append_own _ rfl _ _ 38 rfl w.heap.size 5 i0 (.int .u8 0) 1 1 Try.underlying38 hi hz0 hz1 hz2 rfl (by decide) _ _ _ rfl (HO.out.alloc _) ⟨w1.heap.size, 0, none⟩ 1 1 (bval [b0]) rfl ?qc1 ?qc2 ?qc3 ?qc4 ?qc5 ?qc6 ?_)
  case qc1 => rfl
  case qc2 =>
    intro i u hu
    rw [BY.out] at hu
    first | exact hu | (rw [add_plain, Nat.zero_add]; simpa using hu)
  case qc3 => intro u hu; obtain ⟨x, _, rfl⟩ := List.mem_map.1 hu; rfl
  case qc4 => unfold maxLen; omega
  case qc5 => omega
  case qc6 => have := HB.out.size; simp; omega
  intro v2 w2 hown hgrow hnil
  have HW : Hid (Own w.heap.size w2 v2 (l ++ [b0])) := own_snoc hown
  have HBW : Hid (Below w.heap.size w w2) := by
    refine (HB.out.alloc HB.out.size _).grown hgrow (by have := HB.out.size; simp; omega) ?_
    intro kk hkk
    exact (World.ownsRow.lt HO.out kk hkk).1
  clear hown hgrow hnil
  go_wp2_with fail
  refine (high_all w.heap.size _ _ _ _ _ (by have := H1.out; omega) k8 HBW.out.size HW.out (by have := HLM.out; simp; omega)).mono ?_
  rintro e w3 ⟨v3, rfl, ho, hb⟩
  have HO3 : Hid (Own w.heap.size w3 v3 (l ++ [b0] ++ be m (nb m))) := ho
  have HB3 : Hid (Below w.heap.size w2 w3) := hb
  clear ho hb
  go_wp2
  go_ret
  refine ⟨_, rfl, ?_, HBW.out.trans HB3.out⟩
  rw [HL.out, HE.out, ← List.append_assoc]
  exact HO3.out
theorem refBits_all (v : Value) (l : List UInt8) (x : Nat) (hx : x < 18446744073709551616) (w : World) (hv : Lib.HoldsBytes w v l) (hl : l.length ≤ 140737488353000) : Calls Try.prog 73 #[v, .int .u64 (x : Int)] w (RB w (l ++ be x 8)) := by
  have HV : Hid (Lib.HoldsBytes w v l) := hv
  have HLL : Hid (l.length ≤ 140737488353000) := hl
  obtain ⟨L, hL⟩ : ∃ L, L = l ++ be x 8 := ⟨_, rfl⟩
  have HL : Hid (L = l ++ be x 8) := hL
  rw [← hL]
  have HX : Hid (x < 18446744073709551616) := hx
  clear hx
  obtain ⟨p, cap, rfl, q1, q2⟩ := hv
  clear q1 q2 hL
  go_enter Try.func73, Try.ntmps73
  go_wp2_with fail
  refine (copied_all _ _ _ HV.out (by have := HLL.out; omega)).mono ?_
  rintro e w1 ⟨v1, rfl, ho, hb⟩
  have HO : Hid (Own w.heap.size w1 v1 l) := ho
  have HB : Hid (Below w.heap.size w w1) := hb
  clear ho hb
  go_wp2_with fail
  refine (high_all w.heap.size _ _ x 8 _ HX.out (by omega) HB.out.size HO.out HLL.out).mono ?_
  rintro e w3 ⟨v3, rfl, ho, hb⟩
  have HO3 : Hid (Own w.heap.size w3 v3 (l ++ be x 8)) := ho
  have HB3 : Hid (Below w.heap.size w1 w3) := hb
  clear ho hb
  go_wp2
  go_ret
  exact ⟨_, rfl, by rw [HL.out]; exact HO3.out, HB.out.trans HB3.out⟩
theorem refInt_all (v : Value) (l : List UInt8) (n : Int) (hn : (Lit.int .i64 n).wf = true) (w : World) (hv : Lib.HoldsBytes w v l) (hl : l.length ≤ 140737488353000) : Calls Try.prog 72 #[v, .int .i64 n] w (RB w (l ++ be (tn n) 8)) := by
  have HV : Hid (Lib.HoldsBytes w v l) := hv
  have HLL : Hid (l.length ≤ 140737488353000) := hl
  obtain ⟨L, hL⟩ : ∃ L, L = l ++ be (tn n) 8 := ⟨_, rfl⟩
  have HL : Hid (L = l ++ be (tn n) 8) := hL
  rw [← hL]
  have HX : Hid (tn n < 18446744073709551616) := tn_lt n hn
  have ht := turn_top n hn
  clear hn
  obtain ⟨p, cap, rfl, q1, q2⟩ := hv
  clear q1 q2 hL
  go_enter Try.func72, Try.ntmps72
  go_wp2_with fail
  refine (copied_all _ _ _ HV.out (by have := HLL.out; omega)).mono ?_
  rintro e w1 ⟨v1, rfl, ho, hb⟩
  have HO : Hid (Own w.heap.size w1 v1 l) := ho
  have HB : Hid (Below w.heap.size w w1) := hb
  clear ho hb
  go_wp2_with fail
  refine (high_all w.heap.size _ _ (tn n) 8 _ HX.out (by omega) HB.out.size HO.out HLL.out).mono ?_
  rintro e w3 ⟨v3, rfl, ho, hb⟩
  have HO3 : Hid (Own w.heap.size w3 v3 (l ++ be (tn n) 8)) := ho
  have HB3 : Hid (Below w.heap.size w1 w3) := hb
  clear ho hb
  go_wp2
  go_ret
  exact ⟨_, rfl, by rw [HL.out]; exact HO3.out, HB.out.trans HB3.out⟩
theorem refNum_all (v : Value) (l : List UInt8) (n : Int) (hn : n < 9223372036854775808) (w : World) (hv : Lib.HoldsBytes w v l) (hl : l.length ≤ 140737488352900) : Calls Try.prog 71 #[v, .int .i64 n] w (RB w (l ++ enc n.toNat)) := by
  by_cases h : n < 240
  · exact refNum_smallA v l n.toNat n h rfl w hv (by omega)
  · obtain ⟨m, rfl⟩ := Int.eq_ofNat_of_zero_le (show 0 ≤ n by omega)
    exact refNum_bigA v l m (by omega) (by omega) w hv hl
theorem refText_all (v : Value) (l : List UInt8) (s : ByteArray) (w : World) (hv : Lib.HoldsBytes w v l) (hl : l.length ≤ 140737488352900) (hs : s.size ≤ 1000) :
    Calls Try.prog 74 #[v, .string s] w (RB w (l ++ enc s.size ++ s.data.toList)) := by
  obtain ⟨i0, hi, hz0, hz1, hz2⟩ := info_parts Try.info5
  obtain ⟨L, hL⟩ : ∃ L, L = l ++ enc s.size ++ s.data.toList := ⟨_, rfl⟩
  have HL : Hid (L = l ++ enc s.size ++ s.data.toList) := hL
  rw [← hL]
  have NC := refNum_all v l (s.size : Int) (by omega) w hv hl
  rw [Int.toNat_natCast] at NC
  have HC : Hid (Calls Try.prog 71 #[v, .int .i64 (s.size : Int)] w (RB w (l ++ enc s.size))) := NC
  have he := enc_length s.size (by omega)
  have hlen : (l ++ enc s.size).length ≤ 140737488353100 := by rw [List.length_append]; omega
  generalize l ++ enc s.size = l2 at HC HL hlen
  obtain ⟨p, cap, rfl, q1, q2⟩ := hv
  clear q1 q2 hL NC he hl
  go_enter Try.func74, Try.ntmps74
  go_wp2_with fail
  refine HC.out.mono ?_
  rintro e w1 ⟨v1, rfl, ho, hb⟩
  have HO : Hid (Own w.heap.size w1 v1 l2) := ho
  have HB : Hid (Below w.heap.size w w1) := hb
  clear ho hb
  go_wp2_with (at_builtin; refine Lib.wpList_append_own_string _ rfl _ _ 38 9 rfl w.heap.size 5 i0 Try.underlying38 Try.underlying9 hi hz0 hz1 hz2 _ _ _ rfl HO.out s rfl ?qc4 ?qc5 ?qc6 ?_)
  case qc4 => unfold maxLen; omega
  case qc5 => omega
  case qc6 => exact HB.out.size
  intro v2 w2 hown hgrow hnil
  have HW : Hid (Own w.heap.size w2 v2 (l2 ++ s.data.toList)) := by
    show w2.ownsRow w.heap.size 5 1 v2 _ _
    have e1 : (l2 ++ s.data.toList).length = l2.length + s.size := by rw [List.length_append, str_len]
    have e2 : bval (l2 ++ s.data.toList) = bval l2 ++ Lib.strCells s := by simp [bval, Lib.strCells]
    rw [e1, e2]
    exact hown
  have HBW : Hid (Below w.heap.size w w2) := by
    refine HB.out.grown hgrow HB.out.size ?_
    intro kk hkk
    exact (World.ownsRow.lt HO.out kk hkk).1
  clear hown hgrow hnil
  go_wp2
  go_ret
  exact ⟨_, rfl, by rw [HL.out]; exact HW.out, HBW.out⟩
end Go.Proofs.Ytobblioplfpndaa
namespace Go.Proofs.Ytobblioplfpndaa
open Go.ChangeShapes Go.WideShapes Go.ChangeAt Go.RowKit Go.BigFrame
def BytesAtA (n : Nat) : Prop := ∀ (d : Nat) (v : Value) (t : Tv) (b : Value) (L : List UInt8) (w : World), Is w n v t → ShapeT n (d : Int) t → Lib.HoldsBytes w b L → L.length + (bytesT n t).length ≤ 140737488352600 → Calls Try.prog 45 #[b, v] w (RH w (L ++ bytesT n t))
set_option maxHeartbeats 2000000 in
set_option maxRecDepth 100000 in
theorem bytes_flatA (k x : Int) (b : Nat) (s : ByteArray) (a : Option Addr) (c : Nat) (bv : Value) (L : List UInt8) (w : World) (hk0 : 0 ≤ k) (hk : k ≤ 3) (hx : (Lit.int .i64 x).wf = true) (hb : b < 18446744073709551616) (hs : s.size ≤ 200) (hv : Lib.HoldsBytes w bv L) (hl : L.length + 210 ≤ 140737488352900) :
    Calls Try.prog 45 #[bv, .agg #[.int .i64 k, .int .i64 x, .int .u64 (b : Int), .string s, .slice a 0 c]] w (RH w (L ++ (enc k.toNat ++ (if k = 1 then be (tn x) 8 else if k = 2 then be b 8 else if k = 3 then enc s.size ++ s.data.toList else [])))) := by
  have he : (enc k.toNat).length = 1 := enc_one (by omega)
  have HN : Hid (∀ W, Below w.heap.size w W → Calls Try.prog 71 #[bv, .int .i64 k] W (RB W (L ++ enc k.toNat))) := fun W hB => refNum_all bv L k (by omega) W (holds_below hv hB) (by omega)
  obtain ⟨bp, bm, bc, rfl⟩ := holds_slice hv
  obtain ⟨M, hM⟩ : ∃ M, M = L ++ enc k.toNat := ⟨_, rfl⟩
  have hml : M.length ≤ 140737488352700 := by rw [hM, List.length_append]; omega
  rw [← List.append_assoc]
  rw [← hM] at HN ⊢
  have H1 : Hid (∀ W v, Lib.HoldsBytes W v M → Calls Try.prog 72 #[v, .int .i64 x] W (RB W (M ++ be (tn x) 8))) := fun W v h => refInt_all v M x hx W h (by omega)
  have H2 : Hid (∀ W v, Lib.HoldsBytes W v M → Calls Try.prog 73 #[v, .int .u64 (b : Int)] W (RB W (M ++ be b 8))) := fun W v h => refBits_all v M b hb W h (by omega)
  have H3 : Hid (∀ W v, Lib.HoldsBytes W v M → Calls Try.prog 74 #[v, .string s] W (RB W (M ++ enc s.size ++ s.data.toList))) := fun W v h => refText_all v M s W h (by omega) (by omega)
  clear hv hl he hM hml hx hb hs
  rcases (by omega : k = 0 ∨ k = 1 ∨ k = 2 ∨ k = 3) with rfl | rfl | rfl | rfl
  · rw [if_neg (by decide), if_neg (by decide), if_neg (by decide), List.append_nil]
    clear hk hk0
    go_enter Try.func45, Try.ntmps45
    go_wp2_with fail
    refine (HN.out _ (bel1 _ _)).mono ?_
    rintro e w1 ⟨v1, rfl, ho, hb⟩
    have HV : Hid (Lib.HoldsBytes w1 v1 M) := own_holds ho
    have HB : Hid (Below w.heap.size w w1) := bel2 (bel1 _ _) hb
    obtain ⟨p0, p1, p2, p3, p4⟩ := (box_at w (.int .i64 0) (.int .i64 x) (.int .u64 (b : Int)) (.string s) (.slice a 0 c)).below hb
    clear ho hb
    go_wp2_with fail
    go_ret
    exact ⟨_, rfl, HV.out, HB.out⟩
  · rw [if_pos rfl]
    clear hk hk0
    go_enter Try.func45, Try.ntmps45
    go_wp2_with fail
    refine (HN.out _ (bel1 _ _)).mono ?_
    rintro e w1 ⟨v1, rfl, ho, hb⟩
    have HV : Hid (Lib.HoldsBytes w1 v1 M) := own_holds ho
    have HB : Hid (Below w.heap.size w w1) := bel2 (bel1 _ _) hb
    obtain ⟨p0, p1, p2, p3, p4⟩ := (box_at w (.int .i64 1) (.int .i64 x) (.int .u64 (b : Int)) (.string s) (.slice a 0 c)).below hb
    clear ho hb
    go_wp2_with fail
    refine (H1.out _ _ HV.out).mono ?_
    rintro e w2 ⟨v2, rfl, ho, hb⟩
    have HV2 : Hid (Lib.HoldsBytes w2 v2 _) := own_holds ho
    have HB2 : Hid (Below w.heap.size w w2) := bel2 HB.out hb
    clear ho hb
    go_wp2_with fail
    go_ret
    exact ⟨_, rfl, HV2.out, HB2.out⟩
  · rw [if_neg (by decide), if_pos rfl]
    clear hk hk0
    go_enter Try.func45, Try.ntmps45
    go_wp2_with fail
    refine (HN.out _ (bel1 _ _)).mono ?_
    rintro e w1 ⟨v1, rfl, ho, hb⟩
    have HV : Hid (Lib.HoldsBytes w1 v1 M) := own_holds ho
    have HB : Hid (Below w.heap.size w w1) := bel2 (bel1 _ _) hb
    obtain ⟨p0, p1, p2, p3, p4⟩ := (box_at w (.int .i64 2) (.int .i64 x) (.int .u64 (b : Int)) (.string s) (.slice a 0 c)).below hb
    clear ho hb
    go_wp2_with fail
    refine (H2.out _ _ HV.out).mono ?_
    rintro e w2 ⟨v2, rfl, ho, hb⟩
    have HV2 : Hid (Lib.HoldsBytes w2 v2 _) := own_holds ho
    have HB2 : Hid (Below w.heap.size w w2) := bel2 HB.out hb
    clear ho hb
    go_wp2_with fail
    go_ret
    exact ⟨_, rfl, HV2.out, HB2.out⟩
  · rw [if_neg (by decide), if_neg (by decide), if_pos rfl, ← List.append_assoc]
    clear hk hk0
    go_enter Try.func45, Try.ntmps45
    go_wp2_with fail
    refine (HN.out _ (bel1 _ _)).mono ?_
    rintro e w1 ⟨v1, rfl, ho, hb⟩
    have HV : Hid (Lib.HoldsBytes w1 v1 M) := own_holds ho
    have HB : Hid (Below w.heap.size w w1) := bel2 (bel1 _ _) hb
    obtain ⟨p0, p1, p2, p3, p4⟩ := (box_at w (.int .i64 3) (.int .i64 x) (.int .u64 (b : Int)) (.string s) (.slice a 0 c)).below hb
    clear ho hb
    go_wp2_with fail
    refine (H3.out _ _ HV.out).mono ?_
    rintro e w2 ⟨v2, rfl, ho, hb⟩
    have HV2 : Hid (Lib.HoldsBytes w2 v2 _) := own_holds ho
    have HB2 : Hid (Below w.heap.size w w2) := bel2 HB.out hb
    clear ho hb
    go_wp2_with fail
    go_ret
    exact ⟨_, rfl, HV2.out, HB2.out⟩
set_option maxHeartbeats 2000000 in
set_option maxRecDepth 100000 in
theorem bytes_listA (n d : Nat) (ih : BytesAtA n) (x : Int) (b : Int) (s : ByteArray) (a : Option Addr) (c : Nat) (l : List Tv) (bv : Value) (L : List UInt8) (w : World) (hn : l.length ≤ 12) (hr : Row (Is w n) w a l) (hs : ∀ (i : Nat) t, l[i]? = some t → ShapeT n (d : Int) t) (hv : Lib.HoldsBytes w bv L) (hl : L.length + 2 + ((l.map (bytesT n)).flatten).length ≤ 140737488352600) :
    Calls Try.prog 45 #[bv, .agg #[.int .i64 4, .int .i64 x, .int .u64 b, .string s, .slice a l.length c]] w (RH w (L ++ enc 4 ++ enc l.length ++ (l.map (bytesT n)).flatten)) := by
  have hfl : ∀ j (hj : j < l.length), (((l.take j).map (bytesT n)).flatten).length + (bytesT n l[j]).length ≤ ((l.map (bytesT n)).flatten).length := fun j hj => by
    have h1 := flat_le (n := n) (l := l) (j := j + 1)
    rw [flat_more hj, List.length_append] at h1
    exact h1
  have e1 : (enc 4).length = 1 := enc_one (by omega)
  have e2 : (enc l.length).length = 1 := enc_one hn
  have HN : Hid (∀ W, Below w.heap.size w W → Calls Try.prog 71 #[bv, .int .i64 4] W (RB W (L ++ enc 4))) := fun W hB => refNum_all bv L 4 (by omega) W (holds_below hv hB) (by omega)
  have HM : Hid (∀ W v, Lib.HoldsBytes W v (L ++ enc 4) → Calls Try.prog 71 #[v, .int .i64 (l.length : Int)] W (RB W (L ++ enc 4 ++ enc l.length))) := fun W v h => by
    have := refNum_all v (L ++ enc 4) (l.length : Int) (by omega) W h (by rw [List.length_append]; omega)
    rwa [Int.toNat_natCast] at this
  obtain ⟨M, hM⟩ : ∃ M, M = L ++ enc 4 ++ enc l.length := ⟨_, rfl⟩
  have hml : M.length = L.length + 2 := by rw [hM, List.length_append, List.length_append]; omega
  rw [← hM] at HM ⊢
  obtain ⟨bp, bm, bc, rfl⟩ := holds_slice hv
  have HI : Hid (∀ (j : Nat) (hj : j < l.length) (v : Value) (bv : Value) (W : World), Is W n v (l[j]) → Lib.HoldsBytes W bv (M ++ ((l.take j).map (bytesT n)).flatten) → Calls Try.prog 45 #[bv, v] W (RH W (M ++ ((l.take (j + 1)).map (bytesT n)).flatten))) := fun j hj v bv W hi hb => by
    have := ih d v l[j] bv _ W hi (hs j _ (List.getElem?_eq_getElem hj)) hb (by rw [List.length_append]; have := hfl j hj; omega)
    rwa [List.append_assoc, ← flat_more hj] at this
  have HR : Hid (Row (Is w n) w a l) := hr
  obtain ⟨N, hN⟩ : ∃ N, N = l.length := ⟨_, rfl⟩
  rw [← hN] at HM ⊢
  have HNN : Hid (N = l.length ∧ N ≤ 12) := ⟨hN, by omega⟩
  clear hr hv hl hs hfl e1 e2 hM hml hN hn ih
  go_enter Try.func45, Try.ntmps45
  go_wp2_with fail
  refine (HN.out _ (bel1 _ _)).mono ?_
  rintro e w1 ⟨v1, rfl, ho, hb⟩
  have HV : Hid (Lib.HoldsBytes w1 v1 _) := own_holds ho
  have HB : Hid (Below w.heap.size w w1) := bel2 (bel1 _ _) hb
  have HP : Hid (At5 w1 w.heap.size 0 (.int .i64 4) (.int .i64 x) (.int .u64 b) (.string s) (.slice a N c)) := (box_at w (.int .i64 4) (.int .i64 x) (.int .u64 b) (.string s) (.slice a N c)).below hb
  clear ho hb
  obtain ⟨p0, p1, p2, p3, p4⟩ := HP.out
  go_wp2_with fail
  refine (HM.out _ _ HV.out).mono ?_
  rintro e w2 ⟨v2, rfl, ho, hb⟩
  have HV2 : Hid (Lib.HoldsBytes w2 v2 M) := own_holds ho
  have HB2 : Hid (Below w.heap.size w w2) := bel2 HB.out hb
  have HP2 : Hid (At5 w2 w.heap.size 0 (.int .i64 4) (.int .i64 x) (.int .u64 b) (.string s) (.slice a N c)) := HP.out.below hb
  clear ho hb p0 p1 p2 p3 p4
  go_wp2_with fail
  go_loopw [0, 5] (fun bb i wr => ∃ j : Nat, j ≤ N ∧ i = .int .i64 j ∧ Hid (Lib.HoldsBytes wr bb (M ++ ((l.take j).map (bytesT n)).flatten)) ∧ Hid (Below w2.heap.size w2 wr)) (fun _ i _ => N - (intOf i).toNat)
  case atStart => exact ⟨0, Nat.zero_le _, rfl, by simpa using HV2, Below.refl _ _⟩
  case round =>
    obtain ⟨j, hj, rfl, HE, HBr⟩ := hrel
    obtain ⟨p0, p1, p2, p3, p4⟩ := HP2.out.below HBr.out
    by_cases hlt : j < N
    · have HT : Hid (j < l.length) := by have := HNN.out.1; show _ < _; omega
      obtain ⟨B, o, c0, c1, c2, c3, c4, rfl, h5, hi⟩ := HR.out j _ (List.getElem?_eq_getElem HT.out)
      obtain ⟨k', x', b', s', a', m', c', rfl, rfl, rfl, rfl, rfl⟩ := hi.shape
      have HBw := bel2 HB2.out HBr.out
      obtain ⟨e0, e1, e2, e3, e4⟩ := h5.below HBw
      have C0 : Hid (Calls Try.prog 45 #[_, _] wr _) := HI.out j HT.out _ _ wr (hi.below HBw) HE.out
      have HW : Hid (wrap64 ((j : Int) + 1) = ((j + 1 : Nat) : Int)) := wr1 hlt (by have := HNN.out.2; omega)
      have hjl : (j : Int) < (N : Int) := by omega
      clear hi h5 HBw
      go_wp2_with fail
      refine C0.out.mono ?_
      rintro x w3 ⟨v3, rfl, hv3, hb3⟩
      have HV3 : Hid (Lib.HoldsBytes w3 v3 _) := hv3
      have HB3 : Hid (Below w2.heap.size w2 w3) := bel2 HBr.out hb3
      clear hv3 hb3
      go_wp2_with fail
      exact ⟨⟨j + 1, hlt, by rw [HW.out], HV3, HB3⟩, meas hlt HW.out⟩
    · obtain rfl : j = N := by omega
      go_wp2_with fail
      go_ret
      refine ⟨_, rfl, ?_, bel2 HB2.out HBr.out⟩
      have := HE.out
      rwa [List.take_of_length_le (by have := HNN.out.1; omega)] at this
theorem bytes_calls45A : ∀ n, BytesAtA n := by
  intro n
  induction n with
  | zero => intro d v t b L w h; exact h.elim
  | succ n ih =>
    rintro d v ⟨k, x, b, s, l⟩ bv L w ⟨a, c, rfl, hf, hr⟩ ⟨hfi, hk, hs⟩ hv hl
    obtain ⟨b, rfl⟩ : ∃ m : Nat, b = m := ⟨b.toNat, by have := hf.b0; omega⟩
    obtain ⟨k0, k4, _, _, _, _, hsz, hn0, hn⟩ := hfi
    by_cases h4 : k = 4
    · subst h4
      obtain ⟨d', rfl⟩ : ∃ d', d = d' + 1 := ⟨d - 1, by have := hk rfl; omega⟩
      unfold bytesT at hl ⊢
      rw [if_neg (by decide), if_neg (by decide), if_neg (by decide), if_pos rfl] at hl ⊢
      have e1 : (enc (4 : Int).toNat).length = 1 := enc_one (by omega)
      have e2 : (enc l.length).length = 1 := enc_one hn
      rw [List.length_append, List.length_append, e1, e2] at hl
      have := bytes_listA n d' ih x b s a c l bv L w hn hr (fun i t ht => by have := hs i t ht; rwa [show (((d' + 1 : Nat) : Int) - 1) = (d' : Int) by omega] at this) hv (by omega)
      rw [← List.append_assoc, ← List.append_assoc]
      exact this
    · obtain rfl : l = [] := List.eq_nil_of_length_eq_zero (hn0.resolve_left h4)
      have hx : (Lit.int .i64 x).wf = true := by
        have h1 := hf.x0
        have h2 := hf.x1
        simp only [Lit.wf, IntKind.min, IntKind.max, IntKind.signed, IntKind.bits, Bool.and_eq_true, decide_eq_true_eq, if_true]
        omega
      have := bytes_flatA k x b s a c bv L w k0 (by omega) hx (by have := hf.b1; omega) hsz hv (by omega)
      unfold bytesT
      rw [if_neg (c := k = 4) h4, Int.toNat_natCast]
      exact this
end Go.Proofs.Ytobblioplfpndaa
namespace Go.Proofs.Ytobblioplfpndaa
open Go.ChangeShapes Go.WideShapes Go.ChangeAt Go.RowKit Go.BigFrame
/-- append of bytes to none: its run. -/
theorem bapp_nil (v : Value) (l : List UInt8) (w : World) (hv : Lib.HoldsBytes w v l) (hl : l.length ≤ 140737488355328) :
    ∃ v' w', (∀ ty, (Builtin.append_ #[38, 38] ty #[.slice none 0 0, v]).run Try.prog w = .ok v' w') ∧ Own w.heap.size w' v' l ∧ Below w.heap.size w w' := by
  obtain ⟨p, cap, rfl, h1, h2⟩ := hv
  obtain ⟨i0, hi, hz0, hz1, hz2⟩ := info_parts Try.info5
  cases p with
  | none =>
    have hn : l = [] := h1 rfl
    subst hn
    exact ⟨.slice none 0 0, w, fun ty => by go_simp, World.ownsRow_nil _ _ _ _, Below.refl _ _⟩
  | some a =>
    have key : ∀ ty, ∃ v' w', (Builtin.append_ #[38, 38] ty #[.slice none 0 0, .slice (some a) l.length cap]).run Try.prog w = .ok v' w' ∧ w'.ownsRow w.heap.size 5 1 v' (0 + l.length) ([] ++ bval l) ∧ w.grownBy w' (Value.slice none 0 0).ownBlock ∧ _ := fun ty =>
      run_append_own (P := Try.prog) (w := w) w.heap.size 38 ty 5 i0 (.int .u8 0) 1 1 Try.underlying38 hi hz0 hz1 hz2 rfl (by decide) (.slice none 0 0) 0 [] (World.ownsRow_nil _ _ _ _) a l.length cap (bval l) (by simp [bval]) (by
        intro j u hj
        unfold bval at hj
        rw [List.getElem?_map] at hj
        obtain ⟨x, hx, rfl⟩ := Option.map_eq_some_iff.1 hj
        exact h2 a rfl j x hx) (by intro u hu; obtain ⟨x, _, rfl⟩ := List.mem_map.1 hu; rfl) (by unfold maxLen; omega) (by omega) (Nat.le_refl _)
    obtain ⟨v', w', hr, hown, hgrow, _⟩ := key 38
    exact ⟨v', w', fun ty => hr, by simpa [Own] using hown, (Below.refl _ w).grown hgrow (Nat.le_refl _) (by intro k hk; simp [Value.ownBlock] at hk)⟩
set_option maxHeartbeats 1000000 in
set_option maxRecDepth 100000 in
theorem rput_calls (n : Nat) (v : Value) (t : Tv) (b : Value) (l : List UInt8) (w : World) (h : Is w n v t) (hv : Lib.HoldsBytes w b l) (hl : l.length ≤ 140737488351232) :
    Calls Try.prog 29 #[b, v] w fun e w' => ∃ v', e = .returned v' ∧ (May n t → Lib.HoldsBytes w' v' (l ++ bytesT n t)) ∧ (¬ May n t → Lib.HoldsBytes w' v' l) ∧ Below w.heap.size w w' := by
  have HK : Hid (∀ W, Below w.heap.size w W → Calls Try.prog 21 #[v] W (CkP W (May n t))) := fun W hB => rcheck_calls n v t W (h.below hB)
  have HA : Hid (∀ W, Below w.heap.size w W → _) := fun W (hB : Below w.heap.size w W) => bapp_nil b l W (holds_below hv hB) (by omega)
  have HY : Hid (May n t → ∀ W bv, Below w.heap.size w W → Lib.HoldsBytes W bv l → Calls Try.prog 45 #[bv, v] W (RH W (l ++ bytesT n t))) := fun m W bv hB hb => bytes_calls45A n 4 v t bv l W (h.below hB) m.1 hb (by have := m.2; omega)
  obtain ⟨k, x, bb, s, a, m, c, rfl⟩ : ∃ k x b s a m c, v = .agg #[.int .i64 k, .int .i64 x, .int .u64 b, .string s, .slice a m c] := by
    cases n with
    | zero => exact h.elim
    | succ n => obtain ⟨k, x, b, s, l⟩ := t; obtain ⟨a, c, rfl, _⟩ := h; exact ⟨_, _, _, _, _, _, _, rfl⟩
  obtain ⟨bp, bm, bc, rfl⟩ := holds_slice hv
  have HM : Hid (May n t ∨ ¬ May n t) := Classical.em _
  clear h hv hl
  go_enter Try.func29, Try.ntmps29
  go_wp2_with fail
  refine (HK.out _ (bel1 _ _)).mono ?_
  rintro e w1 ⟨⟨r, rfl, hr1, hr2⟩, hb1⟩
  have HB1 : Hid (Below w.heap.size w w1) := bel2 (bel1 _ _) hb1
  obtain ⟨p0, p1, p2, p3, p4⟩ := (box_at w (.int .i64 k) (.int .i64 x) (.int .u64 bb) (.string s) (.slice a m c)).below hb1
  have HR : Hid ((May n t → r = 0) ∧ (¬ May n t → r = 1)) := ⟨hr1, hr2⟩
  clear hb1 hr1 hr2
  rcases HM.out with hm | hm
  · have hr0 := HR.out.1 hm
    subst hr0
    have HMy : Hid (May n t) := hm
    clear hm HR HM
    obtain ⟨v2, w2, hrun, ho2, hb2⟩ := HA.out w1.drew HB1.out.drew
    obtain ⟨vp, vm, vc, rfl⟩ := holds_slice (own_holds ho2)
    have HO2 : Hid (Lib.HoldsBytes w2 (.slice vp vm vc) l) := own_holds ho2
    have HB2 : Hid (Below w.heap.size w w2) := bel2 HB1.out.drew hb2
    have z : At5 w2 w.heap.size 0 (.int .i64 k) (.int .i64 x) (.int .u64 bb) (.string s) (.slice a m c) := At5.below (w := w1.drew) ⟨p0, p1, p2, p3, p4⟩ hb2
    obtain ⟨z0, z1, z2, z3, z4⟩ := z
    clear ho2 hb2
    go_wp2_with fail
    go_region_law (first
      | (refine step_app_run rfl (.const (.slice none 0 0)) (.tmp 10) 38 rfl (.slice none 0 0) (.slice bp bm bc) rfl rfl (by with_reducible assumption) ?_)
      | (go_simp; go_at_call 45; refine (HY.out HMy.out _ _ HB2.out HO2.out).mono ?_; rintro x w3 ⟨v3, rfl, hv3, hb3⟩; have HV3 : Hid (Lib.HoldsBytes w3 v3 _) := hv3; have HB3 : Hid (Below w.heap.size w w3) := bel2 HB2.out hb3; clear hv3 hb3))
    all_goals go_wp2_with fail
    all_goals go_ret
    all_goals exact ⟨_, rfl, fun _ => HV3.out, fun q => absurd HMy.out q, HB3.out⟩
  · have hr0 := HR.out.2 hm
    subst hr0
    have HMy : Hid (¬ May n t) := hm
    clear hm HR HM
    obtain ⟨v2, w2, hrun, ho2, hb2⟩ := HA.out w1 HB1.out
    have HO2 : Hid (Lib.HoldsBytes w2 v2 l) := own_holds ho2
    have HB2 : Hid (Below w.heap.size w w2) := bel2 HB1.out hb2
    clear ho2 hb2
    go_wp2_with (at_builtin; refine Lib.wpList_append_run _ rfl _ _ 38 38 rfl _ _ rfl rfl _ _ (hrun _) ?_)
    go_ret
    exact ⟨_, rfl, fun q => absurd q HMy.out, fun _ => HO2.out, HB2.out⟩
end Go.Proofs.Ytobblioplfpndaa
namespace Go.Proofs.Ytobblioplfpndaa
open Go.ChangeShapes Go.WideShapes Go.ChangeAt Go.RowKit Go.BigFrame
theorem St.below {w w' : World} {g h : Nat} {l : List UInt8} {e : Int} (r : St w g h l e) (hh : h < w.heap.size) (hb : Below w.heap.size w w') : St w' g h l e := r.keep hb.size (hb.block g r.lt) (hb.block h hh)
theorem RT.below {w w' : World} {g h : Nat} {l : List UInt8} {e : Int} (r : RT w g h l e) (hh : h < w.heap.size) (hb : Below w.heap.size w w') : RT w' g h l e := r.keep (hb.block g r.lt) (hb.block h hh)
theorem IsN.five {lo : Nat} {w : World} : ∀ {n : Nat} {v : Value} {t : Tv}, IsN lo w n v t → ∃ k x b s a m c, v = .agg #[.int .i64 k, .int .i64 x, .int .u64 b, .string s, .slice a m c]
  | 0, _, _, h => h.elim
  | _ + 1, _, .mk k x b s l, ⟨a, c, hv, _, _⟩ => ⟨k, x, b, s, a, l.length, c, hv⟩
set_option maxHeartbeats 4000000 in
set_option maxRecDepth 100000 in
theorem codes_walk (n : Nat) (b : Value) (l : List UInt8) (v : Value) (t : Tv) (cv : Value) (lc : List UInt8) (w : World) (h : Is w n v t) (hb : Lib.HoldsBytes w b l) (hl : l.length ≤ 140737488351232) (hc : Lib.HoldsBytes w cv lc) (hlc : lc.length ≤ 140737488351232) :
    Calls Try.prog 5 #[b, v, cv] w fun e w' => e = .returned (.bool true) ∧ Below w.heap.size w w' := by
  have HF1 : Hid (∀ W, Below w.heap.size w W → _) := fun W (hB : Below w.heap.size w W) => fine_calls n v t W (h.below hB)
  have HPB : Hid (∀ W, Below w.heap.size w W → Calls Try.prog 25 #[cv] W (PsP W (psR lc))) := fun W hB => parse_calls W cv lc (holds_below hc hB) (by omega)
  have HPR : Hid (∀ W, Below w.heap.size w W → Calls Try.prog 26 #[cv] W (PsP W (psR lc))) := fun W hB => rparse_calls W cv lc (holds_below hc hB) (by omega)
  obtain ⟨O, HP1, HP2⟩ : ∃ O : List UInt8, Hid (∀ W, Below w.heap.size w W → Calls Try.prog 28 #[b, v] W fun e w' => ∃ p m c, e = .returned (.slice p m c) ∧ Lib.HoldsBytes w' (.slice p m c) O ∧ Below W.heap.size W w') ∧ Hid (∀ W, Below w.heap.size w W → Calls Try.prog 29 #[b, v] W fun e w' => ∃ p m c, e = .returned (.slice p m c) ∧ Lib.HoldsBytes w' (.slice p m c) O ∧ Below W.heap.size W w') := by
    rcases Classical.em (May n t) with hm | hm
    · exact ⟨_, fun W hB => (put_calls n v t b l W (h.below hB) (holds_below hb hB) (by omega)).mono fun e w' ⟨v', he, h1, _, hb⟩ => by
        obtain ⟨p, c, rfl, q⟩ := h1 hm
        exact ⟨p, _, c, he, ⟨p, c, rfl, q⟩, hb⟩, fun W hB => (rput_calls n v t b l W (h.below hB) (holds_below hb hB) (by omega)).mono fun e w' ⟨v', he, h1, _, hb⟩ => by
        obtain ⟨p, c, rfl, q⟩ := h1 hm
        exact ⟨p, _, c, he, ⟨p, c, rfl, q⟩, hb⟩⟩
    · exact ⟨_, fun W hB => (put_calls n v t b l W (h.below hB) (holds_below hb hB) (by omega)).mono fun e w' ⟨v', he, _, h1, hb⟩ => by
        obtain ⟨p, c, rfl, q⟩ := h1 hm
        exact ⟨p, _, c, he, ⟨p, c, rfl, q⟩, hb⟩, fun W hB => (rput_calls n v t b l W (h.below hB) (holds_below hb hB) (by omega)).mono fun e w' ⟨v', he, _, h1, hb⟩ => by
        obtain ⟨p, c, rfl, q⟩ := h1 hm
        exact ⟨p, _, c, he, ⟨p, c, rfl, q⟩, hb⟩⟩
  have HEq : Hid (∀ W v1 v2, Lib.HoldsBytes W v1 O → Lib.HoldsBytes W v2 O → Calls Try.prog 27 #[v1, v2] W fun e w' => e = .returned (.bool true) ∧ Below W.heap.size W w') := fun W v1 v2 h1 h2 => (equal_calls v1 v2 O O W h1 h2).mono fun e w' ⟨he, hw⟩ => ⟨by rw [he]; simp, by rw [hw]; exact Below.refl _ _⟩
  have HSm : Hid (∀ W u1 u2 t, Is W 5 u1 t → Is W 5 u2 t → Calls Try.prog 11 #[u1, u2] W fun e w' => e = .returned (.bool true) ∧ Below W.heap.size W w') := fun W u1 u2 t h1 h2 => (rsame_calls 5 u1 t u2 t W h1 h2).mono fun e w' ⟨⟨r, he, hr⟩, hb⟩ => by
    obtain rfl := hr.2 rfl
    exact ⟨he, hb⟩
  have HO1 : Hid (∀ W, Below w.heap.size w W → _) := fun W (hB : Below w.heap.size w W) => open_calls cv lc W (holds_below hc hB) (by omega)
  have HO2 : Hid (∀ W, Below w.heap.size w W → 0 < W.heap.size → _) := fun W (hB : Below w.heap.size w W) (h0 : 0 < W.heap.size) => ropen2_calls cv lc W (holds_below hc hB) (by omega) h0
  have HR1 : Hid (∀ W g h, St W g h lc 0 → h < W.heap.size → Calls Try.prog 32 #[.pointer (some ⟨g, 0, none⟩)] W (RdP W g h 5 (rdR lc 0))) := fun W g h r hh => readv_calls W g h lc 0 r hh (by omega)
  have HR2 : Hid (∀ W g h, RT W g h lc 0 → h < W.heap.size → Calls Try.prog 33 #[.pointer (some ⟨g, 0, none⟩)] W (RdX W g h 5 (rdR lc 0))) := fun W g h r hh => rreadv_calls W g h lc 0 r hh (by omega)
  obtain ⟨k, x, bb, s, aa, m, c, rfl⟩ := h.five
  obtain ⟨ba, bm, bc, rfl⟩ : ∃ p m c, b = .slice p m c := by obtain ⟨p, cap, rfl, q1, q2⟩ := hb; exact ⟨_, _, _, rfl⟩
  obtain ⟨ca, cm, cc, rfl⟩ : ∃ p m c, cv = .slice p m c := by obtain ⟨p, cap, rfl, q1, q2⟩ := hc; exact ⟨_, _, _, rfl⟩
  generalize psR lc = R at HPB HPR
  obtain ⟨t2, E⟩ := R
  generalize rdR lc 0 = R at HR1 HR2
  obtain ⟨t3, l3, e3⟩ := R
  clear h hb hl hc hlc
  go_enter Try.func5, Try.ntmps5
  go_wp2_with fail
  generalize hW0 : w.alloc (Obj.cells #[.int .i64 k, .int .i64 x, .int .u64 bb, .string s, .slice aa m c] 25) = W0
  have HA : Hid (At5 W0 w.heap.size 0 (.int .i64 k) (.int .i64 x) (.int .u64 bb) (.string s) (.slice aa m c)) := by subst hW0; exact box_at w _ _ _ _ _
  have HB0 : Hid (Below w.heap.size w W0) := by subst hW0; exact bel1 _ _
  have HZ0 : Hid (w.heap.size < W0.heap.size) := by subst hW0; show _ < _; simp
  clear hW0
  refine (HF1.out W0 HB0.out).mono ?_
  rintro e w1 ⟨⟨f1, rfl⟩, hb1⟩
  have T1 : Hid (Below W0.heap.size W0 w1) := hb1
  clear hb1
  cases f1 with
  | false =>
    go_wp2_with fail
    refine (awake_calls _).mono ?_
    rintro e w2 ⟨rfl, hb2⟩
    have T2 : Hid (Below W0.heap.size W0 w2) := bel2 T1.out hb2
    clear hb2
    go_wp2_with fail
    go_ret
    exact ⟨rfl, bel2 HB0.out T2.out⟩
  | true =>
    go_wp2_with fail
    refine (HPB.out w1 (bel2 HB0.out T1.out)).mono ?_
    rintro e w2 ⟨u, rfl, hu, hb2⟩
    dsimp only at hu
    obtain ⟨xk, xx, xb, xs, xa, xm, xc, rfl⟩ := hu.five
    have U0 : Hid (Is (w2.alloc (.cells #[.int .i64 xk, .int .i64 xx, .int .u64 xb, .string xs, .slice xa xm xc] 25)) 5 (Value.agg #[.int .i64 xk, .int .i64 xx, .int .u64 xb, .string xs, .slice xa xm xc]) t2) := hu.below (bel1 _ _)
    have HX : Hid (At5 (w2.alloc (.cells #[.int .i64 xk, .int .i64 xx, .int .u64 xb, .string xs, .slice xa xm xc] 25)) w2.heap.size 0 (.int .i64 xk) (.int .i64 xx) (.int .u64 xb) (.string xs) (.slice xa xm xc)) := box_at w2 _ _ _ _ _
    have T3 : Hid (Below W0.heap.size W0 (w2.alloc (.cells #[.int .i64 xk, .int .i64 xx, .int .u64 xb, .string xs, .slice xa xm xc] 25))) := bel2 (bel2 T1.out hb2) (bel1 _ _)
    obtain ⟨W3, hW⟩ : ∃ W3, W3 = w2.alloc (.cells #[.int .i64 xk, .int .i64 xx, .int .u64 xb, .string xs, .slice xa xm xc] 25) := ⟨_, rfl⟩
    obtain ⟨qx, hq⟩ : ∃ q, q = w2.heap.size := ⟨_, rfl⟩
    rw [← hW] at U0 HX T3
    rw [← hq] at HX
    have HW3 : Hid (W3 = _) := hW
    have HQX : Hid (qx = w2.heap.size) := hq
    clear hu hb2 hW hq
    go_upto_region 4 with fail
    rw [← HW3.out, ← HQX.out]
    go_wp2_with fail
    refine (HPR.out W3 (bel2 HB0.out T3.out)).mono ?_
    rintro e w4 ⟨u, rfl, hu, hb4⟩
    dsimp only at hu
    obtain ⟨yk, yx, yb, ys, ya, ym, yc, rfl⟩ := hu.five
    have U2 : Hid (Is (w4.alloc (.cells #[.int .i64 yk, .int .i64 yx, .int .u64 yb, .string ys, .slice ya ym yc] 25)) 5 (Value.agg #[.int .i64 yk, .int .i64 yx, .int .u64 yb, .string ys, .slice ya ym yc]) t2) := hu.below (bel1 _ _)
    have U1 : Hid (Is (w4.alloc (.cells #[.int .i64 yk, .int .i64 yx, .int .u64 yb, .string ys, .slice ya ym yc] 25)) 5 (Value.agg #[.int .i64 xk, .int .i64 xx, .int .u64 xb, .string xs, .slice xa xm xc]) t2) := (U0.out.below hb4).below (bel1 _ _)
    have HY : Hid (At5 (w4.alloc (.cells #[.int .i64 yk, .int .i64 yx, .int .u64 yb, .string ys, .slice ya ym yc] 25)) w4.heap.size 0 (.int .i64 yk) (.int .i64 yx) (.int .u64 yb) (.string ys) (.slice ya ym yc)) := box_at w4 _ _ _ _ _
    have TXY : Hid (Below W3.heap.size W3 (w4.alloc (.cells #[.int .i64 yk, .int .i64 yx, .int .u64 yb, .string ys, .slice ya ym yc] 25))) := bel2 hb4 (bel1 _ _)
    obtain ⟨W5, hW⟩ : ∃ W5, W5 = w4.alloc (.cells #[.int .i64 yk, .int .i64 yx, .int .u64 yb, .string ys, .slice ya ym yc] 25) := ⟨_, rfl⟩
    obtain ⟨qy, hq⟩ : ∃ q, q = w4.heap.size := ⟨_, rfl⟩
    rw [← hW] at U1 U2 HY TXY
    rw [← hq] at HY
    have HW5 : Hid (W5 = _) := hW
    have HQY : Hid (qy = w4.heap.size) := hq
    have T5 : Hid (Below W0.heap.size W0 W5) := bel2 T3.out TXY.out
    clear hu hb4 hW hq
    go_upto_region 5 with fail
    rw [← HW5.out, ← HQY.out]
    obtain ⟨a50, a51, a52, a53, a54⟩ := HA.out.below T5.out
    obtain ⟨b50, b51, b52, b53, b54⟩ := HX.out.below TXY.out
    obtain ⟨c50, c51, c52, c53, c54⟩ := HY.out
    go_region_held3 (fun w' => w'.cell? ⟨w.heap.size, 0, none⟩ = some (.int .i64 k) ∧ w'.cell? ⟨w.heap.size, 0 + 1, none⟩ = some (.int .i64 x) ∧ w'.cell? ⟨w.heap.size, 0 + 2, none⟩ = some (.int .u64 bb) ∧ w'.cell? ⟨w.heap.size, 0 + 3, none⟩ = some (.string s) ∧ w'.cell? ⟨w.heap.size, 0 + 4, none⟩ = some (.slice aa m c) ∧ w'.cell? ⟨qx, 0, none⟩ = some (.int .i64 xk) ∧ w'.cell? ⟨qx, 0 + 1, none⟩ = some (.int .i64 xx) ∧ w'.cell? ⟨qx, 0 + 2, none⟩ = some (.int .u64 xb) ∧ w'.cell? ⟨qx, 0 + 3, none⟩ = some (.string xs) ∧ w'.cell? ⟨qx, 0 + 4, none⟩ = some (.slice xa xm xc) ∧ w'.cell? ⟨qy, 0, none⟩ = some (.int .i64 yk) ∧ w'.cell? ⟨qy, 0 + 1, none⟩ = some (.int .i64 yx) ∧ w'.cell? ⟨qy, 0 + 2, none⟩ = some (.int .u64 yb) ∧ w'.cell? ⟨qy, 0 + 3, none⟩ = some (.string ys) ∧ w'.cell? ⟨qy, 0 + 4, none⟩ = some (.slice ya ym yc)) (go_keep) (first
      | (go_at_call 28; refine (HP1.out _ (bel2 HB0.out T5.out).drew).mono ?_; rintro e w6 ⟨p6, m6, c6, rfl, hh6, hb6⟩; have T6 : Hid (Below W5.heap.size W5 w6) := bel2 (Below.refl _ W5).drew hb6; have G6 : Hid (Lib.HoldsBytes w6 _ O) := hh6; obtain ⟨a60, a61, a62, a63, a64⟩ := HA.out.below (bel2 T5.out T6.out); obtain ⟨b60, b61, b62, b63, b64⟩ := HX.out.below (bel2 TXY.out T6.out); obtain ⟨c60, c61, c62, c63, c64⟩ := HY.out.below T6.out; clear hb6 hh6)
      | (go_at_call 29; refine (HP2.out _ (bel2 HB0.out (bel2 T5.out T6.out))).mono ?_; rintro e w7 ⟨p7, m7, c7, rfl, hh7, hb7⟩; have T7 : Hid (Below W5.heap.size W5 w7) := bel2 T6.out hb7; have G7 : Hid (Lib.HoldsBytes w7 _ O) := hh7; have G6b : Hid (Lib.HoldsBytes w7 _ O) := holds_below G6.out hb7; obtain ⟨a70, a71, a72, a73, a74⟩ := HA.out.below (bel2 T5.out T7.out); obtain ⟨b70, b71, b72, b73, b74⟩ := HX.out.below (bel2 TXY.out T7.out); obtain ⟨c70, c71, c72, c73, c74⟩ := HY.out.below T7.out; clear hb7 hh7)
      | (go_at_call 27; refine (HEq.out _ _ _ G6b.out G7.out).mono ?_; rintro e w8 ⟨rfl, hb8⟩; have T8 : Hid (Below W5.heap.size W5 w8) := bel2 T7.out hb8; obtain ⟨a80, a81, a82, a83, a84⟩ := HA.out.below (bel2 T5.out T8.out); obtain ⟨b80, b81, b82, b83, b84⟩ := HX.out.below (bel2 TXY.out T8.out); obtain ⟨c80, c81, c82, c83, c84⟩ := HY.out.below T8.out; clear hb8)
      | (go_at_call 11; refine (HSm.out _ _ _ t2 (U1.out.below T8.out) (U2.out.below T8.out)).mono ?_; rintro e w9 ⟨rfl, hb9⟩; have T9 : Hid (Below W5.heap.size W5 w9) := bel2 T8.out hb9; obtain ⟨a90, a91, a92, a93, a94⟩ := HA.out.below (bel2 T5.out T9.out); obtain ⟨b90, b91, b92, b93, b94⟩ := HX.out.below (bel2 TXY.out T9.out); obtain ⟨c90, c91, c92, c93, c94⟩ := HY.out.below T9.out; clear hb9)
      )
    clear a50 a51 a52 a53 a54 b50 b51 b52 b53 b54 c50 c51 c52 c53 c54 a60 a61 a62 a63 a64 b60 b61 b62 b63 b64 c60 c61 c62 c63 c64 a70 a71 a72 a73 a74 b70 b71 b72 b73 b74 c70 c71 c72 c73 c74 a80 a81 a82 a83 a84 b80 b81 b82 b83 b84 c80 c81 c82 c83 c84 a90 a91 a92 a93 a94 b90 b91 b92 b93 b94 c90 c91 c92 c93 c94
    have TW : Hid (Below w.heap.size w w9) := bel2 HB0.out (bel2 T5.out T9.out)
    have HZ9 : Hid (0 < w9.heap.size ∧ w.heap.size ≤ w9.heap.size) := by have := HZ0.out; have := T5.out.size; have := T9.out.size; show _ ∧ _; omega
    clear HA HX HY T1 T3 T5 TXY U0 U1 U2 HW3 HW5 HQX HQY HF1 HPB HPR HP1 HP2 HEq HB0 HZ0 T6 T7 T8 T9 G6 G7 G6b
    go_wp2_with fail
    refine (HO1.out w9 TW.out).mono ?_
    rintro e w10 ⟨g, h, rfl, hh1, hh2, hg1, s10, b10⟩
    have TX : Hid (Below w.heap.size w w10) := bel2 TW.out b10
    have HG : Hid (w9.heap.size ≤ h ∧ h < g ∧ g < w10.heap.size) := ⟨hh1, hh2, hg1⟩
    have S10 : Hid (St w10 g h lc 0) := s10
    clear hh1 hh2 hg1 s10 b10
    go_wp2_with fail
    refine (HO2.out w10 TX.out (by have := HG.out; omega)).mono ?_
    rintro e w11 ⟨g2, h2, rfl, k1, k2, k3, s11, b11⟩
    have TY : Hid (Below w.heap.size w w11) := bel2 TX.out b11
    have HG2 : Hid (w10.heap.size ≤ g2 ∧ g2 < w11.heap.size ∧ h2 < w11.heap.size ∧ h2 ≠ g ∧ w10.heap.size ≤ w11.heap.size) := by have := HG.out; have := HZ9.out; have := s11.lt; have := b11.size; show _ ∧ _; omega
    have S11 : Hid (RT w11 g2 h2 lc 0) := s11
    have RC1 : Hid (Calls Try.prog 32 #[.pointer (some ⟨g, 0, none⟩)] w11 (RdP w11 g h 5 (t3, l3, e3))) := HR1.out w11 g h (S10.out.below (by have := HG.out; omega) b11) (by have := HG.out; have := HG2.out; omega)
    clear k1 k2 k3 s11 b11
    go_wp2_with fail
    refine RC1.out.mono ?_
    rintro x12 w12 ⟨v12, rfl, i12, s12, kb12⟩
    dsimp only at i12 s12
    obtain ⟨xk, xx, xb, xs, xa, xm, xc, rfl⟩ := i12.five
    have RC2 : Hid (Calls Try.prog 33 #[.pointer (some ⟨g2, 0, none⟩)] w12 (RdX w12 g2 h2 5 (t3, l3, e3))) := HR2.out w12 g2 h2 (S11.out.kb kb12 (by have := HG.out; have := HG2.out; omega) HG2.out.2.2.2.1) (Nat.lt_of_lt_of_le HG2.out.2.2.1 kb12.2.2.2.1)
    have I12 : Hid (IsN w11.heap.size w12 5 _ t3) := i12
    have S12 : Hid (St w12 g h l3 e3) := s12
    have K12 : Hid (KB g w11 w12) := kb12
    clear i12 s12 kb12 RC1
    go_wp2_with fail
    refine RC2.out.mono ?_
    rintro x13 w13 ⟨v13, rfl, i13, s13, kb13⟩
    dsimp only at i13 s13
    obtain ⟨zk, zx, zb, zs, za, zm, zc, rfl⟩ := i13.five
    have z12 := K12.out.2.2.2.1
    have z13 := kb13.2.2.2.1
    have S13 : Hid (St w13 g h l3 e3) := S12.out.keep z13 (kb13.2.2.2.2 g (by have := HG.out; have := HG2.out; omega) (by have := HG.out; have := HG2.out; omega)) (kb13.2.2.2.2 h (by have := HG.out; have := HG2.out; omega) (by have := HG.out; have := HG2.out; omega))
    have R13 : Hid (RT w13 g2 h2 l3 e3) := s13
    have SC : Hid (Calls Try.prog 11 _ w13 _) := HSm.out w13 _ _ t3 (I12.out.kb kb13 HG2.out.2.1).is i13.is
    have TZ : Hid (Below w.heap.size w w13) := (TY.out.trans (K12.out.below (by have := HG.out; have := HZ9.out; omega) (by have := HG.out; have := HG2.out; have := HZ9.out; omega))).trans (kb13.below (by have := HG.out; have := HG2.out; have := HZ9.out; omega) (by have := HG.out; have := HG2.out; have := HZ9.out; omega))
    have HH : Hid (h < w13.heap.size ∧ h2 < w13.heap.size) := by have := HG.out; have := HG2.out; show _ ∧ _; omega
    clear z12 z13 i13 s13 kb13 RC2 I12 S12 K12
    go_wp2_with fail
    refine SC.out.mono ?_
    rintro e w14 ⟨rfl, hb14⟩
    have TE : Hid (Below w.heap.size w w14) := bel2 TZ.out hb14
    have S14 : Hid (St w14 g h l3 e3) := S13.out.below HH.out.1 hb14
    have R14 : Hid (RT w14 g2 h2 l3 e3) := R13.out.below HH.out.2 hb14
    clear hb14 SC
    have C1 : Hid (Calls Try.prog 34 #[.pointer (some ⟨g, 0, none⟩)] w14 _) := err_st S14.out
    have C2 : Hid (Calls Try.prog 35 #[.pointer (some ⟨g2, 0, none⟩)] w14 _) := rerr_rt _ _ _ _ _ R14.out
    have C3 : Hid (Calls Try.prog 36 #[.pointer (some ⟨g, 0, none⟩)] w14 _) := left_st _ _ _ _ _ S14.out
    have C4 : Hid (Calls Try.prog 37 #[.pointer (some ⟨g2, 0, none⟩)] w14 _) := rleft_rt _ _ _ _ _ R14.out
    go_wp2_with fail
    refine C1.out.mono ?_
    rintro e y1 ⟨rfl, hy⟩
    have hy' := hy.symm
    subst hy'
    clear hy
    go_wp2_with fail
    refine C2.out.mono ?_
    rintro e y1 ⟨rfl, hy⟩
    have hy' := hy.symm
    subst hy'
    clear hy
    go_wp2_with fail
    refine C3.out.mono ?_
    rintro e y1 ⟨rfl, hy⟩
    have hy' := hy.symm
    subst hy'
    clear hy
    go_wp2_with fail
    refine C4.out.mono ?_
    rintro e y1 ⟨rfl, hy⟩
    have hy' := hy.symm
    subst hy'
    clear hy
    go_wp2_with fail
    refine (awake_calls _).mono ?_
    rintro e y2 ⟨rfl, hb2⟩
    have TE2 : Hid (Below w.heap.size w y2) := bel2 TE.out hb2
    clear hb2
    go_wp2_with fail
    go_ret
    exact ⟨rfl, TE2.out⟩
end Go.Proofs.Ytobblioplfpndaa
