/- The contract of Parse. -/
import Derived.Test.YtobblioplfpndaaXF
namespace Go.Proofs.Ytobblioplfpndaa
open Go.ChangeShapes Go.WideShapes Go.ChangeAt Go.RowKit
/-- What Parse answers. -/
def psR (l : List UInt8) : Tv × Int :=
  if en (rdR l 0).2.1 (rdR l 0).2.2 = 0 then ((rdR l 0).1, 0) else (zT, en (rdR l 0).2.1 (rdR l 0).2.2)
theorem ret25 (tmps : Array Value) {w : World} {g : Nat} {c0 c1 c2 c3 c4 y : Value} (hp : tmps.getD 2 undef = .pointer (some ⟨g, 0, none⟩)) (hq : tmps.getD 3 undef = y) (h5 : At5 w g 0 c0 c1 c2 c3 c4) :
    (results Try.f25 tmps).run Try.prog w = .ok (.tuple #[.agg #[c0, c1, c2, c3, c4], y]) w := by
  have hp' : tmps[2]?.getD undef = .pointer (some ⟨g, 0, none⟩) := by simpa using hp
  have hq' : tmps[3]?.getD undef = y := by simpa using hq
  simp [results, hp', hq', asAddr, load5 h5]
/-- Where Parse stands when the value is read. -/
structure PMid (w W : World) (g h q : Nat) (l : List UInt8) (e : Int) (c0 c1 c2 c3 c4 : Value) (t : Tv) : Prop where
  q0 : w.heap.size < q
  q1 : q < W.heap.size
  res : At5 W w.heap.size 0 (.int .i64 0) (.int .i64 0) (.int .u64 0) (.string ⟨#[]⟩) (.slice none 0 0)
  rfr : ∀ o, W.frozen? ⟨w.heap.size, o, none⟩ = false
  own : At5 W q 0 c0 c1 c2 c3 c4
  st : St W g h l e
  is : IsN (w.heap.size + 1) W 5 (.agg #[c0, c1, c2, c3, c4]) t
  bel : Below w.heap.size w W
theorem PMid.box {w w1 w2 : World} {g h : Nat} {l : List UInt8} {e : Int} {c0 c1 c2 c3 c4 : Value} {t : Tv}
    (hg : w.heap.size < g) (hg1 : g < w1.heap.size) (hh1 : h < w1.heap.size)
    (b1 : Below (w.alloc (.cells #[.int .i64 0, .int .i64 0, .int .u64 0, .string ⟨#[]⟩, .slice none 0 0] 25)).heap.size (w.alloc (.cells #[.int .i64 0, .int .i64 0, .int .u64 0, .string ⟨#[]⟩, .slice none 0 0] 25)) w1)
    (s : St w2 g h l e) (kb : KB g w1 w2) (hi : IsN w1.heap.size w2 5 (.agg #[c0, c1, c2, c3, c4]) t) :
    PMid w (w2.alloc (.cells #[c0, c1, c2, c3, c4] 25)) g h w2.heap.size l e c0 c1 c2 c3 c4 t := by
  have hz0 : w.heap.size < (w.alloc (.cells #[.int .i64 0, .int .i64 0, .int .u64 0, .string ⟨#[]⟩, .slice none 0 0] 25)).heap.size := by simp
  have hz1 := b1.size
  have hz2 := kb.2.2.2.1
  have r1 := ((box_at w (.int .i64 0) (.int .i64 0) (.int .u64 0) (.string ⟨#[]⟩) (.slice none 0 0)).below b1).kb kb (by omega)
  refine ⟨by omega, by simp, r1.below (bel1 _ _), fun o => ((bel1 w2 _).frozen (show w.heap.size < w2.heap.size by omega)).trans ((kb.frozen (a := ⟨w.heap.size, o, none⟩) (show w.heap.size < w1.heap.size by omega) (show w.heap.size ≠ g by omega)).trans ((b1.frozen (p := ⟨w.heap.size, o, none⟩) hz0).trans (fresh w _ o))), box_at w2 _ _ _ _ _, s.keep (by simp) ((bel1 w2 _).block g (by omega)) ((bel1 w2 _).block h (by omega)), ?_, ?_⟩
  · exact ((hi.kb (kb_below (KB.refl w.heap.size w2) (bel1 _ _)) (by omega)).lower (by omega))
  · exact ((bel1 w _).trans ((b1.mono (by omega)).trans ((kb.below (by omega) (by omega)).trans ((bel1 w2 _).mono (by omega)))))
theorem PMid.fin {w W : World} {g h q : Nat} {l : List UInt8} {e : Int} {c0 c1 c2 c3 c4 : Value} {t : Tv} (m : PMid w W g h q l e c0 c1 c2 c3 c4 t) :
    Is (set5 W w.heap.size 0 c0 c1 c2 c3 c4) 5 (.agg #[c0, c1, c2, c3, c4]) t ∧ Below w.heap.size w (set5 W w.heap.size 0 c0 c1 c2 c3 c4) := by
  have kb := set5_kb W w.heap.size 0 c0 c1 c2 c3 c4
  exact ⟨(m.is.kb kb (by omega)).is, m.bel.trans (kb.below (Nat.le_refl _) m.bel.size)⟩
theorem PMid.fin0 {w W : World} {g h q : Nat} {l : List UInt8} {e : Int} {c0 c1 c2 c3 c4 : Value} {t : Tv} (m : PMid w W g h q l e c0 c1 c2 c3 c4 t) :
    Is (set5 W w.heap.size 0 (.int .i64 0) (.int .i64 0) (.int .u64 0) (.string ⟨#[]⟩) (.slice none 0 0)) 5 (.agg #[.int .i64 0, .int .i64 0, .int .u64 0, .string ⟨#[]⟩, .slice none 0 0]) zT ∧ Below w.heap.size w (set5 W w.heap.size 0 (.int .i64 0) (.int .i64 0) (.int .u64 0) (.string ⟨#[]⟩) (.slice none 0 0)) := by
  have kb := set5_kb W w.heap.size 0 (.int .i64 0) (.int .i64 0) (.int .u64 0) (.string ⟨#[]⟩) (.slice none 0 0)
  exact ⟨(zT_is 0 _ 4).is, m.bel.trans (kb.below (Nat.le_refl _) m.bel.size)⟩
def PsP (w : World) (r : Tv × Int) (x : Ending) (w' : World) : Prop :=
  ∃ u, x = .returned (.tuple #[u, .int .i64 r.2]) ∧ Is w' 5 u r.1 ∧ Below w.heap.size w w'
set_option maxHeartbeats 1000000 in
set_option maxRecDepth 100000 in
theorem parse_calls (w : World) (v : Value) (l : List UInt8) (hv : Lib.HoldsBytes w v l) (hl : l.length ≤ 281474976710656) :
    Calls Try.prog 25 #[v] w (PsP w (psR l)) := by
  have HV : Hid (Lib.HoldsBytes (w.alloc (.cells #[.int .i64 0, .int .i64 0, .int .u64 0, .string ⟨#[]⟩, .slice none 0 0] 25)) v l) := holds_below hv (bel1 w _)
  have OC : Hid (Calls Try.prog 30 #[v] (w.alloc (.cells #[.int .i64 0, .int .i64 0, .int .u64 0, .string ⟨#[]⟩, .slice none 0 0] 25)) _) := open_calls v l _ HV.out hl
  have RC : Hid (∀ (w : World) (g h : Nat), St w g h l 0 → h < w.heap.size → Calls Try.prog 32 #[.pointer (some ⟨g, 0, none⟩)] w (RdP w g h 5 (rdR l 0))) := fun w g h r hh => readv_calls w g h l 0 r hh hl
  obtain ⟨k', x', b', rfl⟩ : ∃ a m c, v = .slice a m c := by obtain ⟨p, cap, rfl, q1, q2⟩ := hv; exact ⟨_, _, _, rfl⟩
  have hdef : psR l = if en (rdR l 0).2.1 (rdR l 0).2.2 = 0 then ((rdR l 0).1, 0) else (zT, en (rdR l 0).2.1 (rdR l 0).2.2) := rfl
  rw [hdef]
  generalize rdR l 0 = R at RC ⊢
  obtain ⟨t, l2, e2⟩ := R
  dsimp only
  obtain ⟨E, hE⟩ : ∃ E, E = en l2 e2 := ⟨_, rfl⟩
  rw [← hE]
  have HE : Hid (E = en l2 e2) := hE
  clear hdef hv hl hE
  have hW0 : Hid ((w.alloc (.cells #[.int .i64 0, .int .i64 0, .int .u64 0, .string ⟨#[]⟩, .slice none 0 0] 25)).heap.size = w.heap.size + 1) := by show _ = _; simp
  by_cases h0 : E = 0
  · have dE : (E != 0) = false := by simpa using h0
    rw [if_pos h0]
    clear h0
    go_enter Try.func25, Try.ntmps25
    go_wp2_with fail
    refine OC.out.mono ?_
    rintro x w1 ⟨g, h, rfl, hh1, hh2, hg1, s1, b1⟩
    have HG : Hid (w.heap.size < g ∧ g < w1.heap.size ∧ h < w1.heap.size) := by have := hW0.out; show _ ∧ _; omega
    have HB1 : Hid (Below _ _ w1) := b1
    have RC1 : Hid (Calls Try.prog 32 #[.pointer (some ⟨g, 0, none⟩)] w1 (RdP w1 g h 5 (t, l2, e2))) := RC.out w1 g h s1 HG.out.2.2
    clear hh1 hh2 hg1 s1 b1 RC
    go_wp2_with fail
    refine RC1.out.mono ?_
    rintro x w2 ⟨v, rfl, hi2, s2, k2⟩
    dsimp only at hi2 s2
    obtain ⟨vk, vx, vb, vs, va, vm, vc, rfl⟩ := hi2.shape
    have M0 : Hid (PMid w (w2.alloc (.cells #[.int .i64 vk, .int .i64 vx, .int .u64 vb, .string vs, .slice va vm vc] 25)) g h w2.heap.size l2 e2 (.int .i64 vk) (.int .i64 vx) (.int .u64 vb) (.string vs) (.slice va vm vc) t) := PMid.box HG.out.1 HG.out.2.1 HG.out.2.2 HB1.out s2 k2 hi2
    obtain ⟨W2, hW2⟩ : ∃ W2, W2 = w2.alloc (.cells #[.int .i64 vk, .int .i64 vx, .int .u64 vb, .string vs, .slice va vm vc] 25) := ⟨_, rfl⟩
    obtain ⟨q, hq⟩ : ∃ q, q = w2.heap.size := ⟨_, rfl⟩
    rw [← hW2, ← hq] at M0
    have HW2 : Hid (W2 = _) := hW2
    have HQ : Hid (q = w2.heap.size) := hq
    have EC : Hid (Calls Try.prog 54 #[.pointer (some ⟨g, 0, none⟩)] W2 fun x w' => x = .returned (.int .i64 E) ∧ w' = W2) := by
      have := end_st W2 g h l2 e2 M0.out.st
      rwa [← HE.out] at this
    clear hi2 s2 k2 hW2 hq
    go_upto_region 3 with fail
    rw [← HW2.out, ← HQ.out]
    go_wp2_with fail
    refine EC.out.mono ?_
    rintro x w3 ⟨rfl, hw3⟩
    have hw3' := hw3.symm
    subst hw3'
    clear hw3
    obtain ⟨a0, a1, a2, a3, a4⟩ := M0.out.own
    obtain ⟨b0, b1, b2, b3, b4⟩ := M0.out.res
    have f0 := M0.out.rfr 0
    have f1 := M0.out.rfr 1
    have f2 := M0.out.rfr 2
    have f3 := M0.out.rfr 3
    have f4 := M0.out.rfr 4
    go_wp2_with fail
    refine bodyPost_ret (ret25 _ (g := w.heap.size) rfl rfl (set5_at M0.out.res (.int .i64 vk) (.int .i64 vx) (.int .u64 vb) (.string vs) (.slice va vm vc))) rfl ?_
    exact ⟨_, rfl, M0.out.fin⟩
  · have dE : (E != 0) = true := by simpa using h0
    rw [if_neg h0]
    clear h0
    go_enter Try.func25, Try.ntmps25
    go_wp2_with fail
    refine OC.out.mono ?_
    rintro x w1 ⟨g, h, rfl, hh1, hh2, hg1, s1, b1⟩
    have HG : Hid (w.heap.size < g ∧ g < w1.heap.size ∧ h < w1.heap.size) := by have := hW0.out; show _ ∧ _; omega
    have HB1 : Hid (Below _ _ w1) := b1
    have RC1 : Hid (Calls Try.prog 32 #[.pointer (some ⟨g, 0, none⟩)] w1 (RdP w1 g h 5 (t, l2, e2))) := RC.out w1 g h s1 HG.out.2.2
    clear hh1 hh2 hg1 s1 b1 RC
    go_wp2_with fail
    refine RC1.out.mono ?_
    rintro x w2 ⟨v, rfl, hi2, s2, k2⟩
    dsimp only at hi2 s2
    obtain ⟨vk, vx, vb, vs, va, vm, vc, rfl⟩ := hi2.shape
    have M0 : Hid (PMid w (w2.alloc (.cells #[.int .i64 vk, .int .i64 vx, .int .u64 vb, .string vs, .slice va vm vc] 25)) g h w2.heap.size l2 e2 (.int .i64 vk) (.int .i64 vx) (.int .u64 vb) (.string vs) (.slice va vm vc) t) := PMid.box HG.out.1 HG.out.2.1 HG.out.2.2 HB1.out s2 k2 hi2
    obtain ⟨W2, hW2⟩ : ∃ W2, W2 = w2.alloc (.cells #[.int .i64 vk, .int .i64 vx, .int .u64 vb, .string vs, .slice va vm vc] 25) := ⟨_, rfl⟩
    obtain ⟨q, hq⟩ : ∃ q, q = w2.heap.size := ⟨_, rfl⟩
    rw [← hW2, ← hq] at M0
    have HW2 : Hid (W2 = _) := hW2
    have HQ : Hid (q = w2.heap.size) := hq
    have EC : Hid (Calls Try.prog 54 #[.pointer (some ⟨g, 0, none⟩)] W2 fun x w' => x = .returned (.int .i64 E) ∧ w' = W2) := by
      have := end_st W2 g h l2 e2 M0.out.st
      rwa [← HE.out] at this
    clear hi2 s2 k2 hW2 hq
    go_upto_region 3 with fail
    rw [← HW2.out, ← HQ.out]
    go_wp2_with fail
    refine EC.out.mono ?_
    rintro x w3 ⟨rfl, hw3⟩
    have hw3' := hw3.symm
    subst hw3'
    clear hw3
    obtain ⟨b0, b1, b2, b3, b4⟩ := M0.out.res
    have f0 := M0.out.rfr 0
    have f1 := M0.out.rfr 1
    have f2 := M0.out.rfr 2
    have f3 := M0.out.rfr 3
    have f4 := M0.out.rfr 4
    go_wp2_with fail
    refine bodyPost_ret (ret25 _ (g := w.heap.size) rfl rfl (set5_at M0.out.res (.int .i64 0) (.int .i64 0) (.int .u64 0) (.string ⟨#[]⟩) (.slice none 0 0))) rfl ?_
    exact ⟨_, rfl, M0.out.fin0⟩
end Go.Proofs.Ytobblioplfpndaa
