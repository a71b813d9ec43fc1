/- The contract of Step. -/
import Derived.Test.YtimiklekajelfaaSE
namespace Go.Proofs.Ytimiklekajelfaa
open Go.ChangeShapes Go.WideShapes Go.ChangeAt Go.RowKit
def zS : Sp := ⟨0, 0, 0, [], []⟩
/-- What Step answers. -/
def stR (l : List UInt8) : Sp × Bool := if en (rdS l 0).2.1 (rdS l 0).2.2 = 0 then ((rdS l 0).1, true) else (zS, false)
def StP (w : World) (r : Sp × Bool) (x : Ending) (w' : World) : Prop :=
  ∃ vb vk, x = .returned (.tuple #[.agg (rowS vb vk r.1), .bool r.2]) ∧ IsV (fun B => w.heap.size ≤ B) w' vb vk r.1 ∧ Below w.heap.size w w'
theorem ret9 (tmps : Array Value) {w : World} {g : Nat} {c0 c1 c2 c3 c4 y : Value} (hp : tmps.getD 2 undef = .pointer (some ⟨g, 0, none⟩)) (hq : tmps.getD 3 undef = y) (h5 : At5 w g 0 c0 c1 c2 c3 c4) :
    (results Try.f9 tmps).run Try.prog w = .ok (.tuple #[.agg #[c0, c1, c2, c3, c4], y]) w := by
  have hp' : tmps[2]?.getD undef = .pointer (some ⟨g, 0, none⟩) := by simpa using hp
  have hq' : tmps[3]?.getD undef = y := by simpa using hq
  simp [results, hp', hq', asAddr, load5 h5]
/-- Where Step stands when the step is read. -/
structure PMid (w W : World) (g h q : Nat) (l : List UInt8) (e : Int) (vb vk : Value) (x : Sp) : Prop where
  q0 : w.heap.size < q
  q1 : q < W.heap.size
  res : At5 W w.heap.size 0 (.int .i64 0) (.int .i64 0) (.int .i64 0) (.slice none 0 0) (.slice none 0 0)
  rfr : ∀ o, W.frozen? ⟨w.heap.size, o, none⟩ = false
  own : At5 W q 0 (.int .i64 x.k) (.int .i64 x.s) (.int .i64 x.n) vb vk
  st : St W g h l e
  is : IsV (fun B => w.heap.size < B) W vb vk x
  bel : Below w.heap.size w W
theorem PMid.box {w w1 w2 : World} {g h : Nat} {l : List UInt8} {e : Int} {vb vk : Value} {x : Sp}
    (hg : w.heap.size < g) (hg1 : g < w1.heap.size) (hh1 : h < w1.heap.size)
    (b1 : Below (w.alloc (.cells #[.int .i64 0, .int .i64 0, .int .i64 0, .slice none 0 0, .slice none 0 0] 28)).heap.size (w.alloc (.cells #[.int .i64 0, .int .i64 0, .int .i64 0, .slice none 0 0, .slice none 0 0] 28)) w1)
    (s : St w2 g h l e) (kb : KB g w1 w2) (hi : IsV (fun B => w1.heap.size ≤ B) w2 vb vk x) :
    PMid w (w2.alloc (.cells #[.int .i64 x.k, .int .i64 x.s, .int .i64 x.n, vb, vk] 28)) g h w2.heap.size l e vb vk x := by
  have hz0 : w.heap.size < (w.alloc (.cells #[.int .i64 0, .int .i64 0, .int .i64 0, .slice none 0 0, .slice none 0 0] 28)).heap.size := by simp
  have hz1 := b1.size
  have hz2 := kb.2.2.2.1
  have r1 := ((box_at w (.int .i64 0) (.int .i64 0) (.int .i64 0) (.slice none 0 0) (.slice none 0 0)).below b1).kb kb (by omega)
  refine ⟨by omega, by simp, r1.below (bel1 _ _), fun o => ((bel1 w2 _).frozen (show w.heap.size < w2.heap.size by omega)).trans ((kb.frozen (a := ⟨w.heap.size, o, none⟩) (show w.heap.size < w1.heap.size by omega) (show w.heap.size ≠ g by omega)).trans ((b1.frozen (p := ⟨w.heap.size, o, none⟩) hz0).trans (fresh w _ o))), box_at w2 _ _ _ _ _, s.keep (by simp) ((bel1 w2 _).block g (by omega)) ((bel1 w2 _).block h (by omega)), ?_, ?_⟩
  · exact hi.keep fun B hB hl => ⟨(bel1 w2 _).block B hl, by omega⟩
  · exact ((bel1 w _).trans ((b1.mono (by omega)).trans ((kb.below (by omega) (by omega)).trans ((bel1 w2 _).mono (by omega)))))
theorem PMid.fin {w W : World} {g h q : Nat} {l : List UInt8} {e : Int} {vb vk : Value} {x : Sp} (m : PMid w W g h q l e vb vk x) :
    StP w (x, true) (.returned (.tuple #[.agg #[.int .i64 x.k, .int .i64 x.s, .int .i64 x.n, vb, vk], .bool true])) (set5 W w.heap.size 0 (.int .i64 x.k) (.int .i64 x.s) (.int .i64 x.n) vb vk) := by
  have kb := set5_kb W w.heap.size 0 (.int .i64 x.k) (.int .i64 x.s) (.int .i64 x.n) vb vk
  exact ⟨vb, vk, rfl, m.is.keep fun B hB hl => ⟨kb.2.2.2.2 B hl (by omega), by omega⟩, m.bel.trans (kb.below (Nat.le_refl _) m.bel.size)⟩
theorem PMid.fin0 {w W : World} {g h q : Nat} {l : List UInt8} {e : Int} {vb vk : Value} {x : Sp} (m : PMid w W g h q l e vb vk x) :
    StP w (zS, false) (.returned (.tuple #[.agg #[.int .i64 0, .int .i64 0, .int .i64 0, .slice none 0 0, .slice none 0 0], .bool false])) (set5 W w.heap.size 0 (.int .i64 0) (.int .i64 0) (.int .i64 0) (.slice none 0 0) (.slice none 0 0)) := by
  have kb := set5_kb W w.heap.size 0 (.int .i64 0) (.int .i64 0) (.int .i64 0) (.slice none 0 0) (.slice none 0 0)
  exact ⟨_, _, rfl, isv_nil _ _ _ _ _, m.bel.trans (kb.below (Nat.le_refl _) m.bel.size)⟩
set_option maxHeartbeats 4000000 in
set_option maxRecDepth 100000 in
theorem step_calls (w : World) (v : Value) (l : List UInt8) (hv : Lib.HoldsBytes w v l) (hl : l.length ≤ 281474976710656) :
    Calls Try.prog 9 #[v] w (StP w (stR l)) := by
  have HV : Hid (Lib.HoldsBytes (w.alloc (.cells #[.int .i64 0, .int .i64 0, .int .i64 0, .slice none 0 0, .slice none 0 0] 28)) v l) := holds_below hv (bel1 w _)
  have OC : Hid (Calls Try.prog 21 #[v] (w.alloc (.cells #[.int .i64 0, .int .i64 0, .int .i64 0, .slice none 0 0, .slice none 0 0] 28)) _) := open_calls v l _ HV.out hl
  have RC : Hid (∀ (w : World) (g h : Nat), St w g h l 0 → h < w.heap.size → Calls Try.prog 22 #[.pointer (some ⟨g, 0, none⟩)] w (RdP w g h (rdS l 0))) := fun w g h r hh => read_calls w g h l 0 r hh
  obtain ⟨k', x', b', rfl⟩ : ∃ a m c, v = .slice a m c := by obtain ⟨p, cap, rfl, q1, q2⟩ := hv; exact ⟨_, _, _, rfl⟩
  have hdef : stR l = if en (rdS l 0).2.1 (rdS l 0).2.2 = 0 then ((rdS l 0).1, true) else (zS, false) := rfl
  rw [hdef]
  generalize rdS l 0 = R at RC ⊢
  obtain ⟨⟨k, s, n, b, ks⟩, l2, e2⟩ := R
  dsimp only
  obtain ⟨E, hE⟩ : ∃ E, E = en l2 e2 := ⟨_, rfl⟩
  rw [← hE]
  have HE : Hid (E = en l2 e2) := hE
  clear hdef hv hl hE
  have hW0 : Hid ((w.alloc (.cells #[.int .i64 0, .int .i64 0, .int .i64 0, .slice none 0 0, .slice none 0 0] 28)).heap.size = w.heap.size + 1) := by show _ = _; simp
  by_cases h0 : E = 0
  · have dE : (E != 0) = false := by simpa using h0
    rw [if_pos h0]
    clear h0
    go_enter Try.func9, Try.ntmps9
    go_wp2_with fail
    refine OC.out.mono ?_
    rintro x w1 ⟨g, h, rfl, hh1, hh2, hg1, s1, b1⟩
    have HG : Hid (w.heap.size < g ∧ g < w1.heap.size ∧ h < w1.heap.size) := by have := hW0.out; show _ ∧ _; omega
    have HB1 : Hid (Below _ _ w1) := b1
    have RC1 : Hid (Calls Try.prog 22 #[.pointer (some ⟨g, 0, none⟩)] w1 (RdP w1 g h (⟨k, s, n, b, ks⟩, l2, e2))) := RC.out w1 g h s1 HG.out.2.2
    clear hh1 hh2 hg1 s1 b1 RC
    go_wp2_with fail
    refine RC1.out.mono ?_
    rintro x w2 ⟨vb, vk, rfl, hi2, s2, k2⟩
    dsimp only at hi2 s2
    have M0 : Hid (PMid w (w2.alloc (.cells #[.int .i64 k, .int .i64 s, .int .i64 n, vb, vk] 28)) g h w2.heap.size l2 e2 vb vk ⟨k, s, n, b, ks⟩) := PMid.box (x := ⟨k, s, n, b, ks⟩) HG.out.1 HG.out.2.1 HG.out.2.2 HB1.out s2 k2 hi2
    obtain ⟨pb, cb, rfl, _⟩ := hi2.1.shape
    obtain ⟨pk, ck, rfl, _⟩ := hi2.2.shape
    obtain ⟨W2, hW2⟩ : ∃ W2, W2 = w2.alloc (.cells #[.int .i64 k, .int .i64 s, .int .i64 n, .slice pb b.length cb, .slice pk ks.length ck] 28) := ⟨_, rfl⟩
    obtain ⟨q, hq⟩ : ∃ q, q = w2.heap.size := ⟨_, rfl⟩
    rw [← hW2, ← hq] at M0
    have HW2 : Hid (W2 = _) := hW2
    have HQ : Hid (q = w2.heap.size) := hq
    have EC : Hid (Calls Try.prog 23 #[.pointer (some ⟨g, 0, none⟩)] W2 fun x w' => x = .returned (.int .i64 E) ∧ w' = W2) := by
      have := end_st W2 g h l2 e2 M0.out.st
      rwa [← HE.out] at this
    clear hi2 s2 k2 hW2 hq
    unfold rowS
    dsimp only
    go_upto_region 3 with fail
    rw [← HW2.out, ← HQ.out]
    go_wp2_with fail
    refine EC.out.mono ?_
    rintro x w3 ⟨rfl, hw3⟩
    have hw3' := hw3.symm
    subst hw3'
    clear hw3
    obtain ⟨a0, a1, a2, a3, a4⟩ := M0.out.own
    obtain ⟨b0, b1, b2, b3, b4⟩ := M0.out.res
    have f0 := M0.out.rfr 0
    have f1 := M0.out.rfr 1
    have f2 := M0.out.rfr 2
    have f3 := M0.out.rfr 3
    have f4 := M0.out.rfr 4
    dsimp only at a0 a1 a2 a3 a4
    go_wp2_with fail
    refine bodyPost_ret (ret9 _ (g := w.heap.size) rfl rfl (set5_at M0.out.res (.int .i64 k) (.int .i64 s) (.int .i64 n) (.slice pb b.length cb) (.slice pk ks.length ck))) rfl ?_
    exact M0.out.fin
  · have dE : (E != 0) = true := by simpa using h0
    rw [if_neg h0]
    clear h0
    go_enter Try.func9, Try.ntmps9
    go_wp2_with fail
    refine OC.out.mono ?_
    rintro x w1 ⟨g, h, rfl, hh1, hh2, hg1, s1, b1⟩
    have HG : Hid (w.heap.size < g ∧ g < w1.heap.size ∧ h < w1.heap.size) := by have := hW0.out; show _ ∧ _; omega
    have HB1 : Hid (Below _ _ w1) := b1
    have RC1 : Hid (Calls Try.prog 22 #[.pointer (some ⟨g, 0, none⟩)] w1 (RdP w1 g h (⟨k, s, n, b, ks⟩, l2, e2))) := RC.out w1 g h s1 HG.out.2.2
    clear hh1 hh2 hg1 s1 b1 RC
    go_wp2_with fail
    refine RC1.out.mono ?_
    rintro x w2 ⟨vb, vk, rfl, hi2, s2, k2⟩
    dsimp only at hi2 s2
    have M0 : Hid (PMid w (w2.alloc (.cells #[.int .i64 k, .int .i64 s, .int .i64 n, vb, vk] 28)) g h w2.heap.size l2 e2 vb vk ⟨k, s, n, b, ks⟩) := PMid.box (x := ⟨k, s, n, b, ks⟩) HG.out.1 HG.out.2.1 HG.out.2.2 HB1.out s2 k2 hi2
    obtain ⟨pb, cb, rfl, _⟩ := hi2.1.shape
    obtain ⟨pk, ck, rfl, _⟩ := hi2.2.shape
    obtain ⟨W2, hW2⟩ : ∃ W2, W2 = w2.alloc (.cells #[.int .i64 k, .int .i64 s, .int .i64 n, .slice pb b.length cb, .slice pk ks.length ck] 28) := ⟨_, rfl⟩
    obtain ⟨q, hq⟩ : ∃ q, q = w2.heap.size := ⟨_, rfl⟩
    rw [← hW2, ← hq] at M0
    have HW2 : Hid (W2 = _) := hW2
    have HQ : Hid (q = w2.heap.size) := hq
    have EC : Hid (Calls Try.prog 23 #[.pointer (some ⟨g, 0, none⟩)] W2 fun x w' => x = .returned (.int .i64 E) ∧ w' = W2) := by
      have := end_st W2 g h l2 e2 M0.out.st
      rwa [← HE.out] at this
    clear hi2 s2 k2 hW2 hq
    unfold rowS
    dsimp only
    go_upto_region 3 with fail
    rw [← HW2.out, ← HQ.out]
    go_wp2_with fail
    refine EC.out.mono ?_
    rintro x w3 ⟨rfl, hw3⟩
    have hw3' := hw3.symm
    subst hw3'
    clear hw3
    obtain ⟨a0, a1, a2, a3, a4⟩ := M0.out.own
    obtain ⟨b0, b1, b2, b3, b4⟩ := M0.out.res
    have f0 := M0.out.rfr 0
    have f1 := M0.out.rfr 1
    have f2 := M0.out.rfr 2
    have f3 := M0.out.rfr 3
    have f4 := M0.out.rfr 4
    dsimp only at a0 a1 a2 a3 a4
    go_wp2_with fail
    refine bodyPost_ret (ret9 _ (g := w.heap.size) rfl rfl (set5_at M0.out.res (.int .i64 0) (.int .i64 0) (.int .i64 0) (.slice none 0 0) (.slice none 0 0))) rfl ?_
    exact M0.out.fin0
end Go.Proofs.Ytimiklekajelfaa
