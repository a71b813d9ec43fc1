/- The contracts of Read and Parse. -/
import Derived.Test.YtjmonkhkcmcfiaaXE
namespace Go.Proofs.Ytjmonkhkcmcfiaa
open Go.ChangeShapes Go.WideShapes Go.ChangeAt Go.RowKit
theorem sNumber_len (l : List UInt8) : (sNumber l).2.1.length ≤ l.length := by
  unfold sNumber
  split
  · simp
  · split
    · simp
    · split
      · simp
      · split
        · simp
        · split
          · simp
          · simp; omega
theorem sNum_len (m : Int) (l : List UInt8) (e : Int) : (sNum m l e).2.1.length ≤ l.length := by
  have := sNumber_len l
  unfold sNum
  split
  · split
    · split
      · simp
      · exact this
    · simp
  · exact Nat.le_refl _
theorem sInt_len (l : List UInt8) (e : Int) : (sInt l e).2.1.length ≤ l.length := by
  unfold sInt
  split
  · split
    · simp
    · simp
  · exact Nat.le_refl _
theorem sBits_len (l : List UInt8) (e : Int) : (sBits l e).2.1.length ≤ l.length := by
  unfold sBits
  split
  · split
    · simp
    · simp
  · exact Nat.le_refl _
theorem sText_len (m : Int) (l : List UInt8) (e : Int) : (sText m l e).2.1.length ≤ l.length := by
  have := sNum_len m l e
  unfold sText
  split
  · split
    · simp
    · simp; omega
  · exact this
theorem flL_len (l : List UInt8) (e : Int) : (flL l e).length ≤ l.length := by
  unfold flL
  split
  · simp
  · exact Nat.le_refl _
theorem rdN_len {f : List UInt8 → Int → Tv × List UInt8 × Int} (hf : ∀ l e, (f l e).2.1.length ≤ l.length) : ∀ (n : Nat) (l : List UInt8) (e : Int), (rdN f n l e).2.1.length ≤ l.length
  | 0, l, e => Nat.le_refl _
  | n + 1, l, e => by
    have h1 := hf l e
    have h2 := rdN_len hf n (f l e).2.1 0
    unfold rdN
    split
    · split
      · dsimp only; omega
      · dsimp only; omega
    · exact h1
theorem rd1_len {g : List UInt8 → Int → List Tv × List UInt8 × Int} (hg : ∀ l e, (g l e).2.1.length ≤ l.length) (l : List UInt8) (e : Int) : (rd1 g l e).2.1.length ≤ l.length := by
  have h0 := sNum_len 4 l e
  unfold rd1
  split
  · have := sInt_len (sNum 4 l e).2.1 (sNum 4 l e).2.2
    dsimp only
    omega
  · split
    · have h1 := sBits_len (sNum 4 l e).2.1 (sNum 4 l e).2.2
      have h2 := flL_len (sBits (sNum 4 l e).2.1 (sNum 4 l e).2.2).2.1 (sBits (sNum 4 l e).2.1 (sNum 4 l e).2.2).2.2
      dsimp only
      split
      · omega
      · dsimp only; omega
    · split
      · have := sText_len 200 (sNum 4 l e).2.1 (sNum 4 l e).2.2
        dsimp only
        omega
      · split
        · have := hg (sNum 4 l e).2.1 (sNum 4 l e).2.2
          dsimp only
          omega
        · exact h0
theorem rdV_len : ∀ (d : Nat) (l : List UInt8) (e : Int), (rdV d l e).2.1.length ≤ l.length
  | 0, l, e => rd1_len (fun l e => flL_len l e) l e
  | d + 1, l, e => rd1_len (fun l e => by
      have h1 := sNum_len 12 l e
      have h2 := rdN_len (rdV_len d) (sNum 12 l e).1.toNat (sNum 12 l e).2.1 (sNum 12 l e).2.2
      unfold rdL
      omega) l e
def zT : Tv := .mk 0 0 0 ⟨#[]⟩ []
/-- What Read leaves, of what read left. -/
def afR (n : Nat) (r : Tv × List UInt8 × Int) : Tv × List UInt8 × Int :=
  if 1000 < (n : Int) - (r.2.1.length : Int) then (zT, flL r.2.1 r.2.2, flE r.2.2 5) else if r.2.2 = 0 then r else (zT, r.2.1, r.2.2)
/-- What Read leaves. -/
def rdR (l : List UInt8) (e : Int) : Tv × List UInt8 × Int := afR l.length (rdV 4 l e)
theorem zT_is (lo : Nat) (W : World) (n : Nat) : IsN lo W (n + 1) (.agg #[.int .i64 0, .int .i64 0, .int .u64 0, .string ⟨#[]⟩, .slice none 0 0]) zT :=
  flat_is ⟨by decide, by decide, by decide, by decide, by decide, by decide, by decide, by decide, by decide⟩
/-- The end where there is an error: the result's box stays as it is. -/
theorem Mid.fin0 {w W : World} {g h q n : Nat} {l : List UInt8} {e : Int} {c0 c1 c2 c3 c4 : Value} (m : Mid w W g h q l e c0 c1 c2 c3 c4) :
    RdP w g h (n + 1) (zT, l, e) (.returned (.agg #[.int .i64 0, .int .i64 0, .int .u64 0, .string ⟨#[]⟩, .slice none 0 0])) (set5 W w.heap.size 0 (.int .i64 0) (.int .i64 0) (.int .u64 0) (.string ⟨#[]⟩) (.slice none 0 0)) := by
  have a := m.q0
  have b := m.q1
  have c := m.gw
  have d := m.hw
  have kb := set5_kb W w.heap.size 0 (.int .i64 0) (.int .i64 0) (.int .u64 0) (.string ⟨#[]⟩) (.slice none 0 0)
  exact ⟨_, rfl, zT_is _ _ _, m.st.keep kb.2.2.2.1 (kb.2.2.2.2 g (by omega) (by omega)) (kb.2.2.2.2 h (by omega) (by omega)), kb_below m.kb (kb.below (Nat.le_refl _) (by omega))⟩
/-- As Mid.first, with a box of any five. -/
theorem Mid.box {w w1 : World} {g h : Nat} {l : List UInt8} {e : Int} {c0 c1 c2 c3 c4 : Value} (hg : g < w.heap.size) (hh : h < w.heap.size) (s : St w1 g h l e) (kb : KB g (w.alloc (.cells #[.int .i64 0, .int .i64 0, .int .u64 0, .string ⟨#[]⟩, .slice none 0 0] 25)) w1) :
    Mid w (w1.alloc (.cells #[c0, c1, c2, c3, c4] 25)) g h w1.heap.size l e c0 c1 c2 c3 c4 := by
  have hz : w.heap.size + 1 ≤ w1.heap.size := by have := kb.2.2.2.1; simpa using this
  have hz0 : w.heap.size < (w.alloc (.cells #[.int .i64 0, .int .i64 0, .int .u64 0, .string ⟨#[]⟩, .slice none 0 0] 25)).heap.size := by simp
  have r1 := (box_at w (.int .i64 0) (.int .i64 0) (.int .u64 0) (.string ⟨#[]⟩) (.slice none 0 0)).kb kb (by omega)
  refine ⟨by omega, by simp, hg, hh, r1.below (bel1 _ _), fun o => ((bel1 w1 _).frozen (show w.heap.size < w1.heap.size by omega)).trans ((kb.frozen (a := ⟨w.heap.size, o, none⟩) hz0 (show w.heap.size ≠ g by omega)).trans (fresh w _ o)), box_at w1 _ _ _ _ _, fun o => fresh w1 _ o, s.keep (by simp) ((bel1 w1 _).block g (by omega)) ((bel1 w1 _).block h (by omega)), ?_⟩
  refine kb_below (a := w1) ?_ ((bel1 w1 _).mono (by omega))
  exact ⟨kb.1, kb.2.1, kb.2.2.1, by omega, fun i hi hne => (kb.2.2.2.2 i (by simp; omega) hne).trans ((bel1 w _).block i hi)⟩
set_option maxHeartbeats 1000000 in
set_option maxRecDepth 100000 in
theorem readv_calls (w : World) (g h : Nat) (l : List UInt8) (e : Int) (r : St w g h l e) (hh : h < w.heap.size) (hl : l.length ≤ 281474976710656) :
    Calls Try.prog 83 #[.pointer (some ⟨g, 0, none⟩)] w (RdP w g h 5 (rdR l e)) := by
  have hg := r.lt
  have s0 : St (w.alloc (.cells #[.int .i64 0, .int .i64 0, .int .u64 0, .string ⟨#[]⟩, .slice none 0 0] 25)) g h l e := r.keep (by simp) ((bel1 w _).block g hg) ((bel1 w _).block h hh)
  have LF : Hid (Calls Try.prog 79 #[.pointer (some ⟨g, 0, none⟩)] (w.alloc (.cells #[.int .i64 0, .int .i64 0, .int .u64 0, .string ⟨#[]⟩, .slice none 0 0] 25)) _) := left_st _ g h l e s0
  have RC := read_calls 4 (by omega) (w.alloc (.cells #[.int .i64 0, .int .i64 0, .int .u64 0, .string ⟨#[]⟩, .slice none 0 0] 25)) g h l e s0 (by simp; omega)
  have hlen := rdV_len 4 l e
  have hdef : rdR l e = afR l.length (rdV 4 l e) := rfl
  rw [hdef]
  generalize rdV 4 l e = R at RC hlen ⊢
  obtain ⟨t, l1, e1⟩ := R
  dsimp only at hlen
  have HRC : Hid (Calls Try.prog 93 #[.pointer (some ⟨g, 0, none⟩), .int .i64 4] (w.alloc (.cells #[.int .i64 0, .int .i64 0, .int .u64 0, .string ⟨#[]⟩, .slice none 0 0] 25)) (RdP _ g h 5 (t, l1, e1))) := RC
  obtain ⟨A, hA⟩ : ∃ A, A = l.length := ⟨_, rfl⟩
  obtain ⟨B, hB⟩ : ∃ B, B = l1.length := ⟨_, rfl⟩
  rw [← hA] at LF ⊢
  obtain ⟨D, hD⟩ : ∃ D : Int, D = (A : Int) - (B : Int) := ⟨_, rfl⟩
  have hw1 : wrap64 ((A : Int) - (B : Int)) = D := by rw [hD]; unfold wrap64; omega
  have hw2 : IntKind.i64.wrap ((A : Int) - (B : Int)) = D := by rw [hD, IntKind.wrap_i64]; omega
  have HGH : Hid (g < w.heap.size ∧ h < w.heap.size) := ⟨hg, hh⟩
  have HB : Hid (B = l1.length) := hB
  have HD : Hid (D = (A : Int) - (B : Int)) := hD
  clear RC hdef s0 r hg hh hl hlen hA hB hD
  by_cases hbig : 1000 < D
  · have d1 : decide (1000 < D) = true := decide_eq_true hbig
    have HF : Hid (afR A (t, l1, e1) = (zT, flL l1 e1, flE e1 5)) := by show _ = _; unfold afR; dsimp only; rw [if_pos (by have := HD.out; have := HB.out; omega)]
    clear hbig
    go_enter Try.func83, Try.ntmps83
    go_wp2_with fail
    refine LF.out.mono ?_
    rintro x w0 ⟨rfl, hw0⟩
    have hw0' := hw0.symm
    subst hw0'
    clear hw0
    go_wp2_with fail
    refine HRC.out.mono ?_
    rintro x w1 ⟨v, rfl, hi1, s1, k1⟩
    dsimp only at hi1 s1
    obtain ⟨vk, vx, vb, vs, va, vm, vc, rfl⟩ := hi1.shape
    have M0 : Hid (Mid w (w1.alloc (.cells #[.int .i64 vk, .int .i64 vx, .int .u64 vb, .string vs, .slice va vm vc] 25)) g h w1.heap.size l1 e1 (.int .i64 vk) (.int .i64 vx) (.int .u64 vb) (.string vs) (.slice va vm vc)) := Mid.box HGH.out.1 HGH.out.2 s1 k1
    obtain ⟨W2, hW2⟩ : ∃ W2, W2 = w1.alloc (.cells #[.int .i64 vk, .int .i64 vx, .int .u64 vb, .string vs, .slice va vm vc] 25) := ⟨_, rfl⟩
    obtain ⟨q, hq⟩ : ∃ q, q = w1.heap.size := ⟨_, rfl⟩
    rw [← hW2, ← hq] at M0
    have HW2 : Hid (W2 = _) := hW2
    have HQ : Hid (q = w1.heap.size) := hq
    have L2 : Hid (Calls Try.prog 79 #[.pointer (some ⟨g, 0, none⟩)] W2 fun x w' => x = .returned (.int .i64 (B : Int)) ∧ w' = W2) := by
      have := left_st W2 g h l1 e1 M0.out.st
      rwa [← HB.out] at this
    clear hi1 s1 k1 hW2 hq
    go_upto_region 3 with fail
    rw [← HW2.out, ← HQ.out]
    go_wp2_with fail
    refine L2.out.mono ?_
    rintro x w3 ⟨rfl, hw3⟩
    have hw3' := hw3.symm
    subst hw3'
    clear hw3
    have FC : Hid (Calls Try.prog 81 #[.pointer (some ⟨g, 0, none⟩), .int .i64 5] W2 fun r w' => r = .returned (.tuple #[]) ∧ St w' g h (flL l1 e1) (flE e1 5) ∧ KB g W2 w') := by
      have := fail_st W2 g h l1 e1 5 M0.out.st
      rwa [fl_l l1 e1 5 (by decide), fl_e e1 5] at this
    go_wp2_with fail
    refine FC.out.mono ?_
    rintro x w4 ⟨rfl, s4, k4⟩
    have M4 : Hid (Mid w w4 g h q (flL l1 e1) (flE e1 5) (.int .i64 vk) (.int .i64 vx) (.int .u64 vb) (.string vs) (.slice va vm vc)) := M0.out.step s4 k4
    have EC : Hid (Calls Try.prog 78 #[.pointer (some ⟨g, 0, none⟩)] w4 _) := err_st M4.out.st
    have dE : (flE e1 5 != 0) = true := by simpa using flE_ne (e := e1) (f := 5) (by decide)
    clear s4 k4 FC
    go_wp2_with fail
    refine EC.out.mono ?_
    rintro x w5 ⟨rfl, hw5⟩
    have hw5' := hw5.symm
    subst hw5'
    clear hw5
    obtain ⟨b0, b1, b2, b3, b4⟩ := M4.out.res
    have f0 := M4.out.rfr 0
    have f1 := M4.out.rfr 1
    have f2 := M4.out.rfr 2
    have f3 := M4.out.rfr 3
    have f4 := M4.out.rfr 4
    go_wp2_with fail
    refine bodyPost_ret (ret5 Try.results83 _ (g := w.heap.size) rfl (set5_at M4.out.res (.int .i64 0) (.int .i64 0) (.int .u64 0) (.string ⟨#[]⟩) (.slice none 0 0))) rfl ?_
    rw [HF.out]
    exact M4.out.fin0
  · have d1 : decide (1000 < D) = false := decide_eq_false hbig
    by_cases h0 : e1 = 0
    · have dE : (e1 != 0) = false := by simpa using h0
      have HF : Hid (afR A (t, l1, e1) = (t, l1, e1)) := by show _ = _; unfold afR; dsimp only; rw [if_neg (by have := HD.out; have := HB.out; omega), if_pos h0]
      clear hbig h0
      go_enter Try.func83, Try.ntmps83
      go_wp2_with fail
      refine LF.out.mono ?_
      rintro x w0 ⟨rfl, hw0⟩
      have hw0' := hw0.symm
      subst hw0'
      clear hw0
      go_wp2_with fail
      refine HRC.out.mono ?_
      rintro x w1 ⟨v, rfl, hi1, s1, k1⟩
      dsimp only at hi1 s1
      obtain ⟨vk, vx, vb, vs, va, vm, vc, rfl⟩ := hi1.shape
      have M0 : Hid (Mid w (w1.alloc (.cells #[.int .i64 vk, .int .i64 vx, .int .u64 vb, .string vs, .slice va vm vc] 25)) g h w1.heap.size l1 e1 (.int .i64 vk) (.int .i64 vx) (.int .u64 vb) (.string vs) (.slice va vm vc)) := Mid.box HGH.out.1 HGH.out.2 s1 k1
      obtain ⟨W2, hW2⟩ : ∃ W2, W2 = w1.alloc (.cells #[.int .i64 vk, .int .i64 vx, .int .u64 vb, .string vs, .slice va vm vc] 25) := ⟨_, rfl⟩
      obtain ⟨q, hq⟩ : ∃ q, q = w1.heap.size := ⟨_, rfl⟩
      rw [← hW2, ← hq] at M0
      have HW2 : Hid (W2 = _) := hW2
      have HQ : Hid (q = w1.heap.size) := hq
      have L2 : Hid (Calls Try.prog 79 #[.pointer (some ⟨g, 0, none⟩)] W2 fun x w' => x = .returned (.int .i64 (B : Int)) ∧ w' = W2) := by
        have := left_st W2 g h l1 e1 M0.out.st
        rwa [← HB.out] at this
      have I2 : Hid (IsN (w.heap.size + 1) W2 5 (.agg #[.int .i64 vk, .int .i64 vx, .int .u64 vb, .string vs, .slice va vm vc]) t) := by
        rw [HW2.out]
        have hz : (w.alloc (.cells #[.int .i64 0, .int .i64 0, .int .u64 0, .string ⟨#[]⟩, .slice none 0 0] 25)).heap.size = w.heap.size + 1 := by simp
        rw [hz] at hi1
        exact hi1.kb (kb_below (KB.refl g w1) (bel1 _ _)) (by have := HGH.out.1; omega)
      clear hi1 s1 k1 hW2 hq
      go_upto_region 3 with fail
      rw [← HW2.out, ← HQ.out]
      go_wp2_with fail
      refine L2.out.mono ?_
      rintro x w3 ⟨rfl, hw3⟩
      have hw3' := hw3.symm
      subst hw3'
      clear hw3
      have EC : Hid (Calls Try.prog 78 #[.pointer (some ⟨g, 0, none⟩)] W2 _) := err_st M0.out.st
      go_wp2_with fail
      refine EC.out.mono ?_
      rintro x w5 ⟨rfl, hw5⟩
      have hw5' := hw5.symm
      subst hw5'
      clear hw5
      obtain ⟨a0, a1, a2, a3, a4⟩ := M0.out.own
      obtain ⟨b0, b1, b2, b3, b4⟩ := M0.out.res
      have f0 := M0.out.rfr 0
      have f1 := M0.out.rfr 1
      have f2 := M0.out.rfr 2
      have f3 := M0.out.rfr 3
      have f4 := M0.out.rfr 4
      go_wp2_with fail
      refine bodyPost_ret (ret5 Try.results83 _ (g := w.heap.size) rfl (set5_at M0.out.res (.int .i64 vk) (.int .i64 vx) (.int .u64 vb) (.string vs) (.slice va vm vc))) rfl ?_
      rw [HF.out]
      exact M0.out.fin I2.out
    · have dE : (e1 != 0) = true := by simpa using h0
      have HF : Hid (afR A (t, l1, e1) = (zT, l1, e1)) := by show _ = _; unfold afR; dsimp only; rw [if_neg (by have := HD.out; have := HB.out; omega), if_neg h0]
      clear hbig h0
      go_enter Try.func83, Try.ntmps83
      go_wp2_with fail
      refine LF.out.mono ?_
      rintro x w0 ⟨rfl, hw0⟩
      have hw0' := hw0.symm
      subst hw0'
      clear hw0
      go_wp2_with fail
      refine HRC.out.mono ?_
      rintro x w1 ⟨v, rfl, hi1, s1, k1⟩
      dsimp only at hi1 s1
      obtain ⟨vk, vx, vb, vs, va, vm, vc, rfl⟩ := hi1.shape
      have M0 : Hid (Mid w (w1.alloc (.cells #[.int .i64 vk, .int .i64 vx, .int .u64 vb, .string vs, .slice va vm vc] 25)) g h w1.heap.size l1 e1 (.int .i64 vk) (.int .i64 vx) (.int .u64 vb) (.string vs) (.slice va vm vc)) := Mid.box HGH.out.1 HGH.out.2 s1 k1
      obtain ⟨W2, hW2⟩ : ∃ W2, W2 = w1.alloc (.cells #[.int .i64 vk, .int .i64 vx, .int .u64 vb, .string vs, .slice va vm vc] 25) := ⟨_, rfl⟩
      obtain ⟨q, hq⟩ : ∃ q, q = w1.heap.size := ⟨_, rfl⟩
      rw [← hW2, ← hq] at M0
      have HW2 : Hid (W2 = _) := hW2
      have HQ : Hid (q = w1.heap.size) := hq
      have L2 : Hid (Calls Try.prog 79 #[.pointer (some ⟨g, 0, none⟩)] W2 fun x w' => x = .returned (.int .i64 (B : Int)) ∧ w' = W2) := by
        have := left_st W2 g h l1 e1 M0.out.st
        rwa [← HB.out] at this
      clear hi1 s1 k1 hW2 hq
      go_upto_region 3 with fail
      rw [← HW2.out, ← HQ.out]
      go_wp2_with fail
      refine L2.out.mono ?_
      rintro x w3 ⟨rfl, hw3⟩
      have hw3' := hw3.symm
      subst hw3'
      clear hw3
      have EC : Hid (Calls Try.prog 78 #[.pointer (some ⟨g, 0, none⟩)] W2 _) := err_st M0.out.st
      go_wp2_with fail
      refine EC.out.mono ?_
      rintro x w5 ⟨rfl, hw5⟩
      have hw5' := hw5.symm
      subst hw5'
      clear hw5
      obtain ⟨b0, b1, b2, b3, b4⟩ := M0.out.res
      have f0 := M0.out.rfr 0
      have f1 := M0.out.rfr 1
      have f2 := M0.out.rfr 2
      have f3 := M0.out.rfr 3
      have f4 := M0.out.rfr 4
      go_wp2_with fail
      refine bodyPost_ret (ret5 Try.results83 _ (g := w.heap.size) rfl (set5_at M0.out.res (.int .i64 0) (.int .i64 0) (.int .u64 0) (.string ⟨#[]⟩) (.slice none 0 0))) rfl ?_
      rw [HF.out]
      exact M0.out.fin0
end Go.Proofs.Ytjmonkhkcmcfiaa
