/- The contract of the program's Read of a policy, whatever bytes come next. -/
import Derived.Test.YtacmlholbnddpaaLK
import Derived.Test.YtacmlholbnddpaaXD
import Derived.Deep.WholeRow
namespace Go.Proofs.Ytacmlholbnddpaa
open Go.ChangeShapes Go.WideShapes Go.ChangeAt Go.RowKit
/-- A reader stays, while its two blocks do. -/
theorem St.keep2 {w w' : World} {g h : Nat} {l : List UInt8} {e : Int} (r : St w g h l e) (h1 : w'.heap[g]? = w.heap[g]?) (h2 : w'.heap[h]? = w.heap[h]?) : St w' g h l e := by
  have fg : ∀ o, w'.cell? ⟨g, o, none⟩ = w.cell? ⟨g, o, none⟩ := fun o => World.cell?_of_block h1
  have fh : ∀ o, w'.cell? ⟨h, o, none⟩ = w.cell? ⟨h, o, none⟩ := fun o => World.cell?_of_block h2
  have zg : ∀ o, w'.frozen? ⟨g, o, none⟩ = w.frozen? ⟨g, o, none⟩ := fun o => World.frozen?_of_block h1
  rcases r with ⟨h0, p, c, a0, a1, a2, f1, f2, hl, hg, hb⟩ | ⟨h0, hl, a0, a2⟩
  · refine .inl ⟨h0, p, c, (fg 0).trans a0, (fg 1).trans a1, (fg 2).trans a2, (zg 1).trans f1, (zg 2).trans f2, hl, hg, fun hne => ?_⟩
    obtain ⟨o, ho, hc⟩ := hb hne
    exact ⟨o, ho, fun i x hx => (fh _).trans (hc i x hx)⟩
  · exact .inr ⟨h0, hl, (fg 0).trans a0, (fg 2).trans a2⟩
/-- The three cells of block B. -/
def At3 (w : World) (B : Nat) (c0 c1 c2 : Value) : Prop := w.cell? ⟨B, 0, none⟩ = some c0 ∧ w.cell? ⟨B, 1, none⟩ = some c1 ∧ w.cell? ⟨B, 2, none⟩ = some c2
theorem At3.keep {w w' : World} {B : Nat} {c0 c1 c2 : Value} (h : At3 w B c0 c1 c2) (hk : w'.heap[B]? = w.heap[B]?) : At3 w' B c0 c1 c2 := by
  have f : ∀ o, w'.cell? ⟨B, o, none⟩ = w.cell? ⟨B, o, none⟩ := fun o => World.cell?_of_block hk
  exact ⟨(f 0).trans h.1, (f 1).trans h.2.1, (f 2).trans h.2.2⟩
theorem freshP (w : World) (M : Array Value) (t : TypeId) (o : Nat) : (w.alloc (.cells M t)).frozen? ⟨w.heap.size, o, none⟩ = false := by
  unfold World.frozen?
  rw [heap_alloc_last]
  simp
theorem info24 : (Try.prog.info? 37).map (fun i => (i.zero, i.size, i.bytes)) = some (some (.agg #[.int .i64 0, .int .u64 0, .int .i64 0]), 3, 24) := by kernel_rfl
theorem load3 {w : World} {g : Nat} {c0 c1 c2 : Value} (h : At3 w g c0 c1 c2) : (loadVar 37 ⟨g, 0, none⟩).run Try.prog w = .ok (.agg #[c0, c1, c2]) w := by
  have hl : (loadCells ⟨g, 0, none⟩ 3).run Try.prog w = .ok #[c0, c1, c2] w :=
    run_loadCells_list (P := Try.prog) w ⟨g, 0, none⟩ [c0, c1, c2] (fun j v hv => by
      rw [add_plain]
      obtain ⟨h0, h1, h2⟩ := h
      match j, hv with
      | 0, hv => cases hv; exact h0
      | 1, hv => cases hv; exact h1
      | 2, hv => cases hv; exact h2)
  obtain ⟨i0, hi, _, hz1, _⟩ := info_parts info24
  have hagg : (isAgg 37).run Try.prog w = .ok true w := by
    unfold isAgg
    rw [Sem.run_bind, run_underlying Try.underlying37 w]
    rfl
  simp [loadVar, Sem.run_bind, hagg, sizeOf, typeInfo, hi, hz1, hl]
theorem ret3 {fn : Func} {p : Tmp} (h : fn.results = #[.cell p 37]) (tmps : Array Value) {w : World} {g : Nat} {c0 c1 c2 : Value} (hp : tmps.getD p undef = .pointer (some ⟨g, 0, none⟩)) (h5 : At3 w g c0 c1 c2) :
    (results fn tmps).run Try.prog w = .ok (.agg #[c0, c1, c2]) w := by
  have hp' : tmps[p]?.getD undef = .pointer (some ⟨g, 0, none⟩) := by simpa using hp
  simp [results, h, hp', asAddr, load3 h5]
def set3 (w : World) (g : Nat) (c0 c1 c2 : Value) : World := ((w.setCell ⟨g, 0, none⟩ c0).setCell ⟨g, 1, none⟩ c1).setCell ⟨g, 2, none⟩ c2
theorem set3_kb (w : World) (g : Nat) (c0 c1 c2 : Value) : KB g w (set3 w g c0 c1 c2) := ((KB.setCell g w 0 c0).trans (KB.setCell g _ _ c1)).trans (KB.setCell g _ _ c2)
theorem cs3 (w : World) (B o o' : Nat) (u : Value) (h : o ≠ o') : (w.setCell ⟨B, o', none⟩ u).cell? ⟨B, o, none⟩ = w.cell? ⟨B, o, none⟩ :=
  World.cell?_setCell_other w _ _ u (fun e => h (by injection e with _ e2; exact e2.symm))
theorem At3.set0 {W : World} {q : Nat} {c0 c1 c2 : Value} (h : At3 W q c0 c1 c2) (u : Value) : At3 (W.setCell ⟨q, 0, none⟩ u) q u c1 c2 := ⟨World.cell?_setCell_same _ _ _ h.1, (cs3 _ _ _ _ _ (by decide)).trans h.2.1, (cs3 _ _ _ _ _ (by decide)).trans h.2.2⟩
theorem At3.set1 {W : World} {q : Nat} {c0 c1 c2 : Value} (h : At3 W q c0 c1 c2) (u : Value) : At3 (W.setCell ⟨q, 1, none⟩ u) q c0 u c2 := ⟨(cs3 _ _ _ _ _ (by decide)).trans h.1, World.cell?_setCell_same _ _ _ h.2.1, (cs3 _ _ _ _ _ (by decide)).trans h.2.2⟩
theorem At3.set2 {W : World} {q : Nat} {c0 c1 c2 : Value} (h : At3 W q c0 c1 c2) (u : Value) : At3 (W.setCell ⟨q, 2, none⟩ u) q c0 c1 u := ⟨(cs3 _ _ _ _ _ (by decide)).trans h.1, (cs3 _ _ _ _ _ (by decide)).trans h.2.1, World.cell?_setCell_same _ _ _ h.2.2⟩
theorem set3_at {W : World} {q : Nat} {z0 z1 z2 : Value} (h : At3 W q z0 z1 z2) (c0 c1 c2 : Value) : At3 (set3 W q c0 c1 c2) q c0 c1 c2 := ((h.set0 c0).set1 c1).set2 c2
/-- The world while a policy is read: its result's box, its own box, and the reader. -/
structure Md (w W : World) (g h : Nat) (l : List UInt8) (e : Int) (c0 c1 c2 : Value) : Prop where
  q1 : w.heap.size + 1 < W.heap.size
  gw : g < w.heap.size
  hw : h < w.heap.size
  res : At3 W w.heap.size (.int .i64 0) (.int .u64 0) (.int .i64 0)
  rfr : ∀ o, W.frozen? ⟨w.heap.size, o, none⟩ = false
  own : At3 W (w.heap.size + 1) c0 c1 c2
  ofr : ∀ o, W.frozen? ⟨w.heap.size + 1, o, none⟩ = false
  st : St W g h l e
  kb : KB g w W
theorem Md.step {w W w' : World} {g h : Nat} {l l' : List UInt8} {e e' : Int} {c0 c1 c2 : Value} (m : Md w W g h l e c0 c1 c2) (s : St w' g h l' e') (k : KB g W w') : Md w w' g h l' e' c0 c1 c2 := by
  have b := m.q1
  have c := m.gw
  exact ⟨Nat.lt_of_lt_of_le b k.2.2.2.1, c, m.hw, m.res.keep (k.2.2.2.2 _ (by omega) (by omega)), fun o => (k.frozen (a := ⟨w.heap.size, o, none⟩) (show w.heap.size < W.heap.size by omega) (show w.heap.size ≠ g by omega)).trans (m.rfr o), m.own.keep (k.2.2.2.2 _ (by omega) (by omega)), fun o => (k.frozen (a := ⟨w.heap.size + 1, o, none⟩) b (show w.heap.size + 1 ≠ g by omega)).trans (m.ofr o), s, m.kb.trans k⟩
theorem Md.put {w W : World} {g h i : Nat} {l : List UInt8} {e : Int} {c0 c1 c2 d0 d1 d2 : Value} (m : Md w W g h l e c0 c1 c2) (u : Value) (h5 : At3 (W.setCell ⟨w.heap.size + 1, i, none⟩ u) (w.heap.size + 1) d0 d1 d2) : Md w (W.setCell ⟨w.heap.size + 1, i, none⟩ u) g h l e d0 d1 d2 := by
  have b := m.q1
  have c := m.gw
  have d := m.hw
  have hb : ∀ B, B ≠ w.heap.size + 1 → (W.setCell ⟨w.heap.size + 1, i, none⟩ u).heap[B]? = W.heap[B]? := fun B hB => Below.heap_setCell _ _ _ _ hB
  have hsz : (W.setCell ⟨w.heap.size + 1, i, none⟩ u).heap.size = W.heap.size := by simp [World.setCell]
  exact ⟨by rw [hsz]; exact b, c, d, m.res.keep (hb _ (by omega)), fun o => (World.frozen?_setCell _ _ _ _).trans (m.rfr o), h5, fun o => (World.frozen?_setCell _ _ _ _).trans (m.ofr o), m.st.keep2 (hb g (by omega)) (hb h (by omega)), kb_below m.kb ((KB.setCell (w.heap.size + 1) W i u).below (by omega) (by omega))⟩
theorem Md.first {w : World} {g h : Nat} {l : List UInt8} {e : Int} (s : St w g h l e) (hh : h < w.heap.size) : Md w ((w.alloc (.cells #[.int .i64 0, .int .u64 0, .int .i64 0] 37)).alloc (.cells #[.int .i64 0, .int .u64 0, .int .i64 0] 37)) g h l e (.int .i64 0) (.int .u64 0) (.int .i64 0) := by
  have hg := s.lt
  have hz : (w.alloc (.cells #[.int .i64 0, .int .u64 0, .int .i64 0] 37)).heap.size = w.heap.size + 1 := by simp
  have b1 := bel1 w (.cells #[.int .i64 0, .int .u64 0, .int .i64 0] 37)
  have b2 := bel1 (w.alloc (.cells #[.int .i64 0, .int .u64 0, .int .i64 0] 37)) (.cells #[.int .i64 0, .int .u64 0, .int .i64 0] 37)
  have b3 := bel2 b1 b2
  refine ⟨by simp, hg, hh, At3.keep (w := w.alloc (.cells #[.int .i64 0, .int .u64 0, .int .i64 0] 37)) (box3 w _ _ _ _) (b2.block _ (by omega)), fun o => (b2.frozen (p := ⟨w.heap.size, o, none⟩) (by show w.heap.size < _; omega)).trans (freshP w _ _ o), ?_, fun o => ?_, s.keep2 (b3.block g hg) (b3.block h hh), KB.of_below b3⟩
  · have := box3 (w.alloc (.cells #[.int .i64 0, .int .u64 0, .int .i64 0] 37)) (.int .i64 0) (.int .u64 0) (.int .i64 0) 37
    rw [hz] at this
    exact this
  · have := freshP (w.alloc (.cells #[.int .i64 0, .int .u64 0, .int .i64 0] 37)) #[.int .i64 0, .int .u64 0, .int .i64 0] 37 o
    rw [hz] at this
    exact this
/-- What reading a policy leaves: its fields, what is left, the error. -/
structure Pr where
  f : Int
  c : Nat
  m : Int
  l : List UInt8
  e : Int
def pl (c : Nat) (l : List UInt8) (e : Int) : List UInt8 := if isC c then l else if e == 0 then [] else l
def pe (c : Nat) (e : Int) : Int := if isC c then e else if e == 0 then 3 else e
/-- What was read, of all three. -/
def pr3 (f : Int) (c : Nat) (m : Int) (l : List UInt8) (e : Int) : Pr := if pe c e = 0 then ⟨f, c, m, pl c l e, 0⟩ else ⟨0, 0, 0, pl c l e, pe c e⟩
def rdP (l : List UInt8) (e : Int) : Pr :=
  let a := sNum 1073741824 l e
  let b := sBits a.2.1 a.2.2
  let d := sNum 1073741824 b.2.1 b.2.2
  pr3 a.1 b.1 d.1 d.2.1 d.2.2
def PrP (w : World) (g h : Nat) (r : Pr) (x : Ending) (w' : World) : Prop := x = .returned (.agg #[.int .i64 r.f, .int .u64 (r.c : Int), .int .i64 r.m]) ∧ St w' g h r.l r.e ∧ KB g w w'
theorem Md.fin {w W : World} {g h : Nat} {l : List UInt8} {e : Int} {c0 c1 c2 : Value} (m : Md w W g h l e c0 c1 c2) (f : Int) (c : Nat) (k : Int) :
    PrP w g h ⟨f, c, k, l, e⟩ (.returned (.agg #[.int .i64 f, .int .u64 (c : Int), .int .i64 k])) (set3 W w.heap.size (.int .i64 f) (.int .u64 (c : Int)) (.int .i64 k)) := by
  have a := m.gw
  have b := m.hw
  have c1 := m.q1
  exact ⟨rfl, m.st.keep2 ((set3_kb W w.heap.size _ _ _).2.2.2.2 g (by omega) (by omega)) ((set3_kb W w.heap.size _ _ _).2.2.2.2 h (by omega) (by omega)), kb_below m.kb ((set3_kb W w.heap.size _ _ _).below (Nat.le_refl _) (by omega))⟩
theorem fl_lP (l : List UInt8) (e : Int) : (if e == 0 && (3 : Int) != 0 then [] else l) = if e == 0 then [] else l := by
  cases (e == 0) <;> simp
theorem sBits_lt (l : List UInt8) (e : Int) : (sBits l e).1 < 18446744073709551616 := by
  unfold sBits
  split
  · split
    · decide
    · dsimp only
      have h := valB_lt (l.take 8)
      have hl : (l.take 8).length ≤ 8 := by simp; omega
      have : 256 ^ (l.take 8).length ≤ 256 ^ 8 := Nat.pow_le_pow_right (by decide) hl
      have e8 : (256 : Nat) ^ 8 = 18446744073709551616 := by decide
      omega
  · show (0 : Nat) < _
    decide
set_option maxHeartbeats 2000000 in
set_option maxRecDepth 100000 in
theorem readp_calls (w : World) (g h : Nat) (l : List UInt8) (e : Int) (r : St w g h l e) (hh : h < w.heap.size) :
    Calls Try.prog 55 #[.pointer (some ⟨g, 0, none⟩)] w (PrP w g h (rdP l e)) := by
  have M0 : Hid (Md w ((w.alloc (.cells #[.int .i64 0, .int .u64 0, .int .i64 0] 37)).alloc (.cells #[.int .i64 0, .int .u64 0, .int .i64 0] 37)) g h l e (.int .i64 0) (.int .u64 0) (.int .i64 0)) := Md.first r hh
  obtain ⟨W0, hW0⟩ : ∃ W0, W0 = ((w.alloc (.cells #[.int .i64 0, .int .u64 0, .int .i64 0] 37)).alloc (.cells #[.int .i64 0, .int .u64 0, .int .i64 0] 37)) := ⟨_, rfl⟩
  rw [← hW0] at M0
  have HW0 : Hid (W0 = ((w.alloc (.cells #[.int .i64 0, .int .u64 0, .int .i64 0] 37)).alloc (.cells #[.int .i64 0, .int .u64 0, .int .i64 0] 37))) := hW0
  have N1 := num_st W0 g h l e 1073741824 M0.out.st
  unfold rdP
  dsimp only
  have cb := sBits_lt (sNum 1073741824 l e).2.1 (sNum 1073741824 l e).2.2
  generalize sNum 1073741824 l e = R1 at N1 cb ⊢
  obtain ⟨f, l1, e1⟩ := R1
  dsimp only at N1 cb ⊢
  have B1 := fun W (s : St W g h l1 e1) => bits_st W g h l1 e1 s
  generalize sBits l1 e1 = R2 at B1 cb ⊢
  obtain ⟨c, l2, e2⟩ := R2
  dsimp only at B1 cb ⊢
  have N2 := fun W (s : St W g h l2 e2) => num_st W g h l2 e2 1073741824 s
  generalize sNum 1073741824 l2 e2 = R3 at N2 ⊢
  obtain ⟨m, l3, e3⟩ := R3
  dsimp only at N2 ⊢
  have HN1 : Hid (Calls Try.prog 52 #[.pointer (some ⟨g, 0, none⟩), .int .i64 1073741824] W0 (Rs W0 g h (.int .i64 f) l1 e1)) := N1
  have HB1 : Hid (∀ W, St W g h l1 e1 → Calls Try.prog 69 #[.pointer (some ⟨g, 0, none⟩)] W (Rs W g h (.int .u64 (c : Int)) l2 e2)) := B1
  have HN2 : Hid (∀ W, St W g h l2 e2 → Calls Try.prog 52 #[.pointer (some ⟨g, 0, none⟩), .int .i64 1073741824] W (Rs W g h (.int .i64 m) l3 e3)) := N2
  have IC : Hid (∀ W, Calls Try.prog 51 #[.int .u64 (c : Int)] W fun x w' => x = .returned (.bool (isC c)) ∧ w' = W) := fun W => isCoef_calls c cb W
  have HE : Hid (∀ x w', PrP w g h (if pe c e3 = 0 then ⟨f, c, m, pl c l3 e3, 0⟩ else ⟨0, 0, 0, pl c l3 e3, pe c e3⟩) x w' → PrP w g h (pr3 f c m l3 e3) x w') := fun x w' hx => hx
  have HFI : Hid (∀ W l e c0 c1 c2 f c k, Md w W g h l e c0 c1 c2 → PrP w g h ⟨f, c, k, l, e⟩ (.returned (.agg #[.int .i64 f, .int .u64 (c : Int), .int .i64 k])) (set3 W w.heap.size (.int .i64 f) (.int .u64 (c : Int)) (.int .i64 k))) := fun W l e c0 c1 c2 f c k hm => hm.fin f c k
  generalize pr3 f c m l3 e3 = PR at HE ⊢
  clear hW0 r hh N1 B1 N2 cb
  have hq : (w.alloc (.cells #[.int .i64 0, .int .u64 0, .int .i64 0] 37)).heap.size = w.heap.size + 1 := by simp
  have HQ : Hid ((w.alloc (.cells #[.int .i64 0, .int .u64 0, .int .i64 0] 37)).heap.size = w.heap.size + 1) := hq
  clear hq
  cases hc : isC c with
  | true =>
    by_cases h0 : e3 = 0
    · subst h0
      have HP : Hid ((if pe c 0 = 0 then (⟨f, c, m, pl c l3 0, 0⟩ : Pr) else ⟨0, 0, 0, pl c l3 0, pe c 0⟩) = ⟨f, c, m, l3, 0⟩) := by
        show _ = _
        unfold pe pl
        rw [if_pos hc, if_pos hc, if_pos rfl]
      go_enter Try.func55, Try.ntmps55
      go_upto_region 2 with fail
      rw [← HW0.out]
      go_wp2_with fail
      refine (HN1.out).mono ?_
      rintro x w1 ⟨rfl, s1, k1⟩
      have M1 : Hid (Md w (w1.setCell ⟨w.heap.size + 1, 0, none⟩ (.int .i64 f)) g h l1 e1 (.int .i64 f) (.int .u64 0) (.int .i64 0)) := Md.put (M0.out.step s1 k1) _ ((M0.out.step s1 k1).own.set0 _)
      obtain ⟨a0, a1, a2⟩ := (M0.out.step s1 k1).own
      have f0 := (M0.out.step s1 k1).ofr 0
      obtain ⟨W1, hW1⟩ : ∃ W1, W1 = w1.setCell ⟨w.heap.size + 1, 0, none⟩ (.int .i64 f) := ⟨_, rfl⟩
      rw [← hW1] at M1
      have HW1 : Hid (W1 = _) := hW1
      clear s1 k1 hW1
      go_upto_region 3 with fail
      rw [← HW1.out]
      clear a0 a1 a2 f0
      go_wp2_with fail
      refine (HB1.out _ M1.out.st).mono ?_
      rintro x w2 ⟨rfl, s2, k2⟩
      have M2 : Hid (Md w (w2.setCell ⟨w.heap.size + 1, 1, none⟩ (.int .u64 (c : Int))) g h l2 e2 (.int .i64 f) (.int .u64 (c : Int)) (.int .i64 0)) := Md.put (M1.out.step s2 k2) _ ((M1.out.step s2 k2).own.set1 _)
      obtain ⟨a0, a1, a2⟩ := (M1.out.step s2 k2).own
      have f0 := (M1.out.step s2 k2).ofr 1
      obtain ⟨W2, hW2⟩ : ∃ W2, W2 = w2.setCell ⟨w.heap.size + 1, 1, none⟩ (.int .u64 (c : Int)) := ⟨_, rfl⟩
      rw [← hW2] at M2
      have HW2 : Hid (W2 = _) := hW2
      clear s2 k2 hW2
      go_upto_region 4 with fail
      rw [← HW2.out]
      clear a0 a1 a2 f0
      go_wp2_with fail
      refine (HN2.out _ M2.out.st).mono ?_
      rintro x w3 ⟨rfl, s3, k3⟩
      have M3 : Hid (Md w (w3.setCell ⟨w.heap.size + 1, 2, none⟩ (.int .i64 m)) g h l3 0 (.int .i64 f) (.int .u64 (c : Int)) (.int .i64 m)) := Md.put (M2.out.step s3 k3) _ ((M2.out.step s3 k3).own.set2 _)
      obtain ⟨a0, a1, a2⟩ := (M2.out.step s3 k3).own
      have f0 := (M2.out.step s3 k3).ofr 2
      obtain ⟨W3, hW3⟩ : ∃ W3, W3 = w3.setCell ⟨w.heap.size + 1, 2, none⟩ (.int .i64 m) := ⟨_, rfl⟩
      rw [← hW3] at M3
      have HW3 : Hid (W3 = _) := hW3
      clear s3 k3 hW3
      go_upto_region 5 with fail
      rw [← HW3.out]
      clear a0 a1 a2 f0
      obtain ⟨a0, a1, a2⟩ := M3.out.own
      go_wp2_with fail
      refine (IC.out _).mono ?_
      rintro x w4 ⟨rfl, hw4⟩
      have hw4' := hw4.symm
      subst hw4'
      clear hw4
      rw [hc]
      have EC : Hid (Calls Try.prog 42 #[.pointer (some ⟨g, 0, none⟩)] W3 _) := err_st M3.out.st
      go_wp2_with fail
      refine EC.out.mono ?_
      rintro x w6 ⟨rfl, hw6⟩
      have hw6' := hw6.symm
      subst hw6'
      clear hw6
      obtain ⟨a0, a1, a2⟩ := M3.out.own
      obtain ⟨b0, b1, b2⟩ := M3.out.res
      have f0 := M3.out.rfr 0
      have f1 := M3.out.rfr 1
      have f2 := M3.out.rfr 2
      go_wp2_with fail
      refine bodyPost_ret (ret3 Try.results55 _ (g := w.heap.size) rfl (set3_at M3.out.res (.int .i64 f) (.int .u64 (c : Int)) (.int .i64 m))) rfl ?_
      refine HE.out _ _ ?_
      rw [HP.out]
      exact HFI.out _ _ _ _ _ _ f c m M3.out

    · have HP : Hid ((if pe c e3 = 0 then (⟨f, c, m, pl c l3 e3, 0⟩ : Pr) else ⟨0, 0, 0, pl c l3 e3, pe c e3⟩) = ⟨0, 0, 0, l3, e3⟩) := by
        show _ = _
        unfold pe pl
        rw [if_pos hc, if_pos hc, if_neg h0]
      have hE : (e3 != 0) = true := by simpa using h0
      clear h0
      go_enter Try.func55, Try.ntmps55
      go_upto_region 2 with fail
      rw [← HW0.out]
      go_wp2_with fail
      refine (HN1.out).mono ?_
      rintro x w1 ⟨rfl, s1, k1⟩
      have M1 : Hid (Md w (w1.setCell ⟨w.heap.size + 1, 0, none⟩ (.int .i64 f)) g h l1 e1 (.int .i64 f) (.int .u64 0) (.int .i64 0)) := Md.put (M0.out.step s1 k1) _ ((M0.out.step s1 k1).own.set0 _)
      obtain ⟨a0, a1, a2⟩ := (M0.out.step s1 k1).own
      have f0 := (M0.out.step s1 k1).ofr 0
      obtain ⟨W1, hW1⟩ : ∃ W1, W1 = w1.setCell ⟨w.heap.size + 1, 0, none⟩ (.int .i64 f) := ⟨_, rfl⟩
      rw [← hW1] at M1
      have HW1 : Hid (W1 = _) := hW1
      clear s1 k1 hW1
      go_upto_region 3 with fail
      rw [← HW1.out]
      clear a0 a1 a2 f0
      go_wp2_with fail
      refine (HB1.out _ M1.out.st).mono ?_
      rintro x w2 ⟨rfl, s2, k2⟩
      have M2 : Hid (Md w (w2.setCell ⟨w.heap.size + 1, 1, none⟩ (.int .u64 (c : Int))) g h l2 e2 (.int .i64 f) (.int .u64 (c : Int)) (.int .i64 0)) := Md.put (M1.out.step s2 k2) _ ((M1.out.step s2 k2).own.set1 _)
      obtain ⟨a0, a1, a2⟩ := (M1.out.step s2 k2).own
      have f0 := (M1.out.step s2 k2).ofr 1
      obtain ⟨W2, hW2⟩ : ∃ W2, W2 = w2.setCell ⟨w.heap.size + 1, 1, none⟩ (.int .u64 (c : Int)) := ⟨_, rfl⟩
      rw [← hW2] at M2
      have HW2 : Hid (W2 = _) := hW2
      clear s2 k2 hW2
      go_upto_region 4 with fail
      rw [← HW2.out]
      clear a0 a1 a2 f0
      go_wp2_with fail
      refine (HN2.out _ M2.out.st).mono ?_
      rintro x w3 ⟨rfl, s3, k3⟩
      have M3 : Hid (Md w (w3.setCell ⟨w.heap.size + 1, 2, none⟩ (.int .i64 m)) g h l3 e3 (.int .i64 f) (.int .u64 (c : Int)) (.int .i64 m)) := Md.put (M2.out.step s3 k3) _ ((M2.out.step s3 k3).own.set2 _)
      obtain ⟨a0, a1, a2⟩ := (M2.out.step s3 k3).own
      have f0 := (M2.out.step s3 k3).ofr 2
      obtain ⟨W3, hW3⟩ : ∃ W3, W3 = w3.setCell ⟨w.heap.size + 1, 2, none⟩ (.int .i64 m) := ⟨_, rfl⟩
      rw [← hW3] at M3
      have HW3 : Hid (W3 = _) := hW3
      clear s3 k3 hW3
      go_upto_region 5 with fail
      rw [← HW3.out]
      clear a0 a1 a2 f0
      obtain ⟨a0, a1, a2⟩ := M3.out.own
      go_wp2_with fail
      refine (IC.out _).mono ?_
      rintro x w4 ⟨rfl, hw4⟩
      have hw4' := hw4.symm
      subst hw4'
      clear hw4
      rw [hc]
      have EC : Hid (Calls Try.prog 42 #[.pointer (some ⟨g, 0, none⟩)] W3 _) := err_st M3.out.st
      go_wp2_with fail
      refine EC.out.mono ?_
      rintro x w6 ⟨rfl, hw6⟩
      have hw6' := hw6.symm
      subst hw6'
      clear hw6
      obtain ⟨a0, a1, a2⟩ := M3.out.own
      obtain ⟨b0, b1, b2⟩ := M3.out.res
      have f0 := M3.out.rfr 0
      have f1 := M3.out.rfr 1
      have f2 := M3.out.rfr 2
      go_wp2_with fail
      refine bodyPost_ret (ret3 Try.results55 _ (g := w.heap.size) rfl (set3_at M3.out.res (.int .i64 0) (.int .u64 0) (.int .i64 0))) rfl ?_
      refine HE.out _ _ ?_
      rw [HP.out]
      exact HFI.out _ _ _ _ _ _ 0 0 0 M3.out

  | false =>
    have hpe : pe c e3 ≠ 0 := by
      unfold pe
      rw [if_neg (by rw [hc]; simp)]
      by_cases h0 : e3 = 0
      · rw [h0]; decide
      · rw [if_neg (by simpa using h0)]; exact h0
    have HP : Hid ((if pe c e3 = 0 then (⟨f, c, m, pl c l3 e3, 0⟩ : Pr) else ⟨0, 0, 0, pl c l3 e3, pe c e3⟩) = ⟨0, 0, 0, pl c l3 e3, pe c e3⟩) := by
      show _ = _
      rw [if_neg hpe]
    have hE : (pe c e3 != 0) = true := by simpa using hpe
    clear hpe
    go_enter Try.func55, Try.ntmps55
    go_upto_region 2 with fail
    rw [← HW0.out]
    go_wp2_with fail
    refine (HN1.out).mono ?_
    rintro x w1 ⟨rfl, s1, k1⟩
    have M1 : Hid (Md w (w1.setCell ⟨w.heap.size + 1, 0, none⟩ (.int .i64 f)) g h l1 e1 (.int .i64 f) (.int .u64 0) (.int .i64 0)) := Md.put (M0.out.step s1 k1) _ ((M0.out.step s1 k1).own.set0 _)
    obtain ⟨a0, a1, a2⟩ := (M0.out.step s1 k1).own
    have f0 := (M0.out.step s1 k1).ofr 0
    obtain ⟨W1, hW1⟩ : ∃ W1, W1 = w1.setCell ⟨w.heap.size + 1, 0, none⟩ (.int .i64 f) := ⟨_, rfl⟩
    rw [← hW1] at M1
    have HW1 : Hid (W1 = _) := hW1
    clear s1 k1 hW1
    go_upto_region 3 with fail
    rw [← HW1.out]
    clear a0 a1 a2 f0
    go_wp2_with fail
    refine (HB1.out _ M1.out.st).mono ?_
    rintro x w2 ⟨rfl, s2, k2⟩
    have M2 : Hid (Md w (w2.setCell ⟨w.heap.size + 1, 1, none⟩ (.int .u64 (c : Int))) g h l2 e2 (.int .i64 f) (.int .u64 (c : Int)) (.int .i64 0)) := Md.put (M1.out.step s2 k2) _ ((M1.out.step s2 k2).own.set1 _)
    obtain ⟨a0, a1, a2⟩ := (M1.out.step s2 k2).own
    have f0 := (M1.out.step s2 k2).ofr 1
    obtain ⟨W2, hW2⟩ : ∃ W2, W2 = w2.setCell ⟨w.heap.size + 1, 1, none⟩ (.int .u64 (c : Int)) := ⟨_, rfl⟩
    rw [← hW2] at M2
    have HW2 : Hid (W2 = _) := hW2
    clear s2 k2 hW2
    go_upto_region 4 with fail
    rw [← HW2.out]
    clear a0 a1 a2 f0
    go_wp2_with fail
    refine (HN2.out _ M2.out.st).mono ?_
    rintro x w3 ⟨rfl, s3, k3⟩
    have M3 : Hid (Md w (w3.setCell ⟨w.heap.size + 1, 2, none⟩ (.int .i64 m)) g h l3 e3 (.int .i64 f) (.int .u64 (c : Int)) (.int .i64 m)) := Md.put (M2.out.step s3 k3) _ ((M2.out.step s3 k3).own.set2 _)
    obtain ⟨a0, a1, a2⟩ := (M2.out.step s3 k3).own
    have f0 := (M2.out.step s3 k3).ofr 2
    obtain ⟨W3, hW3⟩ : ∃ W3, W3 = w3.setCell ⟨w.heap.size + 1, 2, none⟩ (.int .i64 m) := ⟨_, rfl⟩
    rw [← hW3] at M3
    have HW3 : Hid (W3 = _) := hW3
    clear s3 k3 hW3
    go_upto_region 5 with fail
    rw [← HW3.out]
    clear a0 a1 a2 f0
    obtain ⟨a0, a1, a2⟩ := M3.out.own
    go_wp2_with fail
    refine (IC.out _).mono ?_
    rintro x w4 ⟨rfl, hw4⟩
    have hw4' := hw4.symm
    subst hw4'
    clear hw4
    rw [hc]
    have FC : Hid (Calls Try.prog 41 #[.pointer (some ⟨g, 0, none⟩), .int .i64 3] W3 fun r w' => r = .returned (.tuple #[]) ∧ St w' g h (pl c l3 e3) (pe c e3) ∧ KB g W3 w') := by
      have := fail_st W3 g h l3 e3 3 M3.out.st
      rw [fl_lP] at this
      have p1 : pl c l3 e3 = if e3 == 0 then [] else l3 := by unfold pl; rw [if_neg (by rw [hc]; simp)]
      have p2 : pe c e3 = if e3 == 0 then 3 else e3 := by unfold pe; rw [if_neg (by rw [hc]; simp)]
      rw [p1, p2]
      exact this
    go_wp2_with fail
    refine FC.out.mono ?_
    rintro x w5 ⟨rfl, s5, k5⟩
    have M5 : Hid (Md w w5 g h (pl c l3 e3) (pe c e3) (.int .i64 f) (.int .u64 (c : Int)) (.int .i64 m)) := M3.out.step s5 k5
    clear s5 k5 a0 a1 a2
    have EC : Hid (Calls Try.prog 42 #[.pointer (some ⟨g, 0, none⟩)] w5 _) := err_st M5.out.st
    go_wp2_with fail
    refine EC.out.mono ?_
    rintro x w6 ⟨rfl, hw6⟩
    have hw6' := hw6.symm
    subst hw6'
    clear hw6
    obtain ⟨a0, a1, a2⟩ := M5.out.own
    obtain ⟨b0, b1, b2⟩ := M5.out.res
    have f0 := M5.out.rfr 0
    have f1 := M5.out.rfr 1
    have f2 := M5.out.rfr 2
    go_wp2_with fail
    refine bodyPost_ret (ret3 Try.results55 _ (g := w.heap.size) rfl (set3_at M5.out.res (.int .i64 0) (.int .u64 0) (.int .i64 0))) rfl ?_
    refine HE.out _ _ ?_
    rw [HP.out]
    exact HFI.out _ _ _ _ _ _ 0 0 0 M5.out
end Go.Proofs.Ytacmlholbnddpaa
