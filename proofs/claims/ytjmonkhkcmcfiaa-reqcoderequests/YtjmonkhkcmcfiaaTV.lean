/- The reference's ReadRequest. -/
import Derived.Test.YtjmonkhkcmcfiaaTP
import Derived.Test.YtjmonkhkcmcfiaaTM
import Derived.Deep.DeepCutAuto
namespace Go.Proofs.Ytjmonkhkcmcfiaa
open Go.ChangeShapes Go.WideShapes Go.ChangeAt Go.RowKit
/-- The world while a struct is read into a box at q by the reference's reader. -/
structure Xb (T : TypeId) (w W : World) (g h q : Nat) (l : List UInt8) (e : Int) (cs : Array Value) : Prop where
  gw : g < w.heap.size
  hw : h < w.heap.size
  q0 : w.heap.size ≤ q
  own : W.heap[q]? = some (.cells cs T (0, 0))
  st : RT W g h l e
  kb : KB g w W
theorem Xb.lt {T : TypeId} {w W : World} {g h q : Nat} {l : List UInt8} {e : Int} {cs : Array Value} (m : Xb T w W g h q l e cs) : q < W.heap.size := (Array.getElem?_eq_some_iff.1 m.own).1
theorem Xb.first {T : TypeId} {w : World} {g h : Nat} {l : List UInt8} {e : Int} (cs : Array Value) (s : RT w g h l e) (hh : h < w.heap.size) : Xb T w (w.alloc (.cells cs T)) g h w.heap.size l e cs :=
  ⟨s.lt, hh, Nat.le_refl _, heap_alloc_new w (.cells cs T), s.below hh (bel1 w _), KB.of_below (bel1 w _)⟩
theorem Xb.step {T : TypeId} {w W w' : World} {g h q : Nat} {l l' : List UInt8} {e e' : Int} {cs : Array Value} (m : Xb T w W g h q l e cs) (s : RT w' g h l' e') (k : KB g W w') : Xb T w w' g h q l' e' cs := by
  have a := m.lt
  have b := m.gw
  have c := m.q0
  exact ⟨b, m.hw, c, (k.2.2.2.2 _ a (by omega)).trans m.own, s, m.kb.trans k⟩
theorem Xb.put {T : TypeId} {w W : World} {g h q : Nat} {l : List UInt8} {e : Int} {cs : Array Value} (m : Xb T w W g h q l e cs) (i : Nat) (u : Value) : Xb T w (W.setCell ⟨q, i, none⟩ u) g h q l e (cs.setIfInBounds i u) := by
  have a := m.lt
  have b := m.gw
  have c := m.hw
  have d := m.q0
  have hb : ∀ B, B ≠ q → (W.setCell ⟨q, i, none⟩ u).heap[B]? = W.heap[B]? := fun B hB => Below.heap_setCell _ _ _ _ hB
  have hsz := m.kb.2.2.2.1
  exact ⟨b, c, d, heap_setCell_same W _ i cs T u m.own, m.st.keep (hb g (by omega)) (hb h (by omega)), kb_below m.kb ((KB.setCell _ W i u).below (by omega) (by omega))⟩
/-- Blocks from lo on, behind the box, may change. -/
theorem Xb.low {T : TypeId} {w W w' : World} {g h q lo : Nat} {l : List UInt8} {e : Int} {cs : Array Value} (m : Xb T w W g h q l e cs) (hb : Below lo W w') (hq : q < lo) : Xb T w w' g h q l e cs := by
  have b := m.gw
  have c := m.hw
  have d := m.q0
  have k := m.kb
  exact ⟨b, c, d, (hb.block q hq).trans m.own, m.st.keep (hb.block g (by omega)) (hb.block h (by omega)), ⟨hb.os.trans k.1, hb.tape.trans k.2.1, hb.output.trans k.2.2.1, Nat.le_trans k.2.2.2.1 hb.size, fun i hi hg => (hb.block i (by omega)).trans (k.2.2.2.2 i hi hg)⟩⟩
theorem Xb.cell {T : TypeId} {w W : World} {g h q : Nat} {l : List UInt8} {e : Int} {cs : Array Value} (m : Xb T w W g h q l e cs) (i : Nat) {v : Value} (hv : cs[i]? = some v) : W.cell? ⟨q, i, none⟩ = some v := row_cell m.own hv
theorem Xb.free {T : TypeId} {w W : World} {g h q : Nat} {l : List UInt8} {e : Int} {cs : Array Value} (m : Xb T w W g h q l e cs) (i : Nat) : W.frozen? ⟨q, i, none⟩ = false := free_row m.own i
/-- What stays but for the reader and the box. -/
def KQ (g q : Nat) (a b : World) : Prop := a.heap.size ≤ b.heap.size ∧ ∀ i, i < a.heap.size → i ≠ g → i ≠ q → b.heap[i]? = a.heap[i]?
theorem KQ.refl (g q : Nat) (a : World) : KQ g q a a := ⟨Nat.le_refl _, fun _ _ _ _ => rfl⟩
theorem KQ.trans {g q : Nat} {a b c : World} (h : KQ g q a b) (k : KQ g q b c) : KQ g q a c := ⟨Nat.le_trans h.1 k.1, fun i hi h1 h2 => (k.2 i (Nat.lt_of_lt_of_le hi h.1) h1 h2).trans (h.2 i hi h1 h2)⟩
theorem KQ.kb {g q : Nat} {a b : World} (h : KB g a b) : KQ g q a b := ⟨h.2.2.2.1, fun i hi hg _ => h.2.2.2.2 i hi hg⟩
theorem KQ.put (g q i : Nat) (a : World) (u : Value) : KQ g q a (a.setCell ⟨q, i, none⟩ u) := ⟨by simp [World.setCell], fun _ _ _ hq => Below.heap_setCell _ _ _ _ hq⟩
theorem KQ.below {g q lo : Nat} {a b : World} (h : Below lo a b) (hl : a.heap.size ≤ lo) : KQ g q a b := ⟨h.size, fun i hi _ _ => h.block i (by omega)⟩
/-- How far reading elements has come: no error yet, or the error that ends it. -/
def Jl {α : Type} (f : List UInt8 → Int → α × List UInt8 × Int) (N : Nat) (l1 : List UInt8) (e1 : Int) (j : Nat) (acc : List α) (lj : List UInt8) (ej : Int) : Prop :=
  (ej = 0 ∧ rdXs f N l1 e1 = jx acc (rdXs f (N - j) lj 0)) ∨ (ej ≠ 0 ∧ (rdXs f N l1 e1).2 = (lj, ej))
theorem Jl.first {α : Type} {f : List UInt8 → Int → α × List UInt8 × Int} {N : Nat} {l1 : List UInt8} {e1 : Int} (hz : e1 ≠ 0 → N = 0) : Jl f N l1 e1 0 [] l1 e1 := by
  by_cases h : e1 = 0
  · subst h
    exact .inl ⟨rfl, by rw [Nat.sub_zero, jx_nil]⟩
  · rw [hz h]
    exact .inr ⟨h, rfl⟩
theorem Jl.more {α : Type} {f : List UInt8 → Int → α × List UInt8 × Int} {N : Nat} {l1 : List UInt8} {e1 : Int} {j : Nat} {acc : List α} {lj : List UInt8} (h : Jl f N l1 e1 j acc lj 0) (hj : j < N) : Jl f N l1 e1 (j + 1) (acc ++ [(f lj 0).1]) (f lj 0).2.1 (f lj 0).2.2 := by
  obtain ⟨m, hm⟩ : ∃ m, N - j = m + 1 := ⟨N - j - 1, by omega⟩
  have hm2 : N - (j + 1) = m := by omega
  rcases h with ⟨_, h⟩ | ⟨h, _⟩
  · rw [hm] at h
    by_cases h0 : (f lj 0).2.2 = 0
    · refine .inl ⟨h0, ?_⟩
      rw [h, hm2, jx_more acc m lj h0]
    · refine .inr ⟨h0, ?_⟩
      rw [h, jx_end acc m lj h0]
  · exact absurd rfl h
theorem Jl.last {α : Type} {f : List UInt8 → Int → α × List UInt8 × Int} {N : Nat} {l1 : List UInt8} {e1 : Int} {j : Nat} {acc : List α} {lj : List UInt8} {ej : Int} (h : Jl f N l1 e1 j acc lj ej) (hj : j ≤ N) (hx : ¬ (j < N ∧ ej = 0)) : (rdXs f N l1 e1).2 = (lj, ej) ∧ (ej = 0 → (rdXs f N l1 e1).1 = acc) := by
  rcases h with ⟨h0, h⟩ | ⟨h0, h⟩
  · have : N - j = 0 := by omega
    rw [this] at h
    subst h0
    have e : jx acc (rdXs f 0 lj 0) = (acc, lj, 0) := by unfold jx rdXs; simp
    rw [h, e]
    exact ⟨rfl, fun _ => rfl⟩
  · exact ⟨h, fun h1 => absurd h1 h0⟩
end Go.Proofs.Ytjmonkhkcmcfiaa
namespace Go.Proofs.Ytjmonkhkcmcfiaa
open Go.ChangeShapes Go.WideShapes Go.ChangeAt Go.RowKit
theorem KQ.low {g q : Nat} {a b c : World} (h : KQ g q a b) (k : Below a.heap.size b c) : KQ g q a c := ⟨Nat.le_trans h.1 k.size, fun i hi h1 h2 => (k.block i hi).trans (h.2 i hi h1 h2)⟩
theorem IsN.kq {g q lo : Nat} {a b : World} (h : KQ g q a b) (hg : g < lo) (hq : q < lo) {n : Nat} {v : Value} {t : Tv} (k : IsN lo a n v t) : IsN lo b n v t := k.kept (fun B h1 h2 => h.2 B h2 (by omega) (by omega))
theorem LsE.kq {α : Type} {lo Sz g q : Nat} {El : (Value → Tv → Prop) → Array Value → α → Prop} (K : ElK Sz El) {a b : World} (h : KQ g q a b) (hg : g < lo) (hq : q < lo) {n : Nat} {p : Option Addr} {ds : List α} (k : LsE lo Sz El a n p ds) : LsE lo Sz El b n p ds := k.kept K (fun B h1 h2 => h.2 B h2 (by omega) (by omega))
set_option maxHeartbeats 8000000 in
set_option maxRecDepth 100000 in
theorem rreadq_calls (w : World) (v : Value) (l : List UInt8) (hv : Lib.HoldsBytes w v l) (hl : l.length ≤ 140737488351232) :
    Calls Try.prog 10 #[v] w (OnP w (rdQ l)) := by
  obtain ⟨W0, hW0⟩ : ∃ W0, W0 = w.alloc (.cells #[.int .i64 0, .string ⟨#[]⟩, .string ⟨#[]⟩, .string ⟨#[]⟩, .int .i64 0, .int .i64 0, .int .u64 0, .string ⟨#[]⟩, .slice none 0 0, .int .i64 0, .int .i64 0, .int .i64 0, .int .i64 0, .int .u64 0, .int .i64 0, .slice none 0 0, .slice none 0 0] 31) := ⟨_, rfl⟩
  have b0 : Below w.heap.size w W0 := by rw [hW0]; exact bel1 _ _
  have hz0 : W0.heap.size = w.heap.size + 1 := by rw [hW0]; simp
  have r0 : Hid (W0.heap[w.heap.size]? = some (.cells #[.int .i64 0, .string ⟨#[]⟩, .string ⟨#[]⟩, .string ⟨#[]⟩, .int .i64 0, .int .i64 0, .int .u64 0, .string ⟨#[]⟩, .slice none 0 0, .int .i64 0, .int .i64 0, .int .i64 0, .int .i64 0, .int .u64 0, .int .i64 0, .slice none 0 0, .slice none 0 0] 31 (0, 0))) := by rw [hW0]; exact heap_alloc_new w _
  have HW0 : Hid (W0 = w.alloc (.cells #[.int .i64 0, .string ⟨#[]⟩, .string ⟨#[]⟩, .string ⟨#[]⟩, .int .i64 0, .int .i64 0, .int .u64 0, .string ⟨#[]⟩, .slice none 0 0, .int .i64 0, .int .i64 0, .int .i64 0, .int .i64 0, .int .u64 0, .int .i64 0, .slice none 0 0, .slice none 0 0] 31)) := hW0
  have HX : Hid (Below w.heap.size w W0 ∧ W0.heap.size = w.heap.size + 1) := ⟨b0, hz0⟩
  have OC : Hid (Calls Try.prog 27 #[v] W0 _) := ropen2_calls v l W0 (holds_below hv b0) hl (by omega)
  obtain ⟨k', x', rfl⟩ : ∃ a c, v = .slice a l.length c := by obtain ⟨p, cap, rfl, q1, q2⟩ := hv; exact ⟨_, _, rfl⟩
  unfold rdQ
  clear hv hW0 b0 hz0
  by_cases h0 : l.length ≤ 16384
  rotate_left
  · have d0 : decide ((l.length : Int) > 16384) = true := decide_eq_true (by omega)
    have d1 : decide ((16384 : Int) < (l.length : Int)) = true := decide_eq_true (by omega)
    rw [if_neg h0]
    clear h0 OC
    have hr := r0.out
    have A1 : Hid ((#[.int .i64 0, .string ⟨#[]⟩, .string ⟨#[]⟩, .string ⟨#[]⟩, .int .i64 0, .int .i64 0, .int .u64 0, .string ⟨#[]⟩, .slice none 0 0, .int .i64 0, .int .i64 0, .int .i64 0, .int .i64 0, .int .u64 0, .int .i64 0, .slice none 0 0, .slice none 0 0] : Array Value).all (·.oneCell') = true) := by show _ = _; simp [Value.oneCell']
    go_enter Try.func10, Try.ntmps10
    go_upto_region 1 with fail
    rw [← HW0.out]
    go_upto_region 2 with fail
    go_wp2_with (refine wpList_store_row rfl 31 _ _ rfl w.heap.size _ rfl rfl 31 _ hr infoR31 rfl A1.out ?_)
    refine bodyPost_ret (retQ (y := .int .i64 5) Try.results10 _ rfl ?_ ?_ (setRow_heap _ w.heap.size _ _ 31 (0, 0) hr)) ?_ ?_
    · rfl
    · rfl
    · rfl
    exact ⟨0, 0, 0, ⟨#[]⟩, none, 0, 0, none, 0, none, 0, rfl, zT_is _ _ 4, LsE.nil _ _ _ _ _ _, LsE.nil _ _ _ _ _ _, below_setRow HX.out.1 (Nat.le_refl _) _⟩
  have d0 : decide ((l.length : Int) > 16384) = false := decide_eq_false (by omega)
  have d1 : decide ((16384 : Int) < (l.length : Int)) = false := decide_eq_false (by omega)
  rw [if_pos h0]
  have hR : rdRq l 0 = rdRq l 0 := rfl
  conv at hR => rhs; unfold rdRq rdPo rdLs
  have g1 := sNum_len 255 l 0
  generalize hQ1 : sNum 255 l 0 = R1 at hR g1
  obtain ⟨rk, l1, e1⟩ := R1
  dsimp only at hR g1
  have K1 : Hid (∀ W g h, RT W g h l 0 → Calls Try.prog 28 #[.pointer (some ⟨g, 0, none⟩), .int .i64 255] W (Rr W g h (.int .i64 rk) l1 e1)) := fun W g h s => by have := rnum_rt W g h l 0 255 s; rwa [hQ1] at this
  have g2 := sText_len 200 l1 e1
  generalize hQ2 : sText 200 l1 e1 = R2 at hR g2
  obtain ⟨b1, l2, e2⟩ := R2
  dsimp only at hR g2
  have KK2 := fun W g h (s : RT W g h l1 e1) => rtext_rt W g h l1 e1 200 s
  rw [hQ2] at KK2
  dsimp only at KK2
  generalize str b1 = tf at hR KK2
  have K2 : Hid (∀ W g h, RT W g h l1 e1 → Calls Try.prog 29 #[.pointer (some ⟨g, 0, none⟩), .int .i64 200] W (Rr W g h (.string tf) l2 e2)) := KK2
  clear KK2
  have g3 := sText_len 200 l2 e2
  generalize hQ3 : sText 200 l2 e2 = R3 at hR g3
  obtain ⟨b2, l3, e3⟩ := R3
  dsimp only at hR g3
  have KK3 := fun W g h (s : RT W g h l2 e2) => rtext_rt W g h l2 e2 200 s
  rw [hQ3] at KK3
  dsimp only at KK3
  generalize str b2 = tq at hR KK3
  have K3 : Hid (∀ W g h, RT W g h l2 e2 → Calls Try.prog 29 #[.pointer (some ⟨g, 0, none⟩), .int .i64 200] W (Rr W g h (.string tq) l3 e3)) := KK3
  clear KK3
  have g4 := sText_len 200 l3 e3
  generalize hQ4 : sText 200 l3 e3 = R4 at hR g4
  obtain ⟨b3, l4, e4⟩ := R4
  dsimp only at hR g4
  have KK4 := fun W g h (s : RT W g h l3 e3) => rtext_rt W g h l3 e3 200 s
  rw [hQ4] at KK4
  dsimp only at KK4
  generalize str b3 = tn at hR KK4
  have K4 : Hid (∀ W g h, RT W g h l3 e3 → Calls Try.prog 29 #[.pointer (some ⟨g, 0, none⟩), .int .i64 200] W (Rr W g h (.string tn) l4 e4)) := KK4
  clear KK4
  have g5 := rdR_len l4 e4
  generalize hQ5 : rdR l4 e4 = R5 at hR g5
  obtain ⟨tv, l5, e5⟩ := R5
  dsimp only at hR g5
  have K5 : Hid (∀ W g h, RT W g h l4 e4 → h < W.heap.size → Calls Try.prog 30 #[.pointer (some ⟨g, 0, none⟩)] W (RdX W g h 5 (tv, l5, e5))) := fun W g h s hh => by have := rreadv_calls W g h l4 e4 s hh (by omega); rwa [hQ5] at this
  have g6 := sNum_len 4611686018427387904 l5 e5
  generalize hQ6 : sNum 4611686018427387904 l5 e5 = R6 at hR g6
  obtain ⟨ru, l6, e6⟩ := R6
  dsimp only at hR g6
  have K6 : Hid (∀ W g h, RT W g h l5 e5 → Calls Try.prog 28 #[.pointer (some ⟨g, 0, none⟩), .int .i64 4611686018427387904] W (Rr W g h (.int .i64 ru) l6 e6)) := fun W g h s => by have := rnum_rt W g h l5 e5 4611686018427387904 s; rwa [hQ6] at this
  have g7 := sNum_len 4611686018427387904 l6 e6
  generalize hQ7 : sNum 4611686018427387904 l6 e6 = R7 at hR g7
  obtain ⟨nu, l7, e7⟩ := R7
  dsimp only at hR g7
  have K7 : Hid (∀ W g h, RT W g h l6 e6 → Calls Try.prog 28 #[.pointer (some ⟨g, 0, none⟩), .int .i64 4611686018427387904] W (Rr W g h (.int .i64 nu) l7 e7)) := fun W g h s => by have := rnum_rt W g h l6 e6 4611686018427387904 s; rwa [hQ7] at this
  have g8 := sNum_len 4611686018427387904 l7 e7
  generalize hQ8 : sNum 4611686018427387904 l7 e7 = R8 at hR g8
  obtain ⟨wa, l8, e8⟩ := R8
  dsimp only at hR g8
  have K8 : Hid (∀ W g h, RT W g h l7 e7 → Calls Try.prog 28 #[.pointer (some ⟨g, 0, none⟩), .int .i64 4611686018427387904] W (Rr W g h (.int .i64 wa) l8 e8)) := fun W g h s => by have := rnum_rt W g h l7 e7 4611686018427387904 s; rwa [hQ8] at this
  have g9 := sNum_len 4611686018427387904 l8 e8
  generalize hQ9 : sNum 4611686018427387904 l8 e8 = R9 at hR g9
  obtain ⟨pf, l9, e9⟩ := R9
  dsimp only at hR g9
  have K9 : Hid (∀ W g h, RT W g h l8 e8 → Calls Try.prog 28 #[.pointer (some ⟨g, 0, none⟩), .int .i64 4611686018427387904] W (Rr W g h (.int .i64 pf) l9 e9)) := fun W g h s => by have := rnum_rt W g h l8 e8 4611686018427387904 s; rwa [hQ9] at this
  have g10 := sBits_len l9 e9
  generalize hQ10 : sBits l9 e9 = R10 at hR g10
  obtain ⟨pc, l10, e10⟩ := R10
  dsimp only at hR g10
  have K10 : Hid (∀ W g h, RT W g h l9 e9 → Calls Try.prog 31 #[.pointer (some ⟨g, 0, none⟩)] W (Rr W g h (.int .u64 (pc : Int)) l10 e10)) := fun W g h s => by have := rbits_rt W g h l9 e9 s; rwa [hQ10] at this
  have g11 := sNum_len 4611686018427387904 l10 e10
  generalize hQ11 : sNum 4611686018427387904 l10 e10 = R11 at hR g11
  obtain ⟨pm, l11, e11⟩ := R11
  dsimp only at hR g11
  have K11 : Hid (∀ W g h, RT W g h l10 e10 → Calls Try.prog 28 #[.pointer (some ⟨g, 0, none⟩), .int .i64 4611686018427387904] W (Rr W g h (.int .i64 pm) l11 e11)) := fun W g h s => by have := rnum_rt W g h l10 e10 4611686018427387904 s; rwa [hQ11] at this
  have n12 := sNum_nat 12 l11 e11
  have m12 : (sNum 12 l11 e11).1 ≤ 12 := by
    unfold sNum
    split
    · split
      · split
        · simp
        · simp; omega
      · simp
    · simp
  have z12 := sNum_zero 12 l11 e11
  have y12 : e11 ≠ 0 → (sNum 12 l11 e11).2.2 ≠ 0 := fun h => by rw [sNum_err h]; exact h
  have g12 := sNum_len 12 l11 e11
  generalize hQ12 : sNum 12 l11 e11 = R12 at hR g12 n12 m12 z12 y12
  obtain ⟨kc, l12, e12⟩ := R12
  dsimp only at hR g12 n12 m12 z12 y12
  have K12 : Hid (∀ W g h, RT W g h l11 e11 → Calls Try.prog 28 #[.pointer (some ⟨g, 0, none⟩), .int .i64 12] W (Rr W g h (.int .i64 kc) l12 e12)) := fun W g h s => by have := rnum_rt W g h l11 e11 12 s; rwa [hQ12] at this
  clear hQ12
  obtain ⟨N, rfl⟩ := Int.eq_ofNat_of_zero_le n12
  rw [Int.toNat_natCast] at hR
  have HM12 : Hid (N ≤ 12) := by show _ ≤ _; omega
  have HZ12 : Hid (e12 ≠ 0 → N = 0) := fun h => by have := z12 h; omega
  have HY12 : Hid (e11 ≠ 0 → e12 ≠ 0) := y12
  have g13 := rdXs_len rdCo_len N l12 e12
  generalize hQ13 : rdXs rdCo N l12 e12 = R13 at hR g13
  obtain ⟨cds, l13, e13⟩ := R13
  dsimp only at hR g13
  have HQ13 : Hid (rdXs rdCo N l12 e12 = (cds, l13, e13)) := hQ13
  have n14 := sNum_nat 8 l13 e13
  have m14 : (sNum 8 l13 e13).1 ≤ 8 := by
    unfold sNum
    split
    · split
      · split
        · simp
        · simp; omega
      · simp
    · simp
  have z14 := sNum_zero 8 l13 e13
  have y14 : e13 ≠ 0 → (sNum 8 l13 e13).2.2 ≠ 0 := fun h => by rw [sNum_err h]; exact h
  have g14 := sNum_len 8 l13 e13
  generalize hQ14 : sNum 8 l13 e13 = R14 at hR g14 n14 m14 z14 y14
  obtain ⟨ka, l14, e14⟩ := R14
  dsimp only at hR g14 n14 m14 z14 y14
  have K14 : Hid (∀ W g h, RT W g h l13 e13 → Calls Try.prog 28 #[.pointer (some ⟨g, 0, none⟩), .int .i64 8] W (Rr W g h (.int .i64 ka) l14 e14)) := fun W g h s => by have := rnum_rt W g h l13 e13 8 s; rwa [hQ14] at this
  clear hQ14
  obtain ⟨N2, rfl⟩ := Int.eq_ofNat_of_zero_le n14
  rw [Int.toNat_natCast] at hR
  have HM14 : Hid (N2 ≤ 8) := by show _ ≤ _; omega
  have HZ14 : Hid (e14 ≠ 0 → N2 = 0) := fun h => by have := z14 h; omega
  have HY14 : Hid (e13 ≠ 0 → e14 ≠ 0) := y14
  generalize hQ15 : rdXs rdAn N2 l14 e14 = R15 at hR
  obtain ⟨ads, l15, e15⟩ := R15
  dsimp only at hR
  have HQ15 : Hid (rdXs rdAn N2 l14 e14 = (ads, l15, e15)) := hQ15
  have HE15 : Hid (e15 = 0 → e13 = 0) := fun h => Classical.byContradiction fun h3 => by
    have h4 := HY14.out h3
    have h5 := HZ14.out h4
    rw [h5] at hQ15
    have h6 := congrArg (fun z => z.2.2) hQ15
    exact h4 (h6.trans h)
  have HL12 : Hid (l12.length ≤ 140737488351232) := by show _ ≤ _; omega
  have HL14 : Hid (l14.length ≤ 140737488351232) := by show _ ≤ _; omega
  have hdef : psQ l = if en (rdRq l 0).2.1 (rdRq l 0).2.2 = 0 then ((rdRq l 0).1, 0) else (zRq, en (rdRq l 0).2.1 (rdRq l 0).2.2) := rfl
  rw [hdef, hR]
  dsimp only
  obtain ⟨EE, hE⟩ : ∃ E, E = en l15 e15 := ⟨_, rfl⟩
  rw [← hE]
  have HE : Hid (EE = en l15 e15) := hE
  obtain ⟨RR, hRR⟩ : ∃ RR, RR = if EE = 0 then ((⟨rk, tf, tq, tn, tv, ru, nu, wa, pf, pc, pm, cds, ads⟩ : Rq), (0 : Int)) else (zRq, EE) := ⟨_, rfl⟩
  rw [← hRR]
  have HRR : Hid (RR = if EE = 0 then ((⟨rk, tf, tq, tn, tv, ru, nu, wa, pf, pc, pm, cds, ads⟩ : Rq), (0 : Int)) else (zRq, EE)) := hRR
  clear hR hdef hE hRR h0 hl hQ1 hQ2 hQ3 hQ4 hQ5 hQ6 hQ7 hQ8 hQ9 hQ10 hQ11 hQ13 hQ15 g1 g2 g3 g4 g5 g6 g7 g8 g9 g10 g11 g12 g13 g14 n12 m12 z12 y12 n14 m14 z14 y14
  go_enter Try.func10, Try.ntmps10
  go_upto_region 1 with fail
  rw [← HW0.out]
  go_wp2_with fail
  refine OC.out.mono ?_
  rintro x w1 ⟨g, h, rfl, hg0, hh0, hh1, s1, b1⟩
  have HB1 : Hid (Below W0.heap.size W0 w1) := b1
  have HG : Hid (W0.heap.size ≤ g ∧ h < w1.heap.size ∧ g < w1.heap.size) := ⟨hg0, hh1, s1.lt⟩
  have KC := K1.out w1 g h s1
  clear hg0 hh0 hh1 s1 b1 OC K1
  go_wp2_with fail
  refine KC.mono ?_
  rintro x wb ⟨rfl, sb, kb⟩
  clear KC
  have HKB : Hid (KB g w1 wb) := kb
  have HWB : Hid (w1.heap.size ≤ wb.heap.size) := kb.2.2.2.1
  obtain ⟨X1, hX1⟩ : ∃ X1, X1 = wb.alloc (.cells #[.int .i64 rk, .string ⟨#[]⟩, .string ⟨#[]⟩, .string ⟨#[]⟩, .int .i64 0, .int .i64 0, .int .u64 0, .string ⟨#[]⟩, .slice none 0 0, .int .i64 0, .int .i64 0, .int .i64 0, .int .i64 0, .int .u64 0, .int .i64 0, .slice none 0 0, .slice none 0 0] 31) := ⟨_, rfl⟩
  obtain ⟨q, hq⟩ : ∃ q, q = wb.heap.size := ⟨_, rfl⟩
  have HXW : Hid (X1 = wb.alloc (.cells #[.int .i64 rk, .string ⟨#[]⟩, .string ⟨#[]⟩, .string ⟨#[]⟩, .int .i64 0, .int .i64 0, .int .u64 0, .string ⟨#[]⟩, .slice none 0 0, .int .i64 0, .int .i64 0, .int .i64 0, .int .i64 0, .int .u64 0, .int .i64 0, .slice none 0 0, .slice none 0 0] 31)) := hX1
  have HQ : Hid (q = wb.heap.size) := hq
  have M1 : Hid (Xb 31 wb X1 g h q l1 e1 #[.int .i64 rk, .string ⟨#[]⟩, .string ⟨#[]⟩, .string ⟨#[]⟩, .int .i64 0, .int .i64 0, .int .u64 0, .string ⟨#[]⟩, .slice none 0 0, .int .i64 0, .int .i64 0, .int .i64 0, .int .i64 0, .int .u64 0, .int .i64 0, .slice none 0 0, .slice none 0 0]) := by rw [hX1, hq]; exact Xb.first _ sb (by have := HG.out; have := HWB.out; omega)
  have GQ : Hid (g < q ∧ h < q ∧ w.heap.size < g) := by have := HG.out; have := HWB.out; have := HX.out.2; exact ⟨by omega, by omega, by omega⟩
  clear kb sb hX1 hq
  go_upto_region 5 with fail
  rw [← HXW.out, ← HQ.out]
  go_wp2_with fail
  refine (K2.out _ _ _ M1.out.st).mono ?_
  rintro x v2 ⟨rfl, s, k⟩
  have Ma := M1.out.step s k
  have a1 := Ma.cell 1 (v := .string ⟨#[]⟩) rfl
  have f1 := Ma.free 1
  obtain ⟨X2, hX⟩ : ∃ X, X = (v2).setCell ⟨q, 1, none⟩ (.string tf) := ⟨_, rfl⟩
  have HX2 : Hid (X2 = (v2).setCell ⟨q, 1, none⟩ (.string tf)) := hX
  have M2 : Hid (Xb 31 wb X2 g h q l2 e2 #[.int .i64 rk, .string tf, .string ⟨#[]⟩, .string ⟨#[]⟩, .int .i64 0, .int .i64 0, .int .u64 0, .string ⟨#[]⟩, .slice none 0 0, .int .i64 0, .int .i64 0, .int .i64 0, .int .i64 0, .int .u64 0, .int .i64 0, .slice none 0 0, .slice none 0 0]) := by rw [hX]; exact (Ma).put 1 (.string tf)
  have KQ2 : Hid (KQ g q X1 X2) := by rw [hX]; exact (KQ.kb k).trans (KQ.put g q 1 _ (.string tf))
  clear hX Ma s k
  go_upto_region 6 with fail
  rw [← HX2.out]
  clear a1 f1
  go_wp2_with fail
  refine (K3.out _ _ _ M2.out.st).mono ?_
  rintro x v3 ⟨rfl, s, k⟩
  have Ma := M2.out.step s k
  have a2 := Ma.cell 2 (v := .string ⟨#[]⟩) rfl
  have f2 := Ma.free 2
  obtain ⟨X3, hX⟩ : ∃ X, X = (v3).setCell ⟨q, 2, none⟩ (.string tq) := ⟨_, rfl⟩
  have HX3 : Hid (X3 = (v3).setCell ⟨q, 2, none⟩ (.string tq)) := hX
  have M3 : Hid (Xb 31 wb X3 g h q l3 e3 #[.int .i64 rk, .string tf, .string tq, .string ⟨#[]⟩, .int .i64 0, .int .i64 0, .int .u64 0, .string ⟨#[]⟩, .slice none 0 0, .int .i64 0, .int .i64 0, .int .i64 0, .int .i64 0, .int .u64 0, .int .i64 0, .slice none 0 0, .slice none 0 0]) := by rw [hX]; exact (Ma).put 2 (.string tq)
  have KQ3 : Hid (KQ g q X2 X3) := by rw [hX]; exact (KQ.kb k).trans (KQ.put g q 2 _ (.string tq))
  clear hX Ma s k
  go_upto_region 7 with fail
  rw [← HX3.out]
  clear a2 f2
  go_wp2_with fail
  refine (K4.out _ _ _ M3.out.st).mono ?_
  rintro x v4 ⟨rfl, s, k⟩
  have Ma := M3.out.step s k
  have a3 := Ma.cell 3 (v := .string ⟨#[]⟩) rfl
  have f3 := Ma.free 3
  obtain ⟨X4, hX⟩ : ∃ X, X = (v4).setCell ⟨q, 3, none⟩ (.string tn) := ⟨_, rfl⟩
  have HX4 : Hid (X4 = (v4).setCell ⟨q, 3, none⟩ (.string tn)) := hX
  have M4 : Hid (Xb 31 wb X4 g h q l4 e4 #[.int .i64 rk, .string tf, .string tq, .string tn, .int .i64 0, .int .i64 0, .int .u64 0, .string ⟨#[]⟩, .slice none 0 0, .int .i64 0, .int .i64 0, .int .i64 0, .int .i64 0, .int .u64 0, .int .i64 0, .slice none 0 0, .slice none 0 0]) := by rw [hX]; exact (Ma).put 3 (.string tn)
  have KQ4 : Hid (KQ g q X3 X4) := by rw [hX]; exact (KQ.kb k).trans (KQ.put g q 3 _ (.string tn))
  clear hX Ma s k
  go_upto_region 8 with fail
  rw [← HX4.out]
  clear a3 f3
  go_wp2_with fail
  refine (K5.out _ _ _ M4.out.st (by have := M4.out.hw; have := M4.out.lt; have := M4.out.q0; omega)).mono ?_
  rintro x v5 ⟨vv, rfl, hi, s, k⟩
  dsimp only at hi s
  obtain ⟨vk, vx, vb, vs, va, vm, vc, rfl⟩ := hi.shape
  have Ma := M4.out.step s k
  have a4 := Ma.cell 4 (v := .int .i64 0) rfl
  have f4 := Ma.free 4
  have a5 := Ma.cell 5 (v := .int .i64 0) rfl
  have f5 := Ma.free 5
  have a6 := Ma.cell 6 (v := .int .u64 0) rfl
  have f6 := Ma.free 6
  have a7 := Ma.cell 7 (v := .string ⟨#[]⟩) rfl
  have f7 := Ma.free 7
  have a8 := Ma.cell 8 (v := .slice none 0 0) rfl
  have f8 := Ma.free 8
  obtain ⟨X5, hX⟩ : ∃ X, X = (((((v5).setCell ⟨q, 4, none⟩ (.int .i64 vk)).setCell ⟨q, 5, none⟩ (.int .i64 vx)).setCell ⟨q, 6, none⟩ (.int .u64 vb)).setCell ⟨q, 7, none⟩ (.string vs)).setCell ⟨q, 8, none⟩ (.slice va vm vc) := ⟨_, rfl⟩
  have HX5 : Hid (X5 = (((((v5).setCell ⟨q, 4, none⟩ (.int .i64 vk)).setCell ⟨q, 5, none⟩ (.int .i64 vx)).setCell ⟨q, 6, none⟩ (.int .u64 vb)).setCell ⟨q, 7, none⟩ (.string vs)).setCell ⟨q, 8, none⟩ (.slice va vm vc)) := hX
  have M5 : Hid (Xb 31 wb X5 g h q l5 e5 #[.int .i64 rk, .string tf, .string tq, .string tn, .int .i64 vk, .int .i64 vx, .int .u64 vb, .string vs, .slice va vm vc, .int .i64 0, .int .i64 0, .int .i64 0, .int .i64 0, .int .u64 0, .int .i64 0, .slice none 0 0, .slice none 0 0]) := by rw [hX]; exact (((((Ma).put 4 (.int .i64 vk)).put 5 (.int .i64 vx)).put 6 (.int .u64 vb)).put 7 (.string vs)).put 8 (.slice va vm vc)
  have KQ5 : Hid (KQ g q X4 X5) := by rw [hX]; exact (((((KQ.kb k).trans (KQ.put g q 4 _ (.int .i64 vk))).trans (KQ.put g q 5 _ (.int .i64 vx))).trans (KQ.put g q 6 _ (.int .u64 vb))).trans (KQ.put g q 7 _ (.string vs))).trans (KQ.put g q 8 _ (.slice va vm vc))
  have IV : Hid (IsN (q + 1) X5 5 (.agg #[.int .i64 vk, .int .i64 vx, .int .u64 vb, .string vs, .slice va vm vc]) tv) := by
    rw [hX]
    have hz := M4.out.lt
    refine (hi.lower (by omega)).kept (fun B h1 h2 => ?_)
    exact (Below.heap_setCell _ _ _ _ (show B ≠ q by omega)) |>.trans (Below.heap_setCell _ _ _ _ (show B ≠ q by omega)) |>.trans (Below.heap_setCell _ _ _ _ (show B ≠ q by omega)) |>.trans (Below.heap_setCell _ _ _ _ (show B ≠ q by omega)) |>.trans (Below.heap_setCell _ _ _ _ (show B ≠ q by omega))
  clear hX Ma s k hi
  go_upto_region 9 with fail
  rw [← HX5.out]
  clear a4 f4 a5 f5 a6 f6 a7 f7 a8 f8
  go_wp2_with fail
  refine (K6.out _ _ _ M5.out.st).mono ?_
  rintro x v6 ⟨rfl, s, k⟩
  have Ma := M5.out.step s k
  have a9 := Ma.cell 9 (v := .int .i64 0) rfl
  have f9 := Ma.free 9
  obtain ⟨X6, hX⟩ : ∃ X, X = (v6).setCell ⟨q, 9, none⟩ (.int .i64 ru) := ⟨_, rfl⟩
  have HX6 : Hid (X6 = (v6).setCell ⟨q, 9, none⟩ (.int .i64 ru)) := hX
  have M6 : Hid (Xb 31 wb X6 g h q l6 e6 #[.int .i64 rk, .string tf, .string tq, .string tn, .int .i64 vk, .int .i64 vx, .int .u64 vb, .string vs, .slice va vm vc, .int .i64 ru, .int .i64 0, .int .i64 0, .int .i64 0, .int .u64 0, .int .i64 0, .slice none 0 0, .slice none 0 0]) := by rw [hX]; exact (Ma).put 9 (.int .i64 ru)
  have KQ6 : Hid (KQ g q X5 X6) := by rw [hX]; exact (KQ.kb k).trans (KQ.put g q 9 _ (.int .i64 ru))
  have IVn : Hid (IsN (q + 1) X6 5 (.agg #[.int .i64 vk, .int .i64 vx, .int .u64 vb, .string vs, .slice va vm vc]) tv) := IV.out.kq KQ6.out (by have := M5.out.gw; have := M5.out.q0; omega) (by omega)
  clear IV
  have IV := IVn
  clear IVn
  clear hX Ma s k
  go_upto_region 10 with fail
  rw [← HX6.out]
  clear a9 f9
  go_wp2_with fail
  refine (K7.out _ _ _ M6.out.st).mono ?_
  rintro x v7 ⟨rfl, s, k⟩
  have Ma := M6.out.step s k
  have a10 := Ma.cell 10 (v := .int .i64 0) rfl
  have f10 := Ma.free 10
  obtain ⟨X7, hX⟩ : ∃ X, X = (v7).setCell ⟨q, 10, none⟩ (.int .i64 nu) := ⟨_, rfl⟩
  have HX7 : Hid (X7 = (v7).setCell ⟨q, 10, none⟩ (.int .i64 nu)) := hX
  have M7 : Hid (Xb 31 wb X7 g h q l7 e7 #[.int .i64 rk, .string tf, .string tq, .string tn, .int .i64 vk, .int .i64 vx, .int .u64 vb, .string vs, .slice va vm vc, .int .i64 ru, .int .i64 nu, .int .i64 0, .int .i64 0, .int .u64 0, .int .i64 0, .slice none 0 0, .slice none 0 0]) := by rw [hX]; exact (Ma).put 10 (.int .i64 nu)
  have KQ7 : Hid (KQ g q X6 X7) := by rw [hX]; exact (KQ.kb k).trans (KQ.put g q 10 _ (.int .i64 nu))
  have IVn : Hid (IsN (q + 1) X7 5 (.agg #[.int .i64 vk, .int .i64 vx, .int .u64 vb, .string vs, .slice va vm vc]) tv) := IV.out.kq KQ7.out (by have := M6.out.gw; have := M6.out.q0; omega) (by omega)
  clear IV
  have IV := IVn
  clear IVn
  clear hX Ma s k
  go_upto_region 11 with fail
  rw [← HX7.out]
  clear a10 f10
  go_wp2_with fail
  refine (K8.out _ _ _ M7.out.st).mono ?_
  rintro x v8 ⟨rfl, s, k⟩
  have Ma := M7.out.step s k
  have a11 := Ma.cell 11 (v := .int .i64 0) rfl
  have f11 := Ma.free 11
  obtain ⟨X8, hX⟩ : ∃ X, X = (v8).setCell ⟨q, 11, none⟩ (.int .i64 wa) := ⟨_, rfl⟩
  have HX8 : Hid (X8 = (v8).setCell ⟨q, 11, none⟩ (.int .i64 wa)) := hX
  have M8 : Hid (Xb 31 wb X8 g h q l8 e8 #[.int .i64 rk, .string tf, .string tq, .string tn, .int .i64 vk, .int .i64 vx, .int .u64 vb, .string vs, .slice va vm vc, .int .i64 ru, .int .i64 nu, .int .i64 wa, .int .i64 0, .int .u64 0, .int .i64 0, .slice none 0 0, .slice none 0 0]) := by rw [hX]; exact (Ma).put 11 (.int .i64 wa)
  have KQ8 : Hid (KQ g q X7 X8) := by rw [hX]; exact (KQ.kb k).trans (KQ.put g q 11 _ (.int .i64 wa))
  have IVn : Hid (IsN (q + 1) X8 5 (.agg #[.int .i64 vk, .int .i64 vx, .int .u64 vb, .string vs, .slice va vm vc]) tv) := IV.out.kq KQ8.out (by have := M7.out.gw; have := M7.out.q0; omega) (by omega)
  clear IV
  have IV := IVn
  clear IVn
  clear hX Ma s k
  go_upto_region 12 with fail
  rw [← HX8.out]
  clear a11 f11
  go_wp2_with fail
  refine (K9.out _ _ _ M8.out.st).mono ?_
  rintro x v9 ⟨rfl, s, k⟩
  have Ma := M8.out.step s k
  have a12 := Ma.cell 12 (v := .int .i64 0) rfl
  have f12 := Ma.free 12
  obtain ⟨X9, hX⟩ : ∃ X, X = (v9).setCell ⟨q, 12, none⟩ (.int .i64 pf) := ⟨_, rfl⟩
  have HX9 : Hid (X9 = (v9).setCell ⟨q, 12, none⟩ (.int .i64 pf)) := hX
  have M9 : Hid (Xb 31 wb X9 g h q l9 e9 #[.int .i64 rk, .string tf, .string tq, .string tn, .int .i64 vk, .int .i64 vx, .int .u64 vb, .string vs, .slice va vm vc, .int .i64 ru, .int .i64 nu, .int .i64 wa, .int .i64 pf, .int .u64 0, .int .i64 0, .slice none 0 0, .slice none 0 0]) := by rw [hX]; exact (Ma).put 12 (.int .i64 pf)
  have KQ9 : Hid (KQ g q X8 X9) := by rw [hX]; exact (KQ.kb k).trans (KQ.put g q 12 _ (.int .i64 pf))
  have IVn : Hid (IsN (q + 1) X9 5 (.agg #[.int .i64 vk, .int .i64 vx, .int .u64 vb, .string vs, .slice va vm vc]) tv) := IV.out.kq KQ9.out (by have := M8.out.gw; have := M8.out.q0; omega) (by omega)
  clear IV
  have IV := IVn
  clear IVn
  clear hX Ma s k
  go_upto_region 13 with fail
  rw [← HX9.out]
  clear a12 f12
  go_wp2_with fail
  refine (K10.out _ _ _ M9.out.st).mono ?_
  rintro x v10 ⟨rfl, s, k⟩
  have Ma := M9.out.step s k
  have a13 := Ma.cell 13 (v := .int .u64 0) rfl
  have f13 := Ma.free 13
  obtain ⟨X10, hX⟩ : ∃ X, X = (v10).setCell ⟨q, 13, none⟩ (.int .u64 (pc : Int)) := ⟨_, rfl⟩
  have HX10 : Hid (X10 = (v10).setCell ⟨q, 13, none⟩ (.int .u64 (pc : Int))) := hX
  have M10 : Hid (Xb 31 wb X10 g h q l10 e10 #[.int .i64 rk, .string tf, .string tq, .string tn, .int .i64 vk, .int .i64 vx, .int .u64 vb, .string vs, .slice va vm vc, .int .i64 ru, .int .i64 nu, .int .i64 wa, .int .i64 pf, .int .u64 (pc : Int), .int .i64 0, .slice none 0 0, .slice none 0 0]) := by rw [hX]; exact (Ma).put 13 (.int .u64 (pc : Int))
  have KQ10 : Hid (KQ g q X9 X10) := by rw [hX]; exact (KQ.kb k).trans (KQ.put g q 13 _ (.int .u64 (pc : Int)))
  have IVn : Hid (IsN (q + 1) X10 5 (.agg #[.int .i64 vk, .int .i64 vx, .int .u64 vb, .string vs, .slice va vm vc]) tv) := IV.out.kq KQ10.out (by have := M9.out.gw; have := M9.out.q0; omega) (by omega)
  clear IV
  have IV := IVn
  clear IVn
  clear hX Ma s k
  go_upto_region 14 with fail
  rw [← HX10.out]
  clear a13 f13
  go_wp2_with fail
  refine (K11.out _ _ _ M10.out.st).mono ?_
  rintro x v11 ⟨rfl, s, k⟩
  have Ma := M10.out.step s k
  have a14 := Ma.cell 14 (v := .int .i64 0) rfl
  have f14 := Ma.free 14
  obtain ⟨X11, hX⟩ : ∃ X, X = (v11).setCell ⟨q, 14, none⟩ (.int .i64 pm) := ⟨_, rfl⟩
  have HX11 : Hid (X11 = (v11).setCell ⟨q, 14, none⟩ (.int .i64 pm)) := hX
  have M11 : Hid (Xb 31 wb X11 g h q l11 e11 #[.int .i64 rk, .string tf, .string tq, .string tn, .int .i64 vk, .int .i64 vx, .int .u64 vb, .string vs, .slice va vm vc, .int .i64 ru, .int .i64 nu, .int .i64 wa, .int .i64 pf, .int .u64 (pc : Int), .int .i64 pm, .slice none 0 0, .slice none 0 0]) := by rw [hX]; exact (Ma).put 14 (.int .i64 pm)
  have KQ11 : Hid (KQ g q X10 X11) := by rw [hX]; exact (KQ.kb k).trans (KQ.put g q 14 _ (.int .i64 pm))
  have IVn : Hid (IsN (q + 1) X11 5 (.agg #[.int .i64 vk, .int .i64 vx, .int .u64 vb, .string vs, .slice va vm vc]) tv) := IV.out.kq KQ11.out (by have := M10.out.gw; have := M10.out.q0; omega) (by omega)
  clear IV
  have IV := IVn
  clear IVn
  clear hX Ma s k
  go_upto_region 15 with fail
  rw [← HX11.out]
  clear a14 f14
  go_wp2_with fail
  refine (K12.out _ _ _ M11.out.st).mono ?_
  rintro x Y12 ⟨rfl, s, k⟩
  have M12 : Hid (Xb 31 wb Y12 g h q l12 e12 #[.int .i64 rk, .string tf, .string tq, .string tn, .int .i64 vk, .int .i64 vx, .int .u64 vb, .string vs, .slice va vm vc, .int .i64 ru, .int .i64 nu, .int .i64 wa, .int .i64 pf, .int .u64 (pc : Int), .int .i64 pm, .slice none 0 0, .slice none 0 0]) := M11.out.step s k
  have KQ12 : Hid (KQ g q X11 Y12) := KQ.kb k
  have IVn : Hid (IsN (q + 1) Y12 5 (.agg #[.int .i64 vk, .int .i64 vx, .int .u64 vb, .string vs, .slice va vm vc]) tv) := IV.out.kq KQ12.out (by have := GQ.out; omega) (by omega)
  clear IV
  have IV := IVn
  clear IVn
  clear s k
  go_wp2_with fail
  go_loopw [7] (fun i wr => ∃ (j un : Nat) (acc : List (Int × ByteArray × Tv × Int)) (lj : List UInt8) (ej : Int) (ua : Option Addr) (uc : Nat), j ≤ N ∧ i = .int .i64 (j : Int) ∧ Hid (un = acc.length ∧ acc.length = j) ∧ Hid (GrE Y12.heap.size 5 71 8 ElC wr (.slice ua un uc) acc) ∧ Hid (Xb 31 wb wr g h q lj ej #[.int .i64 rk, .string tf, .string tq, .string tn, .int .i64 vk, .int .i64 vx, .int .u64 vb, .string vs, .slice va vm vc, .int .i64 ru, .int .i64 nu, .int .i64 wa, .int .i64 pf, .int .u64 (pc : Int), .int .i64 pm, .slice ua un uc, .slice none 0 0]) ∧ Hid (KQ g q Y12 wr) ∧ Hid (lj.length ≤ 140737488351232) ∧ Hid (Jl rdCo N l12 e12 j acc lj ej)) (fun i _ => N - (intOf i).toNat)
  case atStart => exact ⟨0, 0, [], l12, e12, none, 0, Nat.zero_le _, rfl, ⟨rfl, rfl⟩, GrE.nil _ _ _ _ _ _, M12, KQ.refl _ _ _, HL12, Jl.first HZ12.out⟩
  case round =>
    obtain ⟨j, un, acc, lj, ej, ua, uc, hj, rfl, HA, HV, HXB, HKQ, HLJ, HJ⟩ := hrel
    go_upto_region 17 with fail
    go_cut [63] (fun x wx => x = .bool (decide (j < N ∧ ej = 0)) ∧ wx = wr)
    case first =>
      by_cases hlt : j < N
      · have hjl : (j : Int) < (N : Int) := by omega
        go_wp2_with fail
        refine (rerr_rt _ _ _ _ _ HXB.out.st).mono ?_
        rintro x w3 ⟨rfl, hw3⟩
        have hw3' := hw3.symm
        subst hw3'
        clear hw3
        by_cases he : ej = 0
        · have HD0 : Hid (decide (j < N ∧ ej = 0) = true) := decide_eq_true ⟨hlt, he⟩
          have de : (ej == 0) = true := by simpa using he
          clear he
          go_wp2_with fail
          go_meet
          exact ⟨by rw [HD0.out], rfl⟩
        · have HD0 : Hid (decide (j < N ∧ ej = 0) = false) := decide_eq_false (fun h => he h.2)
          have de : (ej == 0) = false := by simpa using he
          clear he
          go_wp2_with fail
          go_meet
          exact ⟨by rw [HD0.out], rfl⟩
      · have HD0 : Hid (decide (j < N ∧ ej = 0) = false) := decide_eq_false (fun h => hlt h.1)
        have hjl : ¬ ((j : Int) < (N : Int)) := by omega
        go_wp2_with fail
        go_meet
        exact ⟨by rw [HD0.out], rfl⟩
    case rest =>
    obtain ⟨rfl, hwc⟩ := hcut
    have hwc' := hwc.symm
    subst hwc'
    clear hwc
    by_cases hlt : j < N ∧ ej = 0
    · rw [decide_eq_true hlt]
      obtain ⟨hlt, hej⟩ := hlt
      subst hej
      have HS0 : Hid (Y12.heap.size ≤ wr.heap.size ∧ q < Y12.heap.size ∧ g < Y12.heap.size ∧ h < Y12.heap.size) := by have := M12.out.lt; have := GQ.out; exact ⟨HKQ.out.1, by omega, by omega, by omega⟩
      have hR : rdCo lj 0 = rdCo lj 0 := rfl
      conv at hR => rhs; unfold rdCo
      have hlj := HLJ.out
      have t1 := sNum_len 255 lj 0
      have JJ1 := fun W g h (s : RT W g h lj 0) => rnum_rt W g h lj 0 255 s
      generalize sNum 255 lj 0 = S1 at hR t1 JJ1
      obtain ⟨ck, ml1, me1⟩ := S1
      dsimp only at hR t1 JJ1
      have J1 : Hid (∀ W g h, RT W g h lj 0 → Calls Try.prog 28 #[.pointer (some ⟨g, 0, none⟩), .int .i64 255] W (Rr W g h (.int .i64 ck) ml1 me1)) := JJ1
      clear JJ1
      have t2 := sText_len 200 ml1 me1
      have JJ2 := fun W g h (s : RT W g h ml1 me1) => rtext_rt W g h ml1 me1 200 s
      generalize sText 200 ml1 me1 = S2 at hR t2 JJ2
      obtain ⟨bt, ml2, me2⟩ := S2
      dsimp only at hR t2 JJ2
      generalize str bt = cn at hR JJ2
      have J2 : Hid (∀ W g h, RT W g h ml1 me1 → Calls Try.prog 29 #[.pointer (some ⟨g, 0, none⟩), .int .i64 200] W (Rr W g h (.string cn) ml2 me2)) := JJ2
      clear JJ2
      have t3 := rdR_len ml2 me2
      have JJ3 := fun W g h (s : RT W g h ml2 me2) (hh : h < W.heap.size) => rreadv_calls W g h ml2 me2 s hh (by omega)
      generalize rdR ml2 me2 = S3 at hR t3 JJ3
      obtain ⟨dt, ml3, me3⟩ := S3
      dsimp only at hR t3 JJ3
      have J3 : Hid (∀ W g h, RT W g h ml2 me2 → h < W.heap.size → Calls Try.prog 30 #[.pointer (some ⟨g, 0, none⟩)] W (RdX W g h 5 (dt, ml3, me3))) := JJ3
      clear JJ3
      have t4 := sNum_len 4611686018427387904 ml3 me3
      have JJ4 := fun W g h (s : RT W g h ml3 me3) => rnum_rt W g h ml3 me3 4611686018427387904 s
      generalize sNum 4611686018427387904 ml3 me3 = S4 at hR t4 JJ4
      obtain ⟨dl, ml4, me4⟩ := S4
      dsimp only at hR t4 JJ4
      have J4 : Hid (∀ W g h, RT W g h ml3 me3 → Calls Try.prog 28 #[.pointer (some ⟨g, 0, none⟩), .int .i64 4611686018427387904] W (Rr W g h (.int .i64 dl) ml4 me4)) := JJ4
      clear JJ4
      have HD : Hid (rdCo lj 0 = _) := hR
      have HLN : Hid (ml4.length ≤ 140737488351232) := by show _ ≤ _; omega
      clear hR hlj t1 t2 t3 t4
      go_wp2_with fail
      refine (J1.out _ _ _ HXB.out.st).mono ?_
      rintro x wz ⟨rfl, sz, kz⟩
      obtain ⟨E1, hE1⟩ : ∃ E1, E1 = wz.alloc (.cells #[.int .i64 ck, .string ⟨#[]⟩, .int .i64 0, .int .i64 0, .int .u64 0, .string ⟨#[]⟩, .slice none 0 0, .int .i64 0] 71) := ⟨_, rfl⟩
      obtain ⟨p, hp⟩ : ∃ p, p = wz.heap.size := ⟨_, rfl⟩
      have HE1 : Hid (E1 = wz.alloc (.cells #[.int .i64 ck, .string ⟨#[]⟩, .int .i64 0, .int .i64 0, .int .u64 0, .string ⟨#[]⟩, .slice none 0 0, .int .i64 0] 71)) := hE1
      have HP : Hid (p = wz.heap.size) := hp
      have HKZ : Hid (KB g wr wz) := kz
      have HSZ : Hid (wr.heap.size ≤ wz.heap.size) := kz.2.2.2.1
      have ME1 : Hid (Xb 71 wz E1 g h p ml1 me1 #[.int .i64 ck, .string ⟨#[]⟩, .int .i64 0, .int .i64 0, .int .u64 0, .string ⟨#[]⟩, .slice none 0 0, .int .i64 0]) := by rw [hE1, hp]; exact Xb.first _ sz (by have := HS0.out; have := HSZ.out; omega)
      clear sz kz hE1 hp
      go_upto_region 20 with fail
      rw [← HE1.out, ← HP.out]
      go_wp2_with fail
      refine (J2.out _ _ _ ME1.out.st).mono ?_
      rintro x vE2 ⟨rfl, s, k⟩
      have Ma := ME1.out.step s k
      have a1 := Ma.cell 1 (v := .string ⟨#[]⟩) rfl
      have f1 := Ma.free 1
      obtain ⟨XE2, hX⟩ : ∃ X, X = (vE2).setCell ⟨p, 1, none⟩ (.string cn) := ⟨_, rfl⟩
      have HXE2 : Hid (XE2 = (vE2).setCell ⟨p, 1, none⟩ (.string cn)) := hX
      have ME2 : Hid (Xb 71 wz XE2 g h p ml2 me2 #[.int .i64 ck, .string cn, .int .i64 0, .int .i64 0, .int .u64 0, .string ⟨#[]⟩, .slice none 0 0, .int .i64 0]) := by rw [hX]; exact (Ma).put 1 (.string cn)
      have KQE2 : Hid (KQ g p E1 XE2) := by rw [hX]; exact (KQ.kb k).trans (KQ.put g p 1 _ (.string cn))
      clear hX Ma s k
      go_upto_region 21 with fail
      rw [← HXE2.out]
      clear a1 f1
      go_wp2_with fail
      refine (J3.out _ _ _ ME2.out.st (by have := ME2.out.hw; have := ME2.out.lt; have := ME2.out.q0; omega)).mono ?_
      rintro x vE3 ⟨vv, rfl, hi, s, k⟩
      dsimp only at hi s
      obtain ⟨ek, ex, eb, es, ea, em, ec, rfl⟩ := hi.shape
      have Ma := ME2.out.step s k
      have a2 := Ma.cell 2 (v := .int .i64 0) rfl
      have f2 := Ma.free 2
      have a3 := Ma.cell 3 (v := .int .i64 0) rfl
      have f3 := Ma.free 3
      have a4 := Ma.cell 4 (v := .int .u64 0) rfl
      have f4 := Ma.free 4
      have a5 := Ma.cell 5 (v := .string ⟨#[]⟩) rfl
      have f5 := Ma.free 5
      have a6 := Ma.cell 6 (v := .slice none 0 0) rfl
      have f6 := Ma.free 6
      obtain ⟨XE3, hX⟩ : ∃ X, X = (((((vE3).setCell ⟨p, 2, none⟩ (.int .i64 ek)).setCell ⟨p, 3, none⟩ (.int .i64 ex)).setCell ⟨p, 4, none⟩ (.int .u64 eb)).setCell ⟨p, 5, none⟩ (.string es)).setCell ⟨p, 6, none⟩ (.slice ea em ec) := ⟨_, rfl⟩
      have HXE3 : Hid (XE3 = (((((vE3).setCell ⟨p, 2, none⟩ (.int .i64 ek)).setCell ⟨p, 3, none⟩ (.int .i64 ex)).setCell ⟨p, 4, none⟩ (.int .u64 eb)).setCell ⟨p, 5, none⟩ (.string es)).setCell ⟨p, 6, none⟩ (.slice ea em ec)) := hX
      have ME3 : Hid (Xb 71 wz XE3 g h p ml3 me3 #[.int .i64 ck, .string cn, .int .i64 ek, .int .i64 ex, .int .u64 eb, .string es, .slice ea em ec, .int .i64 0]) := by rw [hX]; exact (((((Ma).put 2 (.int .i64 ek)).put 3 (.int .i64 ex)).put 4 (.int .u64 eb)).put 5 (.string es)).put 6 (.slice ea em ec)
      have KQE3 : Hid (KQ g p XE2 XE3) := by rw [hX]; exact (((((KQ.kb k).trans (KQ.put g p 2 _ (.int .i64 ek))).trans (KQ.put g p 3 _ (.int .i64 ex))).trans (KQ.put g p 4 _ (.int .u64 eb))).trans (KQ.put g p 5 _ (.string es))).trans (KQ.put g p 6 _ (.slice ea em ec))
      have IE : Hid (IsN (p + 1) XE3 5 (.agg #[.int .i64 ek, .int .i64 ex, .int .u64 eb, .string es, .slice ea em ec]) dt) := by
        rw [hX]
        have hz := ME2.out.lt
        refine (hi.lower (by omega)).kept (fun B h1 h2 => ?_)
        exact (Below.heap_setCell _ _ _ _ (show B ≠ p by omega)) |>.trans (Below.heap_setCell _ _ _ _ (show B ≠ p by omega)) |>.trans (Below.heap_setCell _ _ _ _ (show B ≠ p by omega)) |>.trans (Below.heap_setCell _ _ _ _ (show B ≠ p by omega)) |>.trans (Below.heap_setCell _ _ _ _ (show B ≠ p by omega))
      clear hX Ma s k hi
      go_upto_region 22 with fail
      rw [← HXE3.out]
      clear a2 f2 a3 f3 a4 f4 a5 f5 a6 f6
      go_wp2_with fail
      refine (J4.out _ _ _ ME3.out.st).mono ?_
      rintro x vE4 ⟨rfl, s, k⟩
      have Ma := ME3.out.step s k
      have a7 := Ma.cell 7 (v := .int .i64 0) rfl
      have f7 := Ma.free 7
      obtain ⟨XE4, hX⟩ : ∃ X, X = (vE4).setCell ⟨p, 7, none⟩ (.int .i64 dl) := ⟨_, rfl⟩
      have HXE4 : Hid (XE4 = (vE4).setCell ⟨p, 7, none⟩ (.int .i64 dl)) := hX
      have ME4 : Hid (Xb 71 wz XE4 g h p ml4 me4 #[.int .i64 ck, .string cn, .int .i64 ek, .int .i64 ex, .int .u64 eb, .string es, .slice ea em ec, .int .i64 dl]) := by rw [hX]; exact (Ma).put 7 (.int .i64 dl)
      have KQE4 : Hid (KQ g p XE3 XE4) := by rw [hX]; exact (KQ.kb k).trans (KQ.put g p 7 _ (.int .i64 dl))
      have IEn : Hid (IsN (p + 1) XE4 5 (.agg #[.int .i64 ek, .int .i64 ex, .int .u64 eb, .string es, .slice ea em ec]) dt) := IE.out.kq KQE4.out (by have := ME3.out.gw; have := ME3.out.q0; omega) (by omega)
      clear IE
      have IE := IEn
      clear IEn
      clear hX Ma s k
      go_upto_region 23 with fail
      rw [← HXE4.out]
      clear a7 f7
      have KBZ : Hid (KB g wr XE4) := HKZ.out.trans ME4.out.kb
      have MO : Hid (Xb 31 wb XE4 g h q ml4 me4 #[.int .i64 rk, .string tf, .string tq, .string tn, .int .i64 vk, .int .i64 vx, .int .u64 vb, .string vs, .slice va vm vc, .int .i64 ru, .int .i64 nu, .int .i64 wa, .int .i64 pf, .int .u64 (pc : Int), .int .i64 pm, .slice ua un uc, .slice none 0 0]) := HXB.out.step ME4.out.st KBZ.out
      have hVk : GrE Y12.heap.size 5 71 8 ElC XE4 (.slice ua un uc) acc := HV.out.keep elC (fun B h1 h2 => KBZ.out.2.2.2.2 B h2 (by have := HS0.out; omega))
      have hel : ElC (IsN (p + 1) XE4 5) #[.int .i64 ck, .string cn, .int .i64 ek, .int .i64 ex, .int .u64 eb, .string es, .slice ea em ec, .int .i64 dl] (ck, cn, dt, dl) := ⟨ek, ex, eb, es, ea, em, ec, rfl, IE.out⟩
      have hlto : ∀ B, (Value.slice ua un uc).ownBlock = some B → B < wr.heap.size := fun B hB => (HV.out.lt hB).2
      have hpw : wr.heap.size ≤ p := by have := HSZ.out; have := HP.out; omega
      have hsq := HS0.out
      have hqe : ElC (IsQ (fun B => Y12.heap.size ≤ B ∧ (Value.slice ua un uc).ownBlock ≠ some B) (XE4.alloc (.cells #[.int .i64 ck, .string cn, .int .i64 ek, .int .i64 ex, .int .u64 eb, .string es, .slice ea em ec, .int .i64 dl] 71)) 5) #[.int .i64 ck, .string cn, .int .i64 ek, .int .i64 ex, .int .u64 eb, .string es, .slice ea em ec, .int .i64 dl] (ck, cn, dt, dl) := elC.map hel (fun _ _ h => (h.isQ (fun B h1 _ => ⟨by omega, fun e => by have := hlto B e; omega⟩)).keep (fun B hB hl => ⟨(bel1 XE4 _).block B hl, hB⟩))
      obtain ⟨a', c', w3, hr3, hv3, hb3, hk3⟩ := (hVk.keep elC (fun B _ h2 => (bel1 XE4 (.cells #[.int .i64 ck, .string cn, .int .i64 ek, .int .i64 ex, .int .u64 eb, .string es, .slice ea em ec, .int .i64 dl] 71)).block B h2)).app_c (heap_alloc_new XE4 (.cells #[.int .i64 ck, .string cn, .int .i64 ek, .int .i64 ex, .int .u64 eb, .string es, .slice ea em ec, .int .i64 dl] 71)) hqe (by have := KBZ.out.2.2.2.1; simp; omega) (by have := HA.out; have := HM12.out; omega)
      have hzW := KBZ.out.2.2.2.1
      have MO3 : Hid (Xb 31 wb w3 g h q ml4 me4 #[.int .i64 rk, .string tf, .string tq, .string tn, .int .i64 vk, .int .i64 vx, .int .u64 vb, .string vs, .slice va vm vc, .int .i64 ru, .int .i64 nu, .int .i64 wa, .int .i64 pf, .int .u64 (pc : Int), .int .i64 pm, .slice ua un uc, .slice none 0 0]) := (MO.out.low (bel1 XE4 _) (by omega)).low hb3 (by omega)
      have M4 : Hid (Xb 31 wb (w3.setCell ⟨q, 15, none⟩ (.slice a' (acc.length + 1) c')) g h q ml4 me4 #[.int .i64 rk, .string tf, .string tq, .string tn, .int .i64 vk, .int .i64 vx, .int .u64 vb, .string vs, .slice va vm vc, .int .i64 ru, .int .i64 nu, .int .i64 wa, .int .i64 pf, .int .u64 (pc : Int), .int .i64 pm, .slice a' (acc.length + 1) c', .slice none 0 0]) := MO3.out.put 15 _
      have V4 : Hid (GrE Y12.heap.size 5 71 8 ElC (w3.setCell ⟨q, 15, none⟩ (.slice a' (acc.length + 1) c')) (.slice a' (acc.length + 1) c') (acc ++ [(ck, cn, dt, dl)])) := hv3.keep elC (fun B h1 h2 => Below.heap_setCell _ _ _ _ (show B ≠ q by omega))
      have Q4 : Hid (KQ g q Y12 (w3.setCell ⟨q, 15, none⟩ (.slice a' (acc.length + 1) c'))) := (((HKQ.out.trans (KQ.kb KBZ.out)).low ((bel1 XE4 _).mono (by omega))).low hb3).trans (KQ.put g q 15 _ _)
      have HUN : Hid (un = acc.length) := HA.out.1
      have hun := HA.out.1
      clear hun
      have z0 := ME4.out.cell 0 (v := .int .i64 ck) rfl
      have z1 := ME4.out.cell 1 (v := .string cn) rfl
      have z2 := ME4.out.cell 2 (v := .int .i64 ek) rfl
      have z3 := ME4.out.cell 3 (v := .int .i64 ex) rfl
      have z4 := ME4.out.cell 4 (v := .int .u64 eb) rfl
      have z5 := ME4.out.cell 5 (v := .string es) rfl
      have z6 := ME4.out.cell 6 (v := .slice ea em ec) rfl
      have z7 := ME4.out.cell 7 (v := .int .i64 dl) rfl
      have yx := MO.out.cell 15 (v := .slice ua un uc) rfl
      have yc := MO3.out.cell 15 (v := .slice ua un uc) rfl
      have yf := MO3.out.free 15
      have HW1 : Hid (wrap64 ((j : Int) + 1) = ((j + 1 : Nat) : Int)) := wr1 hlt (by have := HM12.out; omega)
      clear hVk hel hlto hpw hsq hqe hv3 hb3 hk3 hzW
      go_wp2_with (at_builtin; refine Lib.wpList_append_run _ rfl _ _ 28 28 rfl _ _ rfl rfl _ _ (hr3 _) ?_)
      refine ⟨⟨j + 1, acc.length + 1, acc ++ [(ck, cn, dt, dl)], ml4, me4, a', c', hlt, by rw [HW1.out], (by show _ ∧ _; have := HA.out; simp; omega), V4, M4, Q4, HLN, ?_⟩, meas hlt HW1.out⟩
      have hm := HJ.out.more hlt
      rw [HD.out] at hm
      exact hm
    · have HLA := HJ.out.last hj hlt
      rw [decide_eq_false hlt]
      rw [HQ13.out] at HLA
      obtain ⟨hs1, hs2⟩ := HLA
      dsimp only at hs1 hs2
      cases hs1
      obtain ⟨hun, haj⟩ := HA.out
      have hs3 : Hid (e13 = 0 → cds = acc) := hs2
      have hu3 : Hid (un = acc.length) := hun
      have HV1 : Hid (LsE Y12.heap.size 8 ElC wr 5 ua acc) := HV.out.ls elC (by decide)
      have HXB1 := HXB
      have HKQ1 := HKQ
      clear hs2 hun haj HA HV HXB HKQ HLJ HJ hlt hj
      obtain ⟨ca, rfl⟩ : ∃ z, z = ua := ⟨_, rfl⟩
      obtain ⟨cu, rfl⟩ : ∃ z, z = un := ⟨_, rfl⟩
      obtain ⟨cc, rfl⟩ : ∃ z, z = uc := ⟨_, rfl⟩
      obtain ⟨acc1, rfl⟩ : ∃ z, z = acc := ⟨_, rfl⟩
      obtain ⟨wq1, rfl⟩ : ∃ z, z = wr := ⟨_, rfl⟩
      go_wp2_with fail
      refine (K14.out _ _ _ HXB1.out.st).mono ?_
      rintro x Y14 ⟨rfl, s, k⟩
      have M14 : Hid (Xb 31 wb Y14 g h q l14 e14 #[.int .i64 rk, .string tf, .string tq, .string tn, .int .i64 vk, .int .i64 vx, .int .u64 vb, .string vs, .slice va vm vc, .int .i64 ru, .int .i64 nu, .int .i64 wa, .int .i64 pf, .int .u64 (pc : Int), .int .i64 pm, .slice ca cu cc, .slice none 0 0]) := HXB1.out.step s k
      have KQ14 : Hid (KQ g q Y12 Y14) := HKQ1.out.trans (KQ.kb k)
      have hzz : g < Y12.heap.size ∧ q < Y12.heap.size := by have := M12.out.lt; have := GQ.out; omega
      have IVn : Hid (IsN (q + 1) Y14 5 (.agg #[.int .i64 vk, .int .i64 vx, .int .u64 vb, .string vs, .slice va vm vc]) tv) := IV.out.kq KQ14.out (by have := GQ.out; omega) (by omega)
      have ICn : Hid (LsE Y12.heap.size 8 ElC Y14 5 ca acc1) := HV1.out.kq elC (KQ.kb (q := q) k) hzz.1 hzz.2
      have HZ12b : Hid (q < Y12.heap.size) := hzz.2
      have HYY : Hid (Y12.heap.size ≤ Y14.heap.size) := KQ14.out.1
      clear s k hzz IV HV1
      go_wp2_with fail
      go_loopw [9] (fun i wr => ∃ (j un : Nat) (acc : List (Int × Tv)) (lj : List UInt8) (ej : Int) (ua : Option Addr) (uc : Nat), j ≤ N2 ∧ i = .int .i64 (j : Int) ∧ Hid (un = acc.length ∧ acc.length = j) ∧ Hid (GrE Y14.heap.size 5 73 6 ElA wr (.slice ua un uc) acc) ∧ Hid (Xb 31 wb wr g h q lj ej #[.int .i64 rk, .string tf, .string tq, .string tn, .int .i64 vk, .int .i64 vx, .int .u64 vb, .string vs, .slice va vm vc, .int .i64 ru, .int .i64 nu, .int .i64 wa, .int .i64 pf, .int .u64 (pc : Int), .int .i64 pm, .slice ca cu cc, .slice ua un uc]) ∧ Hid (KQ g q Y14 wr) ∧ Hid (lj.length ≤ 140737488351232) ∧ Hid (Jl rdAn N2 l14 e14 j acc lj ej)) (fun i _ => N2 - (intOf i).toNat)
      case atStart => exact ⟨0, 0, [], l14, e14, none, 0, Nat.zero_le _, rfl, ⟨rfl, rfl⟩, GrE.nil _ _ _ _ _ _, M14, KQ.refl _ _ _, HL14, Jl.first HZ14.out⟩
      case round =>
        obtain ⟨j, un, acc, lj, ej, ua, uc, hj, rfl, HA, HV, HXB, HKQ, HLJ, HJ⟩ := hrel
        go_upto_region 26 with fail
        go_cut [93] (fun x wx => x = .bool (decide (j < N2 ∧ ej = 0)) ∧ wx = wr)
        case first =>
          by_cases hlt : j < N2
          · have hjl : (j : Int) < (N2 : Int) := by omega
            go_wp2_with fail
            refine (rerr_rt _ _ _ _ _ HXB.out.st).mono ?_
            rintro x w3 ⟨rfl, hw3⟩
            have hw3' := hw3.symm
            subst hw3'
            clear hw3
            by_cases he : ej = 0
            · have HD0 : Hid (decide (j < N2 ∧ ej = 0) = true) := decide_eq_true ⟨hlt, he⟩
              have de : (ej == 0) = true := by simpa using he
              clear he
              go_wp2_with fail
              go_meet
              exact ⟨by rw [HD0.out], rfl⟩
            · have HD0 : Hid (decide (j < N2 ∧ ej = 0) = false) := decide_eq_false (fun h => he h.2)
              have de : (ej == 0) = false := by simpa using he
              clear he
              go_wp2_with fail
              go_meet
              exact ⟨by rw [HD0.out], rfl⟩
          · have HD0 : Hid (decide (j < N2 ∧ ej = 0) = false) := decide_eq_false (fun h => hlt h.1)
            have hjl : ¬ ((j : Int) < (N2 : Int)) := by omega
            go_wp2_with fail
            go_meet
            exact ⟨by rw [HD0.out], rfl⟩
        case rest =>
        obtain ⟨rfl, hwc⟩ := hcut
        have hwc' := hwc.symm
        subst hwc'
        clear hwc
        by_cases hlt : j < N2 ∧ ej = 0
        · rw [decide_eq_true hlt]
          obtain ⟨hlt, hej⟩ := hlt
          subst hej
          have HS0 : Hid (Y14.heap.size ≤ wr.heap.size ∧ q < Y14.heap.size ∧ g < Y14.heap.size ∧ h < Y14.heap.size) := by have := M14.out.lt; have := GQ.out; exact ⟨HKQ.out.1, by omega, by omega, by omega⟩
          have hR : rdAn lj 0 = rdAn lj 0 := rfl
          conv at hR => rhs; unfold rdAn
          have hlj := HLJ.out
          have t1 := sNum_len 4611686018427387904 lj 0
          have JJ1 := fun W g h (s : RT W g h lj 0) => rnum_rt W g h lj 0 4611686018427387904 s
          generalize sNum 4611686018427387904 lj 0 = S1 at hR t1 JJ1
          obtain ⟨op, ml1, me1⟩ := S1
          dsimp only at hR t1 JJ1
          have J1 : Hid (∀ W g h, RT W g h lj 0 → Calls Try.prog 28 #[.pointer (some ⟨g, 0, none⟩), .int .i64 4611686018427387904] W (Rr W g h (.int .i64 op) ml1 me1)) := JJ1
          clear JJ1
          have t2 := rdR_len ml1 me1
          have JJ2 := fun W g h (s : RT W g h ml1 me1) (hh : h < W.heap.size) => rreadv_calls W g h ml1 me1 s hh (by omega)
          generalize rdR ml1 me1 = S2 at hR t2 JJ2
          obtain ⟨dt, ml2, me2⟩ := S2
          dsimp only at hR t2 JJ2
          have J2 : Hid (∀ W g h, RT W g h ml1 me1 → h < W.heap.size → Calls Try.prog 30 #[.pointer (some ⟨g, 0, none⟩)] W (RdX W g h 5 (dt, ml2, me2))) := JJ2
          clear JJ2
          have HD : Hid (rdAn lj 0 = _) := hR
          have HLN : Hid (ml2.length ≤ 140737488351232) := by show _ ≤ _; omega
          clear hR hlj t1 t2
          go_wp2_with fail
          refine (J1.out _ _ _ HXB.out.st).mono ?_
          rintro x wz ⟨rfl, sz, kz⟩
          obtain ⟨E1, hE1⟩ : ∃ E1, E1 = wz.alloc (.cells #[.int .i64 op, .int .i64 0, .int .i64 0, .int .u64 0, .string ⟨#[]⟩, .slice none 0 0] 73) := ⟨_, rfl⟩
          obtain ⟨p, hp⟩ : ∃ p, p = wz.heap.size := ⟨_, rfl⟩
          have HE1 : Hid (E1 = wz.alloc (.cells #[.int .i64 op, .int .i64 0, .int .i64 0, .int .u64 0, .string ⟨#[]⟩, .slice none 0 0] 73)) := hE1
          have HP : Hid (p = wz.heap.size) := hp
          have HKZ : Hid (KB g wr wz) := kz
          have HSZ : Hid (wr.heap.size ≤ wz.heap.size) := kz.2.2.2.1
          have ME1 : Hid (Xb 73 wz E1 g h p ml1 me1 #[.int .i64 op, .int .i64 0, .int .i64 0, .int .u64 0, .string ⟨#[]⟩, .slice none 0 0]) := by rw [hE1, hp]; exact Xb.first _ sz (by have := HS0.out; have := HSZ.out; omega)
          clear sz kz hE1 hp
          go_upto_region 29 with fail
          rw [← HE1.out, ← HP.out]
          go_wp2_with fail
          refine (J2.out _ _ _ ME1.out.st (by have := ME1.out.hw; have := ME1.out.lt; have := ME1.out.q0; omega)).mono ?_
          rintro x vE2 ⟨vv, rfl, hi, s, k⟩
          dsimp only at hi s
          obtain ⟨ek, ex, eb, es, ea, em, ec, rfl⟩ := hi.shape
          have Ma := ME1.out.step s k
          have a1 := Ma.cell 1 (v := .int .i64 0) rfl
          have f1 := Ma.free 1
          have a2 := Ma.cell 2 (v := .int .i64 0) rfl
          have f2 := Ma.free 2
          have a3 := Ma.cell 3 (v := .int .u64 0) rfl
          have f3 := Ma.free 3
          have a4 := Ma.cell 4 (v := .string ⟨#[]⟩) rfl
          have f4 := Ma.free 4
          have a5 := Ma.cell 5 (v := .slice none 0 0) rfl
          have f5 := Ma.free 5
          obtain ⟨XE2, hX⟩ : ∃ X, X = (((((vE2).setCell ⟨p, 1, none⟩ (.int .i64 ek)).setCell ⟨p, 2, none⟩ (.int .i64 ex)).setCell ⟨p, 3, none⟩ (.int .u64 eb)).setCell ⟨p, 4, none⟩ (.string es)).setCell ⟨p, 5, none⟩ (.slice ea em ec) := ⟨_, rfl⟩
          have HXE2 : Hid (XE2 = (((((vE2).setCell ⟨p, 1, none⟩ (.int .i64 ek)).setCell ⟨p, 2, none⟩ (.int .i64 ex)).setCell ⟨p, 3, none⟩ (.int .u64 eb)).setCell ⟨p, 4, none⟩ (.string es)).setCell ⟨p, 5, none⟩ (.slice ea em ec)) := hX
          have ME2 : Hid (Xb 73 wz XE2 g h p ml2 me2 #[.int .i64 op, .int .i64 ek, .int .i64 ex, .int .u64 eb, .string es, .slice ea em ec]) := by rw [hX]; exact (((((Ma).put 1 (.int .i64 ek)).put 2 (.int .i64 ex)).put 3 (.int .u64 eb)).put 4 (.string es)).put 5 (.slice ea em ec)
          have KQE2 : Hid (KQ g p E1 XE2) := by rw [hX]; exact (((((KQ.kb k).trans (KQ.put g p 1 _ (.int .i64 ek))).trans (KQ.put g p 2 _ (.int .i64 ex))).trans (KQ.put g p 3 _ (.int .u64 eb))).trans (KQ.put g p 4 _ (.string es))).trans (KQ.put g p 5 _ (.slice ea em ec))
          have IE : Hid (IsN (p + 1) XE2 5 (.agg #[.int .i64 ek, .int .i64 ex, .int .u64 eb, .string es, .slice ea em ec]) dt) := by
            rw [hX]
            have hz := ME1.out.lt
            refine (hi.lower (by omega)).kept (fun B h1 h2 => ?_)
            exact (Below.heap_setCell _ _ _ _ (show B ≠ p by omega)) |>.trans (Below.heap_setCell _ _ _ _ (show B ≠ p by omega)) |>.trans (Below.heap_setCell _ _ _ _ (show B ≠ p by omega)) |>.trans (Below.heap_setCell _ _ _ _ (show B ≠ p by omega)) |>.trans (Below.heap_setCell _ _ _ _ (show B ≠ p by omega))
          clear hX Ma s k hi
          go_upto_region 30 with fail
          rw [← HXE2.out]
          clear a1 f1 a2 f2 a3 f3 a4 f4 a5 f5
          have KBZ : Hid (KB g wr XE2) := HKZ.out.trans ME2.out.kb
          have MO : Hid (Xb 31 wb XE2 g h q ml2 me2 #[.int .i64 rk, .string tf, .string tq, .string tn, .int .i64 vk, .int .i64 vx, .int .u64 vb, .string vs, .slice va vm vc, .int .i64 ru, .int .i64 nu, .int .i64 wa, .int .i64 pf, .int .u64 (pc : Int), .int .i64 pm, .slice ca cu cc, .slice ua un uc]) := HXB.out.step ME2.out.st KBZ.out
          have hVk : GrE Y14.heap.size 5 73 6 ElA XE2 (.slice ua un uc) acc := HV.out.keep elA (fun B h1 h2 => KBZ.out.2.2.2.2 B h2 (by have := HS0.out; omega))
          have hel : ElA (IsN (p + 1) XE2 5) #[.int .i64 op, .int .i64 ek, .int .i64 ex, .int .u64 eb, .string es, .slice ea em ec] (op, dt) := ⟨ek, ex, eb, es, ea, em, ec, rfl, IE.out⟩
          have hlto : ∀ B, (Value.slice ua un uc).ownBlock = some B → B < wr.heap.size := fun B hB => (HV.out.lt hB).2
          have hpw : wr.heap.size ≤ p := by have := HSZ.out; have := HP.out; omega
          have hsq := HS0.out
          have hqe : ElA (IsQ (fun B => Y14.heap.size ≤ B ∧ (Value.slice ua un uc).ownBlock ≠ some B) (XE2.alloc (.cells #[.int .i64 op, .int .i64 ek, .int .i64 ex, .int .u64 eb, .string es, .slice ea em ec] 73)) 5) #[.int .i64 op, .int .i64 ek, .int .i64 ex, .int .u64 eb, .string es, .slice ea em ec] (op, dt) := elA.map hel (fun _ _ h => (h.isQ (fun B h1 _ => ⟨by omega, fun e => by have := hlto B e; omega⟩)).keep (fun B hB hl => ⟨(bel1 XE2 _).block B hl, hB⟩))
          obtain ⟨a', c', w3, hr3, hv3, hb3, hk3⟩ := (hVk.keep elA (fun B _ h2 => (bel1 XE2 (.cells #[.int .i64 op, .int .i64 ek, .int .i64 ex, .int .u64 eb, .string es, .slice ea em ec] 73)).block B h2)).app_a (heap_alloc_new XE2 (.cells #[.int .i64 op, .int .i64 ek, .int .i64 ex, .int .u64 eb, .string es, .slice ea em ec] 73)) hqe (by have := KBZ.out.2.2.2.1; simp; omega) (by have := HA.out; have := HM14.out; omega)
          have hzW := KBZ.out.2.2.2.1
          have MO3 : Hid (Xb 31 wb w3 g h q ml2 me2 #[.int .i64 rk, .string tf, .string tq, .string tn, .int .i64 vk, .int .i64 vx, .int .u64 vb, .string vs, .slice va vm vc, .int .i64 ru, .int .i64 nu, .int .i64 wa, .int .i64 pf, .int .u64 (pc : Int), .int .i64 pm, .slice ca cu cc, .slice ua un uc]) := (MO.out.low (bel1 XE2 _) (by omega)).low hb3 (by omega)
          have M4 : Hid (Xb 31 wb (w3.setCell ⟨q, 16, none⟩ (.slice a' (acc.length + 1) c')) g h q ml2 me2 #[.int .i64 rk, .string tf, .string tq, .string tn, .int .i64 vk, .int .i64 vx, .int .u64 vb, .string vs, .slice va vm vc, .int .i64 ru, .int .i64 nu, .int .i64 wa, .int .i64 pf, .int .u64 (pc : Int), .int .i64 pm, .slice ca cu cc, .slice a' (acc.length + 1) c']) := MO3.out.put 16 _
          have V4 : Hid (GrE Y14.heap.size 5 73 6 ElA (w3.setCell ⟨q, 16, none⟩ (.slice a' (acc.length + 1) c')) (.slice a' (acc.length + 1) c') (acc ++ [(op, dt)])) := hv3.keep elA (fun B h1 h2 => Below.heap_setCell _ _ _ _ (show B ≠ q by omega))
          have Q4 : Hid (KQ g q Y14 (w3.setCell ⟨q, 16, none⟩ (.slice a' (acc.length + 1) c'))) := (((HKQ.out.trans (KQ.kb KBZ.out)).low ((bel1 XE2 _).mono (by omega))).low hb3).trans (KQ.put g q 16 _ _)
          have HUN : Hid (un = acc.length) := HA.out.1
          have hun := HA.out.1
          clear hun
          have z0 := ME2.out.cell 0 (v := .int .i64 op) rfl
          have z1 := ME2.out.cell 1 (v := .int .i64 ek) rfl
          have z2 := ME2.out.cell 2 (v := .int .i64 ex) rfl
          have z3 := ME2.out.cell 3 (v := .int .u64 eb) rfl
          have z4 := ME2.out.cell 4 (v := .string es) rfl
          have z5 := ME2.out.cell 5 (v := .slice ea em ec) rfl
          have yx := MO.out.cell 16 (v := .slice ua un uc) rfl
          have yc := MO3.out.cell 16 (v := .slice ua un uc) rfl
          have yf := MO3.out.free 16
          have HW1 : Hid (wrap64 ((j : Int) + 1) = ((j + 1 : Nat) : Int)) := wr1 hlt (by have := HM14.out; omega)
          clear hVk hel hlto hpw hsq hqe hv3 hb3 hk3 hzW
          go_wp2_with (at_builtin; refine Lib.wpList_append_run _ rfl _ _ 29 29 rfl _ _ rfl rfl _ _ (hr3 _) ?_)
          refine ⟨⟨j + 1, acc.length + 1, acc ++ [(op, dt)], ml2, me2, a', c', hlt, by rw [HW1.out], (by show _ ∧ _; have := HA.out; simp; omega), V4, M4, Q4, HLN, ?_⟩, meas hlt HW1.out⟩
          have hm := HJ.out.more hlt
          rw [HD.out] at hm
          exact hm
        · have HLA := HJ.out.last hj hlt
          rw [decide_eq_false hlt]
          rw [HQ15.out] at HLA
          obtain ⟨hs1, hs2⟩ := HLA
          dsimp only at hs1 hs2
          cases hs1
          obtain ⟨hun, haj⟩ := HA.out
          have hs4 : Hid (e15 = 0 → ads = acc) := hs2
          have hu4 : Hid (un = acc.length) := hun
          have IA : Hid (LsE Y14.heap.size 6 ElA wr 5 ua acc) := HV.out.ls elA (by decide)
          have hzz : g < Y12.heap.size ∧ q < Y12.heap.size := by have := HZ12b.out; have := GQ.out; omega
          have IVf : Hid (IsN (q + 1) wr 5 (.agg #[.int .i64 vk, .int .i64 vx, .int .u64 vb, .string vs, .slice va vm vc]) tv) := IVn.out.kq HKQ.out (by have := GQ.out; omega) (by omega)
          have ICf : Hid (LsE Y12.heap.size 8 ElC wr 5 ca acc1) := ICn.out.kq elC HKQ.out hzz.1 hzz.2
          have LO : Hid (w.heap.size + 1 ≤ q + 1 ∧ w.heap.size + 1 ≤ Y12.heap.size ∧ w.heap.size + 1 ≤ Y14.heap.size) := by have := GQ.out; have := HYY.out; have := hzz.2; exact ⟨by omega, by omega, by omega⟩
          have hgw := GQ.out
          have hX2 := HX.out.2
          have hg3 := HG.out
          have hwb := HWB.out
          have hkb := HXB.out.kb
          have RES : Hid (wr.heap[w.heap.size]? = some (.cells #[.int .i64 0, .string ⟨#[]⟩, .string ⟨#[]⟩, .string ⟨#[]⟩, .int .i64 0, .int .i64 0, .int .u64 0, .string ⟨#[]⟩, .slice none 0 0, .int .i64 0, .int .i64 0, .int .i64 0, .int .i64 0, .int .u64 0, .int .i64 0, .slice none 0 0, .slice none 0 0] 31 (0, 0))) := (hkb.2.2.2.2 _ (by omega) (by omega)).trans ((HKB.out.2.2.2.2 _ (by omega) (by omega)).trans ((HB1.out.block _ (by omega)).trans r0.out))
          have BEL : Hid (Below w.heap.size w wr) := HX.out.1.trans ((HB1.out.mono (by omega)).trans ((HKB.out.below (by omega) (by omega)).trans (hkb.below (by omega) (by omega))))
          have hr := RES.out
          have ho := HXB.out.own
          have hst : Hid (RT wr g h l15 e15) := HXB.out.st
          clear hs2 hun haj hzz hgw hX2 hg3 hwb hkb HJ hlt hj
          go_wp2_with fail
          refine (rend_rt _ _ _ _ _ hst.out).mono ?_
          rintro x w5 ⟨rfl, hw⟩
          have hw' := hw.symm
          subst hw'
          clear hw
          rw [← HE.out]
          by_cases h0 : EE = 0
          · have dE : (EE != 0) = false := by simpa using h0
            have HR0 : Hid (RR = _) := HRR.out.trans (if_pos h0)
            have h15 : e15 = 0 := by
              have h1 := HE.out.symm.trans h0
              unfold en at h1
              by_cases h2 : e15 = 0
              · exact h2
              · have h3 : (e15 == 0) = false := by simpa using h2
                rw [h3] at h1
                exact absurd h1 h2
            have hc1 := hs3.out (HE15.out h15)
            have ha1 := hs4.out h15
            have hu3x := hu3.out
            have hu4x := hu4.out
            rw [← hc1] at hu3x
            rw [← ha1] at hu4x
            have ICg : Hid (LsE Y12.heap.size 8 ElC wr 5 ca cds) := by have := ICf.out; rwa [← hc1] at this
            have IAg : Hid (LsE Y14.heap.size 6 ElA wr 5 ua ads) := by have := IA.out; rwa [← ha1] at this
            rw [hu3x, hu4x] at ho
            clear h0 h15 hc1 ha1
            have A1 : Hid ((#[.int .i64 rk, .string tf, .string tq, .string tn, .int .i64 vk, .int .i64 vx, .int .u64 vb, .string vs, .slice va vm vc, .int .i64 ru, .int .i64 nu, .int .i64 wa, .int .i64 pf, .int .u64 (pc : Int), .int .i64 pm, .slice ca cds.length cc, .slice ua ads.length uc] : Array Value).all (·.oneCell') = true) := by show _ = _; simp [Value.oneCell']
            clear hu3x hu4x
            go_upto_region 34 with fail
            go_wp2_with (first | refine wpList_load_row rfl 31 _ rfl q rfl 31 _ (0, 0) _ ho Try.underlying31 rfl infoR31 ?_ | refine wpList_store_row rfl 31 _ _ rfl w.heap.size _ rfl rfl 31 _ hr infoR31 rfl A1.out ?_)
            refine bodyPost_ret (retQ (y := .int .i64 0) Try.results10 _ rfl ?_ ?_ (setRow_heap _ w.heap.size _ _ 31 (0, 0) hr)) ?_ ?_
            · rfl
            · rfl
            · rfl
            rw [HR0.out]
            have hk : ∀ (cs : Array Value) B, w.heap.size + 1 ≤ B → B < wr.heap.size → (wr.setRow w.heap.size cs).heap[B]? = wr.heap[B]? := fun cs B h1 _ => setRow_other _ _ _ _ (by omega)
            have lo := LO.out
            exact ⟨vk, vx, vb, vs, va, vm, vc, ca, cc, ua, uc, rfl, ((IVf.out.lower lo.1).kept (hk _)).lower (by omega), ((ICg.out.lower elC lo.2.1).kept elC (hk _)).lower elC (by omega), ((IAg.out.lower elA lo.2.2).kept elA (hk _)).lower elA (by omega), below_setRow BEL.out (Nat.le_refl _) _⟩
          · have dE : (EE != 0) = true := by simpa using h0
            have HR0 : Hid (RR = _) := HRR.out.trans (if_neg h0)
            clear h0
            have A1 : Hid ((#[.int .i64 0, .string ⟨#[]⟩, .string ⟨#[]⟩, .string ⟨#[]⟩, .int .i64 0, .int .i64 0, .int .u64 0, .string ⟨#[]⟩, .slice none 0 0, .int .i64 0, .int .i64 0, .int .i64 0, .int .i64 0, .int .u64 0, .int .i64 0, .slice none 0 0, .slice none 0 0] : Array Value).all (·.oneCell') = true) := by show _ = _; simp [Value.oneCell']
            go_upto_region 33 with fail
            go_wp2_with (refine wpList_store_row rfl 31 _ _ rfl w.heap.size _ rfl rfl 31 _ hr infoR31 rfl A1.out ?_)
            refine bodyPost_ret (retQ (y := .int .i64 EE) Try.results10 _ rfl ?_ ?_ (setRow_heap _ w.heap.size _ _ 31 (0, 0) hr)) ?_ ?_
            · rfl
            · rfl
            · rfl
            rw [HR0.out]
            exact ⟨0, 0, 0, ⟨#[]⟩, none, 0, 0, none, 0, none, 0, rfl, zT_is _ _ 4, LsE.nil _ _ _ _ _ _, LsE.nil _ _ _ _ _ _, below_setRow BEL.out (Nat.le_refl _) _⟩
end Go.Proofs.Ytjmonkhkcmcfiaa
