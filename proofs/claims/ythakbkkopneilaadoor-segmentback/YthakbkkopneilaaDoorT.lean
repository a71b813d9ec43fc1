/- Blocks that stay; a segment in memory; the contract of take. -/
import Derived.Test.YthakbkkopneilaaDoorS
namespace Go.Proofs.YthakbkkopneilaaDoor
open Go.ChangeShapes Go.WideShapes Go.ChangeAt Go.RowKit
theorem row_below {B e k n : Nat} {v : Value} {xs : List Value} {w w' : World} (h : w.ownsRow B e k v n xs) (hb : Below w.heap.size w w') : w'.ownsRow B e k v n xs := by
  obtain ⟨h1, h2 | ⟨g, cap, cur, rfl, hB, hg, r⟩⟩ := h
  · exact ⟨h1, .inl h2⟩
  · have hlt : g < w.heap.size := by
      rcases Nat.lt_or_ge g w.heap.size with h | h
      · exact h
      · rw [Array.getElem?_eq_none h] at hg; cases hg
    exact ⟨h1, .inr ⟨g, cap, cur, rfl, hB, by rw [hb.block _ hlt]; exact hg, r⟩⟩
/-- All blocks of cells of these types are as they were. -/
def KT (S : TypeId → Prop) (w w' : World) : Prop := ∀ (k : Nat) (cur : Array Value) (t : TypeId) (fz : Nat × Nat), w.heap[k]? = some (Obj.cells cur t fz) → S t → w'.heap[k]? = some (Obj.cells cur t fz)
theorem KT.trans {S : TypeId → Prop} {a b c : World} (h : KT S a b) (k : KT S b c) : KT S a c := fun j cur t fz hj ht => k j cur t fz (h j cur t fz hj ht) ht
theorem KT.mono {S T : TypeId → Prop} {a b : World} (h : KT S a b) (hs : ∀ t, T t → S t) : KT T a b := fun j cur t fz hj ht => h j cur t fz hj (hs t ht)
theorem KT.below {S : TypeId → Prop} {a b : World} (h : Below a.heap.size a b) : KT S a b := fun j cur t fz hj _ => by
  have hlt : j < a.heap.size := by
    rcases Nat.lt_or_ge j a.heap.size with h | h
    · exact h
    · rw [Array.getElem?_eq_none h] at hj; cases hj
  rw [h.block j hlt, hj]
theorem KT.set {w : World} {g : Nat} {c : Array Value} {t0 : TypeId} {fz : Nat × Nat} (hg : w.heap[g]? = some (.cells c t0 fz)) (o : Nat) (u : Value) : KT (fun t => t ≠ t0) w (w.setCell ⟨g, o, none⟩ u) := fun j cur t fz hj ht => by
  rw [Below.heap_setCell _ _ _ _ (fun e => ?_), hj]
  subst e
  rw [hj] at hg
  injection hg with hg
  injection hg with _ h2 _
  exact ht h2
theorem row_kt {S : TypeId → Prop} {B e k n : Nat} {v : Value} {xs : List Value} {w w' : World} (h : w.ownsRow B e k v n xs) (hk : KT S w w') (hs : S e) : w'.ownsRow B e k v n xs := by
  obtain ⟨h1, h2 | ⟨g, cap, cur, rfl, hB, hg, r⟩⟩ := h
  · exact ⟨h1, .inl h2⟩
  · exact ⟨h1, .inr ⟨g, cap, cur, rfl, hB, hk g cur e (0, 0) hg hs, r⟩⟩
theorem kt_grown {B e k n : Nat} {v : Value} {xs : List Value} {W w' : World} (hrow : W.ownsRow B e k v n xs) (hg : W.grownBy w' v.ownBlock) : KT (fun t => t ≠ e) W w' := fun j cur t fz hj ht => by
  have hlt : j < W.heap.size := by
    rcases Nat.lt_or_ge j W.heap.size with h | h
    · exact h
    · rw [Array.getElem?_eq_none h] at hj; cases hj
  rw [hg.block j hlt (fun e => ?_), hj]
  obtain ⟨_, ⟨rfl, _⟩ | ⟨g, cap, cur', rfl, _, hg', _⟩⟩ := hrow
  · simp [Value.ownBlock] at e
  · simp only [Value.ownBlock, Option.some.injEq] at e
    subst e
    rw [hj] at hg'
    injection hg' with hg'
    injection hg' with _ ht2 _
    exact ht ht2
theorem nextL_bad {l : List UInt8} {c : Int} (h : nextL l = .bad c) : (c != 0) = true := by
  unfold nextL at h
  split at h
  · injection h with h; subst h; rfl
  · split at h
    · injection h with h; subst h; rfl
    · split at h
      · injection h with h; subst h; rfl
      · split at h
        · injection h with h; subst h; rfl
        · cases h
theorem nextL_ok {l : List UInt8} {k : UInt8} {p : List UInt8} (h : nextL l = .ok k p) : 9 + p.length ≤ l.length ∧ p.length ≤ 1048576 := by
  unfold nextL at h
  split at h
  · cases h
  · split at h
    · cases h
    · split at h
      · cases h
      · split at h
        · cases h
        · injection h with _ hp
          subst hp
          simp
          omega
theorem Own.kt {S : TypeId → Prop} {B : Nat} {w w' : World} {v : Value} {l : List UInt8} (h : Own B w v l) (hk : KT S w w') (h1 : S 5) : Own B w' v l := row_kt h hk h1
theorem cell_below {w w' : World} {a : Addr} {c : Value} (h : w.cell? a = some c) (hb : Below w.heap.size w w') : w'.cell? a = some c := Lib.Below.cellOf hb h (Nat.le_refl _)
/-- A segment's seven fields lie in block g. -/
def SegAt (w : World) (g : Nat) (c0 c1 c2 c3 c4 c5 c6 : Value) : Prop := w.heap[g]? = some (Obj.cells #[c0, c1, c2, c3, c4, c5, c6] 30 (0, 0))
theorem SegAt.kt {S : TypeId → Prop} {w w' : World} {g : Nat} {c0 c1 c2 c3 c4 c5 c6 : Value} (h : SegAt w g c0 c1 c2 c3 c4 c5 c6) (hk : KT S w w') (hs : S 30) : SegAt w' g c0 c1 c2 c3 c4 c5 c6 := hk _ _ _ _ h hs
theorem SegAt.below {w w' : World} {g : Nat} {c0 c1 c2 c3 c4 c5 c6 : Value} (h : SegAt w g c0 c1 c2 c3 c4 c5 c6) (hb : Below w.heap.size w w') : SegAt w' g c0 c1 c2 c3 c4 c5 c6 := h.kt (S := fun _ => True) (KT.below hb) trivial
theorem SegAt.cell {w : World} {g : Nat} {c0 c1 c2 c3 c4 c5 c6 : Value} (h : SegAt w g c0 c1 c2 c3 c4 c5 c6) (i : Nat) : w.cell? ⟨g, i, none⟩ = #[c0, c1, c2, c3, c4, c5, c6][i]? := cell_of_row w g i _ 30 (0, 0) h
theorem SegAt.free {w : World} {g : Nat} {c0 c1 c2 c3 c4 c5 c6 : Value} (h : SegAt w g c0 c1 c2 c3 c4 c5 c6) (i : Nat) : w.frozen? ⟨g, i, none⟩ = false := frozen_of_row w g i _ 30 h
theorem SegAt.set {w : World} {g : Nat} {c0 c1 c2 c3 c4 c5 c6 : Value} (h : SegAt w g c0 c1 c2 c3 c4 c5 c6) (i : Nat) (u : Value) : (w.setCell ⟨g, i, none⟩ u).heap[g]? = some (Obj.cells (#[c0, c1, c2, c3, c4, c5, c6].setIfInBounds i u) 30 (0, 0)) := heap_setCell_same w g i _ 30 u h
/-- All blocks below N but g are as they were. -/
def KX (N g : Nat) (w w' : World) : Prop := ∀ k, k < N → k ≠ g → w'.heap[k]? = w.heap[k]?
theorem KX.trans {N g : Nat} {a b c : World} (h : KX N g a b) (k : KX N g b c) : KX N g a c := fun j hj hg => (k j hj hg).trans (h j hj hg)
theorem KX.below {N g : Nat} {a b : World} (h : Below a.heap.size a b) (hN : N ≤ a.heap.size) : KX N g a b := fun j hj _ => h.block j (by omega)
theorem KX.kb {N g g' : Nat} {a b : World} (h : PK.KB g' a b) (hN : N ≤ a.heap.size) (hg : N ≤ g') : KX N g a b := fun j hj _ => h.2.2.2.2 j (by omega) (by omega)
theorem KX.set {N g : Nat} (w : World) (o : Nat) (u : Value) : KX N g w (w.setCell ⟨g, o, none⟩ u) := fun _ _ hg => Below.heap_setCell _ _ _ _ hg
theorem KX.kt {g : Nat} {w w' : World} {c0 c1 c2 c3 c4 c5 c6 : Value} (h : KX w.heap.size g w w') (hS : SegAt w g c0 c1 c2 c3 c4 c5 c6) : KT (fun t => t ≠ 30) w w' := fun k cur t fz hk ht => by
  have hlt : k < w.heap.size := by
    rcases Nat.lt_or_ge k w.heap.size with h | h
    · exact h
    · rw [Array.getElem?_eq_none h] at hk; cases hk
  rw [h k hlt (fun e => ?_), hk]
  subst e
  unfold SegAt at hS
  rw [hk] at hS
  injection hS with hS
  injection hS with _ h2 _
  exact ht h2
theorem kb_below {B g : Nat} {w0 a b : World} (h : Below B w0 a) (k : PK.KB g a b) (hB : B ≤ a.heap.size) (hg : B ≤ g) : Below B w0 b := h.trans (k.below hg hB)
theorem SegAt.kb {w w' : World} {g g' : Nat} {c0 c1 c2 c3 c4 c5 c6 : Value} (h : SegAt w g c0 c1 c2 c3 c4 c5 c6) (k : PK.KB g' w w') (hg : g ≠ g') : SegAt w' g c0 c1 c2 c3 c4 c5 c6 := by
  have hlt : g < w.heap.size := by
    rcases Nat.lt_or_ge g w.heap.size with h2 | h2
    · exact h2
    · unfold SegAt at h; rw [Array.getElem?_eq_none h2] at h; cases h
  unfold SegAt at h ⊢
  rw [k.2.2.2.2 g hlt hg]
  exact h
/-- The payload of the frame at a place, if that is of this kind. -/
def takeL (l : List UInt8) (sz : Nat) (k : UInt8) : Option (List UInt8) :=
  match nextL (l.drop sz) with
  | .ok k' p => if k' = k then some p else none
  | .bad _ => none
/-- What a call of take leaves. -/
def TK (w0 w : World) (g : Nat) (c0 c1 c2 c3 c4 c6 : Value) (sz : Nat) (r : Option (List UInt8)) (e : Ending) (w' : World) : Prop :=
  Below w0.heap.size w0 w' ∧ KX w.heap.size g w w' ∧ w.heap.size ≤ w'.heap.size ∧
  match r with
  | none => e = .returned (.tuple #[.slice none 0 0, .bool false]) ∧ SegAt w' g c0 c1 c2 c3 c4 (.int .i64 (sz : Int)) c6
  | some p => ∃ x, e = .returned (.tuple #[x, .bool true]) ∧ Own w.heap.size w' x p ∧ SegAt w' g c0 c1 c2 c3 c4 (.int .i64 ((sz + (9 + p.length) : Nat) : Int)) c6
set_option maxHeartbeats 1000000 in
set_option maxRecDepth 100000 in
theorem take_calls (w0 w : World) (g : Nat) (c0 c1 c2 c3 c4 c6 : Value) (sz : Nat) (v : Value) (l : List UInt8) (k : UInt8) (hS : SegAt w g c0 c1 c2 c3 c4 (.int .i64 (sz : Int)) c6) (hv : Hb w0 v l) (ht : Tb w0) (hb : Below w0.heap.size w0 w) (hg : w0.heap.size ≤ g) (hsz : sz ≤ l.length) (hl : l.length ≤ 1000000000) :
    Calls Tryd.prog 32 #[.pointer (some ⟨g, 0, none⟩), v, .int .i64 (k.toNat : Int)] w (TK w0 w g c0 c1 c2 c3 c4 c6 sz (takeL l sz k)) := by
  have k5 : w.cell? ⟨g, 5, none⟩ = some (.int .i64 (sz : Int)) := by rw [hS.cell 5]; rfl
  have HS : Hid (SegAt w g c0 c1 c2 c3 c4 (.int .i64 (sz : Int)) c6) := hS
  have HB : Hid (Below w0.heap.size w0 w) := hb
  have HG : Hid (w0.heap.size ≤ g) := hg
  obtain ⟨vr, er, qr⟩ := cut_l sz hv hsz
  have NC : Hid (Calls Tryd.prog 57 #[vr] w (NX w (nextL (l.drop sz)))) := next_calls vr (l.drop sz) w (qr w (hv.below hb)) (ht.below hb) (by simp; omega)
  have HL : Hid (sz ≤ l.length ∧ l.length ≤ 1000000000) := ⟨hsz, hl⟩
  have hszb : (sz : Int) ≤ 1000000000 := by omega
  obtain ⟨va, vn, vc, rfl⟩ := hv.shape
  have hkb : (k.toNat : Int) < 256 := by have := k.toNat_lt; omega
  clear hS hb hg qr hv ht hsz hl
  go_enter Tryd.func32, Tryd.ntmps32
  go_wp2_with fail
  refine NC.out.mono ?_
  intro e w1 hN
  cases hn : nextL (l.drop sz) with
  | bad cd =>
    rw [hn] at hN
    obtain ⟨rfl, hb1⟩ := hN
    have HT : Hid (takeL l sz k = none) := by show _ = _; unfold takeL; rw [hn]
    have hcd : (cd != 0) = true := nextL_bad hn
    have B1 : Hid (Below w.heap.size w (w1.alloc (.cells #[.int .i64 0, .slice none 0 0] 57))) := hb1.alloc hb1.size _
    clear hb1 hn
    go_wp2_with fail
    go_ret2
    rw [HT.out]
    exact ⟨HB.out.trans (B1.out.mono HB.out.size), KX.below B1.out (Nat.le_refl _), B1.out.size, rfl, HS.out.below B1.out⟩
  | ok k' p =>
    rw [hn] at hN
    obtain ⟨x, rfl, hx, hb1⟩ := hN
    have hok := nextL_ok hn
    obtain ⟨xa, xn, xc, rfl⟩ := hx.hb.shape
    obtain ⟨m, hm⟩ : ∃ m, m = 9 + p.length := ⟨_, rfl⟩
    rw [← hm]
    have hmb : (m : Int) ≤ 1048585 := by omega
    have hne : ((k'.toNat : Int) != (k.toNat : Int)) = !decide (k' = k) := by
      by_cases h : k' = k
      · subst h; simp
      · have h2 : ¬ (k'.toNat : Int) = (k.toNat : Int) := fun e => h (UInt8.toNat_inj.mp (by omega))
        simp only [bne, h, decide_false, Bool.not_false, beq_eq_false_iff_ne.mpr h2]
    have B1 : Hid (Below w.heap.size w (w1.alloc (.cells #[.int .i64 (k'.toNat : Int), .slice xa xn xc] 57))) := hb1.alloc hb1.size _
    have O1 : Hid (Own w.heap.size (w1.alloc (.cells #[.int .i64 (k'.toNat : Int), .slice xa xn xc] 57)) (.slice xa xn xc) p) := hx.below (below_alloc w1 _)
    have S1 := HS.out.below B1.out
    have HS1 : Hid (SegAt (w1.alloc (.cells #[.int .i64 (k'.toNat : Int), .slice xa xn xc] 57)) g c0 c1 c2 c3 c4 (.int .i64 (sz : Int)) c6) := S1
    have s5 : (w1.alloc (.cells #[.int .i64 (k'.toNat : Int), .slice xa xn xc] 57)).cell? ⟨g, 5, none⟩ = some (.int .i64 (sz : Int)) := by rw [S1.cell 5]; rfl
    have f5 : (w1.alloc (.cells #[.int .i64 (k'.toNat : Int), .slice xa xn xc] 57)).frozen? ⟨g, 5, none⟩ = false := S1.free 5
    have hgw : g < w.heap.size := World.block_lt_of_cell? w _ k5
    have hgn : g ≠ w1.heap.size := by have := hb1.size; omega
    have p1 : ∀ u, ((w1.alloc (.cells #[.int .i64 (k'.toNat : Int), .slice xa xn xc] 57)).setCell ⟨g, 5, none⟩ u).cell? ⟨w1.heap.size, 1, none⟩ = some (.slice xa xn xc) := fun u => by
      rw [World.cell?_setCell_other _ _ _ _ (fun e => hgn (by injection e))]
      exact box21 w1 _ _
    by_cases hkk : k' = k
    · subst hkk
      have HT : Hid (takeL l sz k' = some p) := by show _ = _; unfold takeL; rw [hn]; simp
      have hne2 : ((k'.toNat : Int) != (k'.toNat : Int)) = false := by simp
      have HM : Hid (m = 9 + p.length) := hm
      clear hm hne hn hx hb1 S1 hok hgw
      go_wp2_with fail
      go_ret2
      rw [HT.out]
      have K2 := KT.set HS1.out 5 (.int .i64 ((sz : Int) + (m : Int)))
      refine ⟨?_, (KX.below B1.out (Nat.le_refl _)).trans (KX.set _ _ _), ?_, .slice xa xn xc, rfl, O1.out.kt K2 (by decide), ?_⟩
      · exact (HB.out.trans (B1.out.mono HB.out.size)).setCell (p := ⟨g, _, none⟩) HG.out _
      · have := B1.out.size; simpa using this
      · have := HS1.out.set 5 (.int .i64 ((sz : Int) + (m : Int)))
        rw [← HM.out, Int.natCast_add]
        exact this
    · have HT : Hid (takeL l sz k = none) := by show _ = _; unfold takeL; rw [hn]; simp [hkk]
      rw [decide_eq_false hkk, Bool.not_false] at hne
      clear hm hn hx hb1 S1 hok hgw hkk
      go_wp2_with fail
      go_ret2
      rw [HT.out]
      exact ⟨HB.out.trans (B1.out.mono HB.out.size), KX.below B1.out (Nat.le_refl _), B1.out.size, rfl, HS.out.below B1.out⟩
end Go.Proofs.YthakbkkopneilaaDoor
