/- The walk of write, of the closures of Decode. -/
import Derived.Test.YtomkoajhjijplaaDB
import Derived.Test.YtomkoajhjijplaaBC
namespace Go.Proofs.Ytomkoajhjijplaa
open Go.ChangeShapes Go.WideShapes Go.ChangeAt Go.RowKit
/-- v is the list of bytes ls, in blocks from lo on. -/
def LRn (lo : Nat) (W : World) (v : Value) (ls : List (List UInt8)) : Prop :=
  ∃ q c, v = .slice (some ⟨q, 0, none⟩) ls.length c ∧ lo ≤ q ∧ ls.length ≤ 500 ∧ ∀ (i : Nat) p, ls[i]? = some p → ∃ x, W.cell? ⟨q, i, none⟩ = some x ∧ Hn lo W x p
theorem LRn.k2 {lo g B : Nat} {W W' : World} {v : Value} {ls : List (List UInt8)} (h : LRn lo W v ls) (k : K2 g B W W') (h1 : g < lo) (h2 : B < lo) : LRn lo W' v ls := by
  obtain ⟨q, c, rfl, hl, hs, hr⟩ := h
  refine ⟨q, c, rfl, hl, hs, fun i p hp => ?_⟩
  obtain ⟨x, hx, hn⟩ := hr i p hp
  have hlt := World.block_lt_of_cell? W ⟨q, i, none⟩ hx
  exact ⟨x, (World.cell?_of_block (w := W) (a := ⟨q, i, none⟩) (k.2.2.2.2 q hlt (by omega) (by omega))).trans hx, hn.k2 k h1 h2⟩
theorem LRn.lr {lo : Nat} {W : World} {v : Value} {ls : List (List UInt8)} (h : LRn lo W v ls) : LR W v ls := by
  obtain ⟨q, c, rfl, hl, hs, hr⟩ := h
  refine ⟨_, c, rfl, by omega, fun i p hp => ?_⟩
  obtain ⟨x, hx, nb, n, c', rfl, _, hh⟩ := hr i p hp
  exact ⟨q, 0, _, rfl, by rw [Nat.zero_add]; exact hx, hh⟩
theorem LRn.lower {lo lo' : Nat} {W : World} {v : Value} {ls : List (List UInt8)} (h : LRn lo W v ls) (hl : lo' ≤ lo) : LRn lo' W v ls := by
  obtain ⟨q, c, rfl, h1, hs, hr⟩ := h
  refine ⟨q, c, rfl, by omega, hs, fun i p hp => ?_⟩
  obtain ⟨x, hx, hn⟩ := hr i p hp
  exact ⟨x, hx, hn.lower hl⟩
/-- What reading so many events leaves; what reading a write leaves. -/
def rdE : Nat → List UInt8 → Int → List (List UInt8) × List UInt8 × Int
  | 0, l, e => ([], l, e)
  | n + 1, l, e => ((sText 4096 l e).1 :: (rdE n (sText 4096 l e).2.1 (sText 4096 l e).2.2).1, (rdE n (sText 4096 l e).2.1 (sText 4096 l e).2.2).2)
def r1 (l : List UInt8) (e : Int) := sText 64 l e
def r2 (l : List UInt8) (e : Int) := sText 64 (r1 l e).2.1 (r1 l e).2.2
def r3 (l : List UInt8) (e : Int) := sNum 120 (r2 l e).2.1 (r2 l e).2.2
def r4 (l : List UInt8) (e : Int) := sNum 120 (r3 l e).2.1 (r3 l e).2.2
def r5 (l : List UInt8) (e : Int) := sNum 120 (r4 l e).2.1 (r4 l e).2.2
def rdW (l : List UInt8) (e : Int) : Wt × List UInt8 × Int :=
  (⟨str (r1 l e).1, str (r2 l e).1, (r3 l e).1, (r4 l e).1, (rdE (r5 l e).1.toNat (r5 l e).2.1 (r5 l e).2.2).1⟩, (rdE (r5 l e).1.toNat (r5 l e).2.1 (r5 l e).2.2).2)
theorem rdE_len : ∀ (n : Nat) (l : List UInt8) (e : Int), (rdE n l e).1.length = n
  | 0, l, e => rfl
  | n + 1, l, e => by
    show (_ :: (rdE n _ _).1).length = n + 1
    rw [List.length_cons, rdE_len n]
/-- Where the walk of write stands. -/
structure DK (W0 W : World) (g h gv B p : Nat) (tp : TypeId) (cs : Array Value) (t : TypeId) (l : List UInt8) (e : Int) : Prop where
  bx : Bx W W0.heap.size (.func (.func 29) #[] #[.pointer (some ⟨gv, 0, none⟩)]) (.func (.func 31) #[] #[.pointer (some ⟨gv, 0, none⟩)]) (.func (.func 33) #[] #[.pointer (some ⟨gv, 0, none⟩)]) (.func (.func 34) #[] #[.pointer (some ⟨gv, 0, none⟩)]) ⟨B, p, none⟩ tp
  jd : JD g h gv l e W
  bk : Bk W B cs t
  k2 : K2 g B W0 W
  gq : g < W0.heap.size
  bq : B < W0.heap.size
theorem Bx.k2 {g B : Nat} {W W' : World} {q : Nat} {f0 f1 f2 f3 : Value} {a : Addr} {t : TypeId} (h : Bx W q f0 f1 f2 f3 a t) (k : K2 g B W W') (h1 : q ≠ g) (h2 : q ≠ B) (h3 : q + 1 ≠ g) (h4 : q + 1 ≠ B) : Bx W' q f0 f1 f2 f3 a t := ⟨h.f.k2 k h1 h2, h.p.k2 k h3 h4⟩
theorem DK.step {W0 W W' : World} {g h gv B p : Nat} {tp t : TypeId} {cs cs' : Array Value} {l l' : List UInt8} {e e' : Int} {x : Ending} (d : DK W0 W g h gv B p tp cs t l e) (q : DP g h gv B cs' t l' e' W x W') : DK W0 W' g h gv B p tp cs' t l' e' := by
  obtain ⟨_, j, b, k⟩ := q
  have h1 := d.gq
  have h2 := d.bq
  exact ⟨d.bx.k2 k (by omega) (by omega) (by omega) (by omega), j, b, d.k2.trans k, h1, h2⟩
theorem DK.drew {W0 W : World} {g h gv B p : Nat} {tp t : TypeId} {cs : Array Value} {l : List UInt8} {e : Int} (d : DK W0 W g h gv B p tp cs t l e) : DK W0 W.drew g h gv B p tp cs t l e :=
  d.step (x := .returned (.tuple #[])) ⟨rfl, d.jd.below (Below.refl _ W).drew, d.bk.below (Below.refl _ W).drew, K2.of_below (Below.refl _ W).drew⟩
theorem DK.new {W : World} {g h gv B p : Nat} (tp : TypeId) {t : TypeId} {cs : Array Value} {l : List UInt8} {e : Int} (j : JD g h gv l e W) (b : Bk W B cs t) : DK W ((W.alloc (.cells #[.func (.func 29) #[] #[.pointer (some ⟨gv, 0, none⟩)], .func (.func 31) #[] #[.pointer (some ⟨gv, 0, none⟩)], .func (.func 33) #[] #[.pointer (some ⟨gv, 0, none⟩)], .func (.func 34) #[] #[.pointer (some ⟨gv, 0, none⟩)]] 55)).alloc (.cells #[.pointer (some ⟨B, p, none⟩)] tp)) g h gv B p tp cs t l e :=
  ⟨Bx.new W _ _ _ _ _ _, j.below (bel2 (bel1 _ _) (bel1 _ _)), b.below (bel2 (bel1 _ _) (bel1 _ _)), K2.of_below (bel2 (bel1 _ _) (bel1 _ _)), j.st.lt, b.lt⟩
/-- A write's five cells. -/
def w5 (cs : Array Value) (p : Nat) (t : Wt) (ev : Value) : Array Value := ((((cs.setIfInBounds p (.string t.br)).setIfInBounds (p + 1) (.string t.fk)).setIfInBounds (p + 2) (.int .i64 t.kp)).setIfInBounds (p + 3) (.int .i64 t.ta)).setIfInBounds (p + 4) ev
/-- The events' list while it is filled. -/
structure EvI (W0 W : World) (q N j : Nat) (acc : List (List UInt8)) : Prop where
  new : W0.heap.size + 2 ≤ q
  bk : ∃ ces, Bk W q ces 22 ∧ ces.size = N ∧ ∀ (i : Nat) p, acc[i]? = some p → ∃ x, ces[i]? = some x ∧ Hn (q + 1) W x p
  len : acc.length = j
theorem EvI.more {W0 W W' : World} {g q N j : Nat} {acc : List (List UInt8)} {ces : Array Value} {v : Value} {y : List UInt8} (new : W0.heap.size + 2 ≤ q) (gq : g < W0.heap.size) (hs : ces.size = N) (hr : ∀ (i : Nat) p, acc[i]? = some p → ∃ x, ces[i]? = some x ∧ Hn (q + 1) W x p) (hl : acc.length = j) (hj : j < N) (k : K2 g q W W') (hv : Hn (q + 1) W' v y) (hb : Bk W' q (ces.setIfInBounds j v) 22) : EvI W0 W' q N (j + 1) (acc ++ [y]) := by
  refine ⟨new, ⟨_, hb, by rw [Array.size_setIfInBounds]; exact hs, fun i p hp => ?_⟩, by rw [List.length_append, hl]; rfl⟩
  by_cases hi : i < acc.length
  · rw [List.getElem?_append_left hi] at hp
    obtain ⟨x, hx, hn⟩ := hr i p hp
    exact ⟨x, by rw [Array.getElem?_setIfInBounds_ne (by omega)]; exact hx, hn.k2 k (by omega) (by omega)⟩
  · have hi2 : i = acc.length := by
      have := (List.getElem?_eq_some_iff.1 hp).1
      simp at this
      omega
    subst hi2
    rw [List.getElem?_append_right (Nat.le_refl _)] at hp
    simp at hp
    subst hp
    exact ⟨v, by rw [hl]; rw [Array.getElem?_setIfInBounds_self_of_lt (by omega)], hv⟩
theorem EvI.lrn {W0 W : World} {q N : Nat} {acc : List (List UInt8)} (h : EvI W0 W q N N acc) (hN : N ≤ 500) : LRn W0.heap.size W (.slice (some ⟨q, 0, none⟩) N N) acc := by
  obtain ⟨hq, ⟨ces, hb, hs, hr⟩, hl⟩ := h
  refine ⟨q, N, by rw [hl], by omega, by omega, fun i y hy => ?_⟩
  obtain ⟨x, hx, hn⟩ := hr i y hy
  exact ⟨x, (hb.cell i).trans hx, hn.lower (by omega)⟩
theorem DK.stepE {W0 W W' : World} {g h gv B p qe : Nat} {tp t : TypeId} {cs ces : Array Value} {l l' : List UInt8} {e e' : Int} {x : Ending} (d : DK W0 W g h gv B p tp cs t l e) (hB : B ≠ g) (hq : W0.heap.size + 2 ≤ qe) (q : DP g h gv qe ces 22 l' e' W x W') : DK W0 W' g h gv B p tp cs t l' e' := by
  obtain ⟨_, j, b, k⟩ := q
  have h1 := d.gq
  have h2 := d.bq
  exact ⟨d.bx.k2 k (by omega) (by omega) (by omega) (by omega), j, d.bk.k2 k hB (by omega), d.k2.turn k (by omega), h1, h2⟩
theorem rdE_more (n : Nat) (l : List UInt8) (e : Int) (acc : List (List UInt8)) : (acc ++ (rdE (n + 1) l e).1, (rdE (n + 1) l e).2) = ((acc ++ [(sText 4096 l e).1]) ++ (rdE n (sText 4096 l e).2.1 (sText 4096 l e).2.2).1, (rdE n (sText 4096 l e).2.1 (sText 4096 l e).2.2).2) := by
  simp [rdE]
/-- What the walk of write leaves. -/
def DWP (g h gv B p : Nat) (cs : Array Value) (l : List UInt8) (e : Int) (W : World) (x : Ending) (W' : World) : Prop :=
  x = .returned (.tuple #[]) ∧ ∃ ev, Bk W' B (w5 cs p (rdW l e).1 ev) 42 ∧ LRn W.heap.size W' ev (rdW l e).1.ev ∧ JD g h gv (rdW l e).2.1 (rdW l e).2.2 W' ∧ K2 g B W W'
set_option maxHeartbeats 4000000 in
set_option maxRecDepth 100000 in
theorem dwrite_walk (g h gv B p : Nat) (cs : Array Value) (l : List UInt8) (e : Int) (W : World) (j : JD g h gv l e W) (a : Apart g h gv B) (hb : Bk W B cs 42) (hs : p + 5 ≤ cs.size) (h4 : cs[p + 4]? = some (.slice none 0 0)) :
    Calls Try.prog 55 #[.agg #[.func (.func 29) #[] #[.pointer (some ⟨gv, 0, none⟩)], .func (.func 31) #[] #[.pointer (some ⟨gv, 0, none⟩)], .func (.func 33) #[] #[.pointer (some ⟨gv, 0, none⟩)], .func (.func 34) #[] #[.pointer (some ⟨gv, 0, none⟩)]], .pointer (some ⟨B, p, none⟩)] W (DWP g h gv B p cs l e W) := by
  have HA : Hid (Apart g h gv B) := a
  have HS : Hid (p + 5 ≤ cs.size ∧ cs[p + 4]? = some (.slice none 0 0)) := ⟨hs, h4⟩
  have HH : Hid (h < W.heap.size ∧ gv < W.heap.size) := ⟨j.hlt, j.var.lt⟩
  have K0' : Hid (DK W ((W.alloc (.cells #[.func (.func 29) #[] #[.pointer (some ⟨gv, 0, none⟩)], .func (.func 31) #[] #[.pointer (some ⟨gv, 0, none⟩)], .func (.func 33) #[] #[.pointer (some ⟨gv, 0, none⟩)], .func (.func 34) #[] #[.pointer (some ⟨gv, 0, none⟩)]] 55)).alloc (.cells #[.pointer (some ⟨B, p, none⟩)] 74)) g h gv B p 74 cs 42 l e) := DK.new 74 j hb
  have HZ' : Hid (W.heap.size + 2 ≤ ((W.alloc (.cells #[.func (.func 29) #[] #[.pointer (some ⟨gv, 0, none⟩)], .func (.func 31) #[] #[.pointer (some ⟨gv, 0, none⟩)], .func (.func 33) #[] #[.pointer (some ⟨gv, 0, none⟩)], .func (.func 34) #[] #[.pointer (some ⟨gv, 0, none⟩)]] 55)).alloc (.cells #[.pointer (some ⟨B, p, none⟩)] 74)).heap.size) := by show _ ≤ _; simp
  clear j a hb hs h4
  go_enter Try.func55, Try.ntmps55
  go_wp2_with fail
  generalize hW1 : (W.alloc (Obj.cells #[.func (.func 29) #[] #[.pointer (some ⟨gv, 0, none⟩)], .func (.func 31) #[] #[.pointer (some ⟨gv, 0, none⟩)], .func (.func 33) #[] #[.pointer (some ⟨gv, 0, none⟩)], .func (.func 34) #[] #[.pointer (some ⟨gv, 0, none⟩)]] 55)).alloc (Obj.cells #[.pointer (some ⟨B, p, none⟩)] 74) = W1
  have K0 : Hid (DK W W1 g h gv B p 74 cs 42 l e) := by rw [← hW1]; exact K0'.out
  have HZ : Hid (W.heap.size + 2 ≤ W1.heap.size) := by rw [← hW1]; exact HZ'.out
  clear hW1 K0' HZ'
  obtain ⟨b00, b01, b02, b03, b04⟩ := K0.out.bx.cells
  have D0 : Hid (DK W W1.drew g h gv B p 74 _ 42 _ _) := K0.out.drew
  go_region_held3 (fun w' => w'.cell? ⟨W.heap.size, 1, none⟩ = some (.func (.func 31) #[] #[.pointer (some ⟨gv, 0, none⟩)]) ∧ w'.cell? ⟨W.heap.size + 1, 0, none⟩ = some (.pointer (some ⟨B, p, none⟩))) (go_keep) (first
    | (go_at_call 31; refine (dtext_calls g h gv B p cs 42 l e _ _ _ D0.out.jd HA.out D0.out.bk (by have := HS.out.1; omega)).mono ?_; intro xx w1 hq; have K1 : Hid (DK W w1 g h gv B p 74 (cs.setIfInBounds p (.string (str (r1 l e).1))) 42 (r1 l e).2.1 (r1 l e).2.2) := D0.out.step hq; obtain ⟨rfl, _, _, _⟩ := hq; obtain ⟨b10, b11, b12, b13, b14⟩ := K1.out.bx.cells)
    )
  clear b00 b01 b02 b03 b04 b10 b11 b12 b13 b14 D0
  go_wp2_with fail
  obtain ⟨b10, b11, b12, b13, b14⟩ := K1.out.bx.cells
  have D1 : Hid (DK W w1.drew g h gv B p 74 _ 42 _ _) := K1.out.drew
  go_region_held3 (fun w' => w'.cell? ⟨W.heap.size, 1, none⟩ = some (.func (.func 31) #[] #[.pointer (some ⟨gv, 0, none⟩)]) ∧ w'.cell? ⟨W.heap.size + 1, 0, none⟩ = some (.pointer (some ⟨B, p, none⟩))) (go_keep) (first
    | (go_at_call 31; refine (dtext_calls g h gv B (p + 1) _ 42 _ _ _ _ _ D1.out.jd HA.out D1.out.bk (by simp only [Array.size_setIfInBounds]; have := HS.out.1; omega)).mono ?_; intro xx w2 hq; have K2 : Hid (DK W w2 g h gv B p 74 ((cs.setIfInBounds p (.string (str (r1 l e).1))).setIfInBounds (p + 1) (.string (str (r2 l e).1))) 42 (r2 l e).2.1 (r2 l e).2.2) := D1.out.step hq; obtain ⟨rfl, _, _, _⟩ := hq; obtain ⟨b20, b21, b22, b23, b24⟩ := K2.out.bx.cells)
    )
  clear b10 b11 b12 b13 b14 b20 b21 b22 b23 b24 D1
  go_wp2_with fail
  obtain ⟨b20, b21, b22, b23, b24⟩ := K2.out.bx.cells
  have D2 : Hid (DK W w2.drew g h gv B p 74 _ 42 _ _) := K2.out.drew
  go_region_held3 (fun w' => w'.cell? ⟨W.heap.size, 0, none⟩ = some (.func (.func 29) #[] #[.pointer (some ⟨gv, 0, none⟩)]) ∧ w'.cell? ⟨W.heap.size + 1, 0, none⟩ = some (.pointer (some ⟨B, p, none⟩))) (go_keep) (first
    | (go_at_call 29; refine (dnum_calls g h gv B (p + 2) _ 42 _ _ _ _ D2.out.jd HA.out D2.out.bk (by simp only [Array.size_setIfInBounds]; have := HS.out.1; omega)).mono ?_; intro xx w3 hq; have K3 : Hid (DK W w3 g h gv B p 74 (((cs.setIfInBounds p (.string (str (r1 l e).1))).setIfInBounds (p + 1) (.string (str (r2 l e).1))).setIfInBounds (p + 2) (.int .i64 (r3 l e).1)) 42 (r3 l e).2.1 (r3 l e).2.2) := D2.out.step hq; obtain ⟨rfl, _, _, _⟩ := hq; obtain ⟨b30, b31, b32, b33, b34⟩ := K3.out.bx.cells)
    )
  clear b20 b21 b22 b23 b24 b30 b31 b32 b33 b34 D2
  go_wp2_with fail
  obtain ⟨b30, b31, b32, b33, b34⟩ := K3.out.bx.cells
  have D3 : Hid (DK W w3.drew g h gv B p 74 _ 42 _ _) := K3.out.drew
  go_region_held3 (fun w' => w'.cell? ⟨W.heap.size, 0, none⟩ = some (.func (.func 29) #[] #[.pointer (some ⟨gv, 0, none⟩)]) ∧ w'.cell? ⟨W.heap.size + 1, 0, none⟩ = some (.pointer (some ⟨B, p, none⟩))) (go_keep) (first
    | (go_at_call 29; refine (dnum_calls g h gv B (p + 3) _ 42 _ _ _ _ D3.out.jd HA.out D3.out.bk (by simp only [Array.size_setIfInBounds]; have := HS.out.1; omega)).mono ?_; intro xx w4 hq; have K4 : Hid (DK W w4 g h gv B p 74 ((((cs.setIfInBounds p (.string (str (r1 l e).1))).setIfInBounds (p + 1) (.string (str (r2 l e).1))).setIfInBounds (p + 2) (.int .i64 (r3 l e).1)).setIfInBounds (p + 3) (.int .i64 (r4 l e).1)) 42 (r4 l e).2.1 (r4 l e).2.2) := D3.out.step hq; obtain ⟨rfl, _, _, _⟩ := hq; obtain ⟨b40, b41, b42, b43, b44⟩ := K4.out.bx.cells)
    )
  clear b30 b31 b32 b33 b34 b40 b41 b42 b43 b44 D3
  go_wp2_with fail
  obtain ⟨b40, b41, b42, b43, b44⟩ := K4.out.bx.cells
  have m4 : w4.cell? ⟨B, p + 4, none⟩ = some (Value.slice none 0 0) := by
    rw [K4.out.bk.cell (p + 4), Array.getElem?_setIfInBounds_ne (by omega), Array.getElem?_setIfInBounds_ne (by omega), Array.getElem?_setIfInBounds_ne (by omega), Array.getElem?_setIfInBounds_ne (by omega)]
    exact HS.out.2
  have D4 : Hid (DK W w4.drew g h gv B p 74 _ 42 _ _) := K4.out.drew
  have HZ4 : Hid (W.heap.size + 2 ≤ w4.drew.heap.size) := by have := D4.out.bx.p.lt; show _ ≤ _; omega
  obtain ⟨N, hN⟩ : ∃ N, N = (r5 l e).1.toNat := ⟨_, rfl⟩
  have HN : Hid (N = (r5 l e).1.toNat ∧ N ≤ 120) := ⟨hN, by
    have h1 := num_top (m := 120) (by decide) (r4 l e).2.1 (r4 l e).2.2
    have h2 : (r5 l e).1 ≤ 120 := h1
    omega⟩
  have CT : Hid (Calls Try.prog 34 #[.int .i64 0, .int .i64 120, .func (.func 70) #[] #[.pointer (some ⟨W.heap.size + 1, 0, none⟩)], .pointer (some ⟨gv, 0, none⟩)] w4.drew (fun x W' => ∃ qn, w4.drew.heap.size ≤ qn ∧ Bk W' qn (zeroE N) 22 ∧ DP g h gv B (((((cs.setIfInBounds p (.string (str (r1 l e).1))).setIfInBounds (p + 1) (.string (str (r2 l e).1))).setIfInBounds (p + 2) (.int .i64 (r3 l e).1)).setIfInBounds (p + 3) (.int .i64 (r4 l e).1)).setIfInBounds (p + 4) (.slice (some ⟨qn, 0, none⟩) N N)) 42 (r5 l e).2.1 (r5 l e).2.2 w4.drew x W')) := by
    rw [HN.out.1]
    exact dcountE_calls g h gv (W.heap.size + 1) B p _ _ _ _ 0 120 (by decide) (by decide) D4.out.jd HA.out D4.out.bx.p (by have := D4.out.gq; omega) D4.out.bk (by simp only [Array.size_setIfInBounds]; have := HS.out.1; omega)
  clear hN
  go_cut [] (fun wc => Hid (∃ qn, W.heap.size + 2 ≤ qn ∧ Bk wc qn (zeroE N) 22 ∧ DK W wc g h gv B p 74 (((((cs.setIfInBounds p (.string (str (r1 l e).1))).setIfInBounds (p + 1) (.string (str (r2 l e).1))).setIfInBounds (p + 2) (.int .i64 (r3 l e).1)).setIfInBounds (p + 3) (.int .i64 (r4 l e).1)).setIfInBounds (p + 4) (.slice (some ⟨qn, 0, none⟩) N N)) 42 (r5 l e).2.1 (r5 l e).2.2))
  case first =>
    go_region_with (go_at_call 34; refine CT.out.mono ?_; intro xx w5 hq; have K5 : Hid (∃ qn, W.heap.size + 2 ≤ qn ∧ Bk w5 qn (zeroE N) 22 ∧ DK W w5 g h gv B p 74 (((((cs.setIfInBounds p (.string (str (r1 l e).1))).setIfInBounds (p + 1) (.string (str (r2 l e).1))).setIfInBounds (p + 2) (.int .i64 (r3 l e).1)).setIfInBounds (p + 3) (.int .i64 (r4 l e).1)).setIfInBounds (p + 4) (.slice (some ⟨qn, 0, none⟩) N N)) 42 (r5 l e).2.1 (r5 l e).2.2) := (by obtain ⟨qn, h1, h2, h3⟩ := hq; exact ⟨qn, Nat.le_trans HZ4.out h1, h2, D4.out.step h3⟩); obtain ⟨_, _, _, rfl, _, _, _⟩ := hq)
    all_goals go_wp2_with fail
    all_goals go_meet
    all_goals exact K5
  case rest =>
    obtain ⟨qe, hqe, hbe, hdk⟩ := hcut.out
    have HQE : Hid (W.heap.size + 2 ≤ qe) := hqe
    have K5 : Hid (DK W wc g h gv B p 74 (((((cs.setIfInBounds p (.string (str (r1 l e).1))).setIfInBounds (p + 1) (.string (str (r2 l e).1))).setIfInBounds (p + 2) (.int .i64 (r3 l e).1)).setIfInBounds (p + 3) (.int .i64 (r4 l e).1)).setIfInBounds (p + 4) (.slice (some ⟨qe, 0, none⟩) N N)) 42 (r5 l e).2.1 (r5 l e).2.2) := hdk
    have E5 : Hid (EvI W wc qe N 0 []) := ⟨hqe, ⟨zeroE N, hbe, zeroE_size N, fun i y hy => by simp at hy⟩, rfl⟩
    have HAE : Hid (Apart g h gv qe) := ⟨by have := K5.out.gq; omega, by have := HH.out.1; omega, by have := HH.out.2; omega⟩
    obtain ⟨CS, hCS⟩ : ∃ CS, CS = ((((cs.setIfInBounds p (.string (str (r1 l e).1))).setIfInBounds (p + 1) (.string (str (r2 l e).1))).setIfInBounds (p + 2) (.int .i64 (r3 l e).1)).setIfInBounds (p + 3) (.int .i64 (r4 l e).1)).setIfInBounds (p + 4) (.slice (some ⟨qe, 0, none⟩) N N) := ⟨_, rfl⟩
    have HCS : Hid (CS = w5 cs p (rdW l e).1 (.slice (some ⟨qe, 0, none⟩) N N)) := hCS
    have HC4 : Hid (CS[p + 4]? = some (.slice (some ⟨qe, 0, none⟩) N N)) := by
      show _ = _
      rw [hCS, Array.getElem?_setIfInBounds_self_of_lt (by simp only [Array.size_setIfInBounds]; have := HS.out.1; omega)]
    rw [← hCS] at K5
    have HRd : Hid ((rdW l e).1.ev = (rdE N (r5 l e).2.1 (r5 l e).2.2).1 ∧ (rdW l e).2 = (rdE N (r5 l e).2.1 (r5 l e).2.2).2) := by rw [HN.out.1]; exact ⟨rfl, rfl⟩
    have m5 : wc.cell? ⟨B, p + 4, none⟩ = some (Value.slice (some ⟨qe, 0, none⟩) N N) := (K5.out.bk.cell (p + 4)).trans HC4.out
    obtain ⟨b50, b51, b52, b53, b54⟩ := K5.out.bx.cells
    clear hqe hbe hdk hcut hCS CT D4 m4 b40 b41 b42 b43 b44 K0 K1 K2 K3 K4 HZ HZ4
    have HPost : Hid (∀ x W', DWP g h gv B p cs l e W x W' ↔ x = .returned (.tuple #[]) ∧ ∃ ev, Bk W' B (w5 cs p (rdW l e).1 ev) 42 ∧ LRn W.heap.size W' ev (rdW l e).1.ev ∧ JD g h gv (rdW l e).2.1 (rdW l e).2.2 W' ∧ K2 g B W W') := fun _ _ => Iff.rfl
    generalize (r5 l e).2.1 = l5 at K5 HRd
    generalize (r5 l e).2.2 = e5 at K5 HRd
    go_wp2_with fail
    clear b50 b51 b52 b53 b54 m5
    go_loopw [43] (fun i wr => ∃ (j : Nat) (acc : List (List UInt8)) (lj : List UInt8) (ej : Int), j ≤ N ∧ i = .int .i64 (j : Int) ∧ Hid (DK W wr g h gv B p 74 CS 42 lj ej) ∧ Hid (EvI W wr qe N j acc) ∧ Hid (rdE N l5 e5 = (acc ++ (rdE (N - j) lj ej).1, (rdE (N - j) lj ej).2))) (fun i _ => N - (intOf i).toNat)
    case atStart => exact ⟨0, [], l5, e5, Nat.zero_le _, rfl, K5, E5, (by show _ = _; rw [Nat.sub_zero, List.nil_append])⟩
    case round =>
      obtain ⟨j, acc, lj, ej, hj, rfl, K6, E6, HR6⟩ := hrel
      by_cases hlt : j < N
      · obtain ⟨hq6, ⟨ces, hb6, hs6, hr6⟩, hl6⟩ := E6.out
        have hjl : (j : Int) < (N : Int) := by omega
        have HWr : Hid (wrap64 ((j : Int) + 1) = ((j + 1 : Nat) : Int)) := wr1 hlt (by have := HN.out.2; omega)
        have D6 : Hid (DK W wr.drew g h gv B p 74 CS 42 lj ej) := K6.out.drew
        have BC : Hid (Calls Try.prog 33 #[.pointer (some ⟨qe, j, none⟩), .int .i64 1, .int .i64 4096, .pointer (some ⟨gv, 0, none⟩)] wr.drew _) := dbytes_calls g h gv qe j ces 22 lj ej wr.drew 1 4096 D6.out.jd HAE.out (hb6.below (Below.refl _ wr).drew) (by omega)
        have HNX : Hid (∀ W' v xx, Hn wr.drew.heap.size W' v (sText 4096 lj ej).1 → DP g h gv qe (ces.setIfInBounds j v) 22 (sText 4096 lj ej).2.1 (sText 4096 lj ej).2.2 wr.drew xx W' → EvI W W' qe N (j + 1) (acc ++ [(sText 4096 lj ej).1])) := fun W' v xx hn hd => by
          have hz : qe < wr.heap.size := hb6.lt
          have hz2 : wr.drew.heap.size = wr.heap.size := rfl
          exact EvI.more (W := wr.drew) hq6 D6.out.gq hs6 (fun i y hy => by obtain ⟨x, hx, hn⟩ := hr6 i y hy; exact ⟨x, hx, hn.k2 (g := g) (B := qe) (K2.of_below (Below.refl _ wr).drew) (by have := D6.out.gq; omega) (by omega)⟩) hl6 hlt hd.2.2.2 (hn.lower (by omega)) hd.2.2.1
        have HR7 : Hid (rdE N l5 e5 = ((acc ++ [(sText 4096 lj ej).1]) ++ (rdE (N - (j + 1)) (sText 4096 lj ej).2.1 (sText 4096 lj ej).2.2).1, (rdE (N - (j + 1)) (sText 4096 lj ej).2.1 (sText 4096 lj ej).2.2).2)) := by
          obtain ⟨m, hm⟩ : ∃ m, N - j = m + 1 := ⟨N - j - 1, by omega⟩
          show _ = _
          rw [HR6.out, hm, show N - (j + 1) = m by omega, rdE_more]
        obtain ⟨b60, b61, b62, b63, b64⟩ := K6.out.bx.cells
        have m6 : wr.cell? ⟨B, p + 4, none⟩ = some (Value.slice (some ⟨qe, 0, none⟩) N N) := (K6.out.bk.cell (p + 4)).trans HC4.out
        clear hq6 hb6 hs6 hr6 hl6
        go_wp2_with fail
        go_region_held3 (fun w' => w'.cell? ⟨W.heap.size, 2, none⟩ = some (.func (.func 33) #[] #[.pointer (some ⟨gv, 0, none⟩)]) ∧ w'.cell? ⟨W.heap.size + 1, 0, none⟩ = some (.pointer (some ⟨B, p, none⟩)) ∧ w'.cell? ⟨B, p + 4, none⟩ = some (.slice (some ⟨qe, 0, none⟩) N N)) (go_keep) (first
          | (go_at_call 33; refine BC.out.mono ?_; rintro xx w7 ⟨v7, hn7, hd7⟩; have K7 : Hid (DK W w7 g h gv B p 74 CS 42 _ _) := D6.out.stepE HA.out.a1 HQE.out hd7; have E7 : Hid (EvI W w7 qe N (j + 1) _) := HNX.out w7 v7 xx hn7 hd7; obtain ⟨rfl, _, _, _⟩ := hd7; obtain ⟨b70, b71, b72, b73, b74⟩ := K7.out.bx.cells; have m7 : w7.cell? ⟨B, p + 4, none⟩ = some (Value.slice (some ⟨qe, 0, none⟩) N N) := (K7.out.bk.cell (p + 4)).trans HC4.out)
          )
        go_wp2_with fail
        exact ⟨⟨j + 1, _, _, _, hlt, by rw [HWr.out], K7, E7, HR7⟩, meas hlt HWr.out⟩
      · obtain rfl : j = N := by omega
        go_wp2_with fail
        first | go_end0 | refine bodyPost_ret (results_none rfl _ _ _) rfl ?_
        refine (HPost.out _ _).2 ⟨rfl, .slice (some ⟨qe, 0, none⟩) j j, by rw [← HCS.out]; exact K6.out.bk, ?_, ?_, K6.out.k2⟩
        · have h1 := HR6.out
          rw [Nat.sub_self] at h1
          rw [HRd.out.1, h1]
          show LRn _ _ _ (acc ++ [])
          rw [List.append_nil]
          exact E6.out.lrn (by have := HN.out.2; omega)
        · have h1 := HR6.out
          rw [Nat.sub_self] at h1
          rw [HRd.out.2, h1]
          exact K6.out.jd
end Go.Proofs.Ytomkoajhjijplaa
