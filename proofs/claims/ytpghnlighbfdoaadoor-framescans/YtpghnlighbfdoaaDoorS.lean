/- The walk of FrameReads. -/
import Derived.Test.YtpghnlighbfdoaaDoorR
namespace Go.Proofs.YtpghnlighbfdoaaDoor
open Go.ChangeShapes Go.WideShapes Go.ChangeAt Go.RowKit
def nk : Nx → Int | .bad _ => 0 | .ok k _ => (k.toNat : Int)
def np : Nx → List UInt8 | .bad _ => [] | .ok _ p => p
def nn : Nx → Int | .bad _ => 0 | .ok _ p => ((9 + p.length : Nat) : Int)
def nc : Nx → Int | .bad c => c | .ok _ _ => 0
theorem NX.flat {w : World} {r : Nx} {e : Ending} {w' : World} (h : NX w r e w') : ∃ x, e = .returned (.tuple #[.agg #[.int .i64 (nk r), x], .int .i64 (nn r), .int .i64 (nc r)]) ∧ Hb w' x (np r) ∧ Below w.heap.size w w' := by
  cases r with
  | bad c => exact ⟨_, h.1, Hb.nil _, h.2⟩
  | ok k p => obtain ⟨x, he, hx, hb⟩ := h; exact ⟨x, he, hx.hb, hb⟩
set_option maxHeartbeats 4000000 in
set_option maxRecDepth 100000 in
theorem reads_walk (v : Value) (l : List UInt8) (w : World) (hv : Hb w v l) (hl : l.length ≤ 1000000000) (ht : Tb w) :
    Calls Tryd.prog 4 #[v] w fun e w' => e = .returned (.bool true) ∧ Below w.heap.size w w' := by
  have HT : Hid (∀ W, Below w.heap.size w W → Tb W) := fun W hW => ht.below hW
  have C1 : Hid (∀ W, Below w.heap.size w W → Calls Tryd.prog 12 #[v] W (NX W (nextL l))) := fun W hW => next_calls v l W (hv.below hW) (ht.below hW) (by omega)
  have C2 : Hid (∀ W, Below w.heap.size w W → Calls Tryd.prog 13 #[v] W (NX W (nextL l))) := fun W hW => rnext_calls v l W (hv.below hW) (by omega)
  have C3 : Hid (∀ W, Below w.heap.size w W → Calls Tryd.prog 14 #[v] W (SX W (scanL l))) := fun W hW => scan_calls v l W (hv.below hW) hl (ht.below hW)
  have C4 : Hid (∀ W, Below w.heap.size w W → Calls Tryd.prog 15 #[v] W (SX W (scanL l))) := fun W hW => rscan_calls v l W (hv.below hW) hl
  have HLen : Hid ((scanL l).length ≤ 1000000000) := by show _ ≤ _; have a := wide_ge (scanL l); have b := scanL_wide l; omega
  obtain ⟨r, hr⟩ : ∃ r, r = nextL l := ⟨_, rfl⟩
  rw [← hr] at C1 C2
  obtain ⟨fs, hfs⟩ : ∃ fs, fs = scanL l := ⟨_, rfl⟩
  rw [← hfs] at C3 C4 HLen
  clear hv ht hl hr hfs
  go_enter Tryd.func4, Tryd.ntmps4
  go_wp2_with fail
  refine (C1.out w (Below.refl _ _)).mono ?_
  intro e w1 hN
  obtain ⟨x1, rfl, hx1, hb1⟩ := hN.flat
  have X1 : Hid (Hb w1 x1 (np r)) := hx1
  obtain ⟨a1, n1, c1, rfl⟩ : ∃ a n c, x1 = .slice a n c := by obtain ⟨a, c, h, _⟩ := hx1; exact ⟨_, _, _, h⟩
  have B1 : Hid (Below w.heap.size w w1) := hb1
  clear hN hx1 hb1
  have B1' : Hid (Below w.heap.size w (w1.alloc (.cells #[.int .i64 (nk r), .slice a1 n1 c1] 29))) := B1.out.alloc B1.out.size _
  go_wp2_with fail
  refine (C2.out _ B1'.out).mono ?_
  intro e w2 hN
  obtain ⟨x2, rfl, hx2, hb2⟩ := hN.flat
  have X2 : Hid (Hb w2 x2 (np r)) := hx2
  obtain ⟨a2, n2, c2, rfl⟩ : ∃ a n c, x2 = .slice a n c := by obtain ⟨a, c, h, _⟩ := hx2; exact ⟨_, _, _, h⟩
  have B2 : Hid (Below w.heap.size w w2) := B1'.out.trans (hb2.mono B1'.out.size)
  have Y1 : Hid (Hb w2 (.slice a1 n1 c1) (np r)) := (X1.out.below (below_alloc w1 _)).below hb2
  have k0 : w2.cell? ⟨w1.heap.size, 0, none⟩ = some (.int .i64 (nk r)) := cell_below (bx0 w1 _ _) hb2
  have k1 : w2.cell? ⟨w1.heap.size, 1, none⟩ = some (.slice a1 n1 c1) := cell_below (bx1 w1 _ _) hb2
  have K0 : Hid (w2.cell? ⟨w1.heap.size, 0, none⟩ = _) := k0
  have K1 : Hid (w2.cell? ⟨w1.heap.size, 1, none⟩ = _) := k1
  clear hN hx2 hb2 k0 k1
  have B2' : Hid (Below w.heap.size w (w2.alloc (.cells #[.int .i64 (nk r), .slice a2 n2 c2] 29))) := B2.out.alloc B2.out.size _
  go_wp2_with fail
  refine (C3.out _ B2'.out).mono ?_
  rintro e w3 ⟨v3, rfl, hF3, hb3⟩
  have Bq : Hid (Below w2.heap.size w2 w3) := below_step (below_alloc w2 _) hb3
  have B3 : Hid (Below w.heap.size w w3) := B2'.out.trans (hb3.mono B2'.out.size)
  have F3 : Hid (FR w3 v3 (fs.map fi)) := hF3.fr
  have m0 : w3.cell? ⟨w2.heap.size, 0, none⟩ = some (.int .i64 (nk r)) := cell_below (bx0 w2 _ _) hb3
  have m1 : w3.cell? ⟨w2.heap.size, 1, none⟩ = some (.slice a2 n2 c2) := cell_below (bx1 w2 _ _) hb3
  have M0 : Hid (w3.cell? ⟨w2.heap.size, 0, none⟩ = _) := m0
  have M1 : Hid (w3.cell? ⟨w2.heap.size, 1, none⟩ = _) := m1
  clear hF3 hb3 m0 m1
  go_wp2_with fail
  refine (C4.out _ B3.out).mono ?_
  rintro e w4 ⟨v4, rfl, hF4, hb4⟩
  have B4 : Hid (Below w.heap.size w w4) := B3.out.trans (hb4.mono B3.out.size)
  have F4 : Hid (FR w4 v4 (fs.map fi)) := hF4.fr
  have F5 : Hid (FR w4 v3 (fs.map fi)) := F3.out.below hb4
  have Bq4 : Hid (Below w2.heap.size w2 w4) := below_step Bq.out hb4
  have k0 := cell_below K0.out Bq4.out
  have k1 := cell_below K1.out Bq4.out
  have m0 := cell_below M0.out hb4
  have m1 := cell_below M1.out hb4
  have Z1 : Hid (Hb w4 (.slice a1 n1 c1) (np r)) := Y1.out.below Bq4.out
  have Z2 : Hid (Hb w4 (.slice a2 n2 c2) (np r)) := X2.out.below Bq4.out
  clear hF4 hb4
  go_wp2_with fail
  refine (fsame_calls (nk r) (nk r) _ _ (np r) (np r) w4 Z1.out Z2.out).mono ?_
  rintro e w5 ⟨rfl, hb5⟩
  have es : (nk r == nk r && np r == np r) = true := by simp
  rw [es]
  have B5 : Hid (Below w.heap.size w w5) := B4.out.trans (hb5.mono B4.out.size)
  have G4 : Hid (FR w5 v4 (fs.map fi)) := F4.out.below hb5
  have G5 : Hid (FR w5 v3 (fs.map fi)) := F5.out.below hb5
  clear hb5 k0 k1 m0 m1
  have dM : (nn r == nn r) = true := by simp
  have dE : (nc r == nc r) = true := by simp
  have dW : (((wide fs : Nat) : Int) == ((wide fs : Nat) : Int)) = true := by simp
  go_wp2_with fail
  refine (fequal_calls _ _ (fs.map fi) (fs.map fi) w5 (by have := HLen.out; simp; omega) G5.out G4.out).mono ?_
  rintro e w6 ⟨⟨q, rfl, hq⟩, hb6⟩
  obtain rfl : q = true := hq.2 rfl
  have B6 : Hid (Below w.heap.size w w6) := B5.out.trans (hb6.mono B5.out.size)
  clear hb6 hq
  go_wp2_with fail
  refine (awake_calls w6 (HT.out w6 B6.out)).mono ?_
  rintro e w7 ⟨rfl, hb7⟩
  have B7 : Hid (Below w.heap.size w w7) := B6.out.trans (hb7.mono B6.out.size)
  clear hb7
  go_wp2_with fail
  go_ret
  exact ⟨rfl, B7.out⟩
end Go.Proofs.YtpghnlighbfdoaaDoor
