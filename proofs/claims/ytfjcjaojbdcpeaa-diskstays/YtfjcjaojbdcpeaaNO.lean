/- The state of a whole disk; the contract of Sync. -/
import Derived.Test.YtfjcjaojbdcpeaaNN
import Derived.Test.YtfjcjaojbdcpeaaNJ
namespace Go.Proofs.Ytfjcjaojbdcpeaa
open Go.ChangeShapes Go.WideShapes Go.ChangeAt Go.RowKit Go.Maps
/-- The block where a zone's bytes lie. -/
def blk (a : Option Addr) : Option Nat := a.map (·.block)
theorem blk_own (a : Option Addr) (n c : Nat) : (Value.slice a n c).ownBlock = blk a := by cases a <;> rfl
/-- A disk's zones: the map in block b, the bytes bs k of each zone k, of which the first ss k are sure. All of it lies from lo on. -/
structure Dz (lo : Nat) (w : World) (g b n : Nat) (D : DataW Value) (av : Int → Option Addr) (cv : Int → Nat) (bs : Int → List UInt8) (ss : Int → Int) : Prop where
  zm : Zm w b n D
  hv : Hv D av (fun k => (bs k).length) cv ss
  has : ∀ k, Maps.has D (.int .i64 k) = true ↔ bs k ≠ []
  ints : ∀ k, bs k ≠ [] → 0 ≤ k ∧ k < 40
  own : ∀ k, Own lo w (.slice (av k) (bs k).length (cv k)) (bs k)
  apart : ∀ k k' B, k ≠ k' → blk (av k) = some B → blk (av k') ≠ some B
  ng : ∀ k, blk (av k) ≠ some g
  nb : ∀ k, blk (av k) ≠ some b
  lg : lo ≤ g
  lb : lo ≤ b
  sm : ∀ k, (bs k).length ≤ 16777216
/-- A disk. -/
def Dk (lo : Nat) (w : World) (g : Nat) (room fuse : Int) (dead : Bool) (N : Nat) (bs : Int → List UInt8) (ss : Int → Int) : Prop :=
  ∃ b n D av cv, n ≤ N ∧ Bk w g #[.int .i64 room, .int .i64 fuse, .bool dead, .map (some b)] 57 ∧ Dz lo w g b n D av cv bs ss
theorem Own.lt {lo : Nat} {w : World} {v : Value} {l : List UInt8} (h : Own lo w v l) {B : Nat} (hB : v.ownBlock = some B) : lo ≤ B ∧ B < w.heap.size := World.ownsRow.lt (show w.ownsRow lo 5 1 v l.length (bval l) from h) B hB
theorem KB.below {g B : Nat} {w w' : World} (h : KB g w w') (hg : B ≤ g) (hB : B ≤ w.heap.size) : Below B w w' :=
  ⟨h.1, h.2.1, h.2.2.1, h.2.2.2.1, fun k hk => h.2.2.2.2 k (by omega) (by omega)⟩
/-- The zones' bytes stay where the map alone is turned. -/
theorem Dz.turn {lo g b n n' : Nat} {w w' : World} {D D' : DataW Value} {av : Int → Option Addr} {cv : Int → Nat} {bs : Int → List UInt8} {ss ss' : Int → Int} (h : Dz lo w g b n D av cv bs ss) (k : KB b w w') (hz : Zm w' b n' D') (hh : ∀ kl, Maps.has D' kl = Maps.has D kl) (hv : Hv D' av (fun k => (bs k).length) cv ss') : Dz lo w' g b n' D' av cv bs ss' :=
  ⟨hz, hv, fun j => by rw [hh]; exact h.has j, h.ints, fun j => (h.own j).keep (fun B hB => k.2.2.2.2 B ((h.own j).lt hB).2 (fun e => h.nb j (by rw [← blk_own _ (bs j).length (cv j), hB, e]))), h.apart, h.ng, h.nb, h.lg, h.lb, h.sm⟩
theorem Dz.below {lo g b n : Nat} {w w' : World} {D : DataW Value} {av : Int → Option Addr} {cv : Int → Nat} {bs : Int → List UInt8} {ss : Int → Int} (h : Dz lo w g b n D av cv bs ss) (hb : Below w.heap.size w w') : Dz lo w' g b n D av cv bs ss := by
  have hlt := World.ownsMap.lt h.zm
  have hz : Zm w' b n D := by
    obtain ⟨es, clock, hes, F, hs, rfl⟩ := h.zm
    exact ⟨es, clock, (hb.block b hlt).trans hes, F, hs, rfl⟩
  exact ⟨hz, h.hv, h.has, h.ints, fun j => (h.own j).keep (fun B hB => hb.block B ((h.own j).lt hB).2), h.apart, h.ng, h.nb, h.lg, h.lb, h.sm⟩
theorem Dk.below {lo g N : Nat} {w w' : World} {room fuse : Int} {dead : Bool} {bs : Int → List UInt8} {ss : Int → Int} (h : Dk lo w g room fuse dead N bs ss) (hb : Below w.heap.size w w') : Dk lo w' g room fuse dead N bs ss := by
  obtain ⟨b, n, D, av, cv, hn, hk, hz⟩ := h
  exact ⟨b, n, D, av, cv, hn, hk.below hb, hz.below hb⟩
theorem maxLen_big {N : Nat} (h : N ≤ 1000000) : N < maxLen := by unfold maxLen; omega
set_option maxRecDepth 100000 in
theorem sync_live (lo g N : Nat) (room : Int) (bs : Int → List UInt8) (ss : Int → Int) (w : World) (h : Dk lo w g room (-1) false N bs ss) (hN : N ≤ 1000000) :
    Calls Try.prog 17 #[.pointer (some ⟨g, 0, none⟩)] w fun e w' => e = .returned (.int .i64 0) ∧ Dk lo w' g room (-1) false N bs (fun k => ((bs k).length : Int)) ∧ Below lo w w' := by
  obtain ⟨b, n, D, av, cv, hn, hk, hz⟩ := h
  have HM : Hid (Calls Try.prog 35 #[.pointer (some ⟨g, 0, none⟩)] w _) := made_calls g b _ _ _ w hk
  have hne := bk_ne hk hz.zm
  have SC := secure_calls g b n _ _ _ D av (fun k => (bs k).length) cv ss w hk hz.zm (maxLen_big (by omega)) hz.hv
  have HC : Hid (Calls Try.prog 40 #[.pointer (some ⟨g, 0, none⟩), .func (.func 43) #[.pointer (some ⟨g, 0, none⟩)] #[]] w fun e w' => e = .returned (.int .i64 0) ∧ (Dk lo w' g room (-1) false N bs (fun k => ((bs k).length : Int)) ∧ Below lo w w')) :=
    change_secF g _ _ _ _ w _ hk (SC.mono fun e w' ⟨h1, ⟨D', q1, q2, q3⟩, h3⟩ => ⟨h1, ⟨b, n, D', av, cv, hn, hk.kb h3 hne, hz.turn h3 q1 q2 q3⟩, h3.below hz.lb (Nat.le_trans hz.lg (Nat.le_of_lt hk.lt))⟩)
  have x2 : w.cell? ⟨g, 2, none⟩ = some (.bool false) := hk.cell 2
  clear hk hz hn hN SC hne
  go_enter Try.func17, Try.ntmps17
  go_wp2_with fail
  refine HM.out.mono ?_
  rintro e w1 ⟨rfl, hw⟩
  have hw' := hw.symm
  subst hw'
  clear hw HM
  go_wp2_with fail
  refine HC.out.mono ?_
  rintro e w1 ⟨rfl, h1, h2⟩
  have H1 : Hid (Dk lo w1 g room (-1) false N bs (fun k => ((bs k).length : Int))) := h1
  have H2 : Hid (Below lo w w1) := h2
  clear h1 h2
  go_wp2_with fail
  go_ret
  exact ⟨rfl, H1.out, H2.out⟩
end Go.Proofs.Ytfjcjaojbdcpeaa
