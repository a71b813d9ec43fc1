/- The contract of Read, of Fuse and of Room. -/
import Derived.Test.YtfjcjaojbdcpeaaNG
namespace Go.Proofs.Ytfjcjaojbdcpeaa
open Go.ChangeShapes Go.WideShapes Go.ChangeAt Go.RowKit Go.Maps
/-- What Read answers. -/
def rdE (z : Int) (dead : Bool) : Int := if 0 ≤ z ∧ z < 40 then (if dead = true then 8 else 0) else 1
def RdP (z : Int) (dead : Bool) (l : List UInt8) (w : World) (x : Ending) (w' : World) : Prop :=
  ∃ a n c, x = .returned (.tuple #[.slice a n c, .int .i64 (rdE z dead)]) ∧ Lib.HoldsBytes w' (.slice a n c) (if rdE z dead = 0 then l else []) ∧ Below w.heap.size w w'
theorem holds_nil (w : World) : Lib.HoldsBytes w (.slice none 0 0) [] := ⟨none, 0, rfl, fun _ => rfl, fun a ha => by cases ha⟩
set_option maxHeartbeats 1000000 in
set_option maxRecDepth 100000 in
theorem read_calls (g b n : Nat) (c0 c1 : Value) (dead : Bool) (D : DataW Value) (z : Int) (hz : (Lit.int .i64 z).wf = true) (a : Option Addr) (m c : Nat) (s : Int) (l : List UInt8) (w : World)
    (h : Bk w g #[c0, c1, .bool dead, .map (some b)] 57) (hm : Zm w b n D) (hv : D.atKey (.int .i64 z) (.held zC) = .held (.agg #[.slice a m c, .int .i64 s])) (ho : Lib.HoldsBytes w (.slice a m c) l) (hl : l.length ≤ 1000000000) :
    Calls Try.prog 19 #[.pointer (some ⟨g, 0, none⟩), .int .i64 z] w (RdP z dead l w) := by
  have HM : Hid (Calls Try.prog 35 #[.pointer (some ⟨g, 0, none⟩)] w _) := made_calls g b c0 c1 (.bool dead) w h
  have HZ : Hid (Calls Try.prog 39 #[.int .i64 z] w _) := isZone_calls z w
  have HC : Hid (Calls Try.prog 36 #[.slice a m c] w _) := clone_calls _ l w ho hl
  have lk := Zm.lookAll hz hv w hm
  have hfd : ∀ w : World, (Instr.field 65 (.agg #[.slice a m c, .int .i64 s]) 0).run Try.prog w = .ok (.slice a m c) w := fun _ => by kernel_rfl
  have x2 : w.cell? ⟨g, 2, none⟩ = some (.bool dead) := h.cell 2
  have x3 : w.cell? ⟨g, 3, none⟩ = some (.map (some b)) := h.cell 3
  have HP : Hid (∀ x w', RdP z dead l w x w' ↔ ∃ a n c, x = .returned (.tuple #[.slice a n c, .int .i64 (rdE z dead)]) ∧ Lib.HoldsBytes w' (.slice a n c) (if rdE z dead = 0 then l else []) ∧ Below w.heap.size w w') := fun _ _ => Iff.rfl
  have HE : Hid (rdE z dead = if 0 ≤ z ∧ z < 40 then (if dead = true then 8 else 0) else 1) := rfl
  generalize RdP z dead l w = P at HP ⊢
  generalize rdE z dead = E at HP HE
  generalize hd : decide (0 ≤ z ∧ z < 40) = d at HZ
  have HD : Hid (decide (0 ≤ z ∧ z < 40) = d) := hd
  clear h hm hv ho hl hz hd
  go_enter Try.func19, Try.ntmps19
  go_wp2_with fail
  refine HM.out.mono ?_
  rintro e w1 ⟨rfl, hw⟩
  have hw' := hw.symm
  subst hw'
  clear hw HM
  go_wp2_with fail
  refine HZ.out.mono ?_
  rintro e w1 ⟨rfl, hw⟩
  have hw' := hw.symm
  subst hw'
  clear hw HZ
  cases d with
  | false =>
    have hE : E = 1 := by rw [HE.out, if_neg (by have := HD.out; simpa using this)]
    subst hE
    go_wp2_with fail
    exact (HP.out _ _).2 ⟨none, 0, 0, rfl, holds_nil _, Below.refl _ _⟩
  | true =>
    have hR : 0 ≤ z ∧ z < 40 := by have := HD.out; simpa using this
    cases dead with
    | true =>
      have hE : E = 8 := by rw [HE.out, if_pos hR, if_pos rfl]
      subst hE
      clear hR
      go_wp2_with fail
      exact (HP.out _ _).2 ⟨none, 0, 0, rfl, holds_nil _, Below.refl _ _⟩
    | false =>
      have hE : E = 0 := by rw [HE.out, if_pos hR, if_neg (by decide)]
      subst hE
      clear hR
      go_wp2_with fail
      refine HC.out.mono ?_
      rintro e w2 ⟨a2, n2, c2, rfl, ho2, hb2⟩
      have HO : Hid (Lib.HoldsBytes w2 (.slice a2 n2 c2) l ∧ Below w.heap.size w w2) := ⟨ho2.holds, hb2⟩
      clear ho2 hb2
      go_wp2_with fail
      exact (HP.out _ _).2 ⟨a2, n2, c2, rfl, HO.out.1, HO.out.2⟩
end Go.Proofs.Ytfjcjaojbdcpeaa
