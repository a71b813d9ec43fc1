/- The contract of Read, with the room of what it gives; those of bytes.Equal and bytes.HasPrefix. -/
import Derived.Test.YtfjcjaojbdcpeaaNW
import Derived.Test.YtfjcjaojbdcpeaaOB
namespace Go.Proofs.Ytfjcjaojbdcpeaa
open Go.ChangeShapes Go.WideShapes Go.ChangeAt Go.RowKit Go.Maps
def RdQ (z : Int) (dead : Bool) (l : List UInt8) (w : World) (x : Ending) (w' : World) : Prop :=
  ∃ a n c, x = .returned (.tuple #[.slice a n c, .int .i64 (rdE z dead)]) ∧ Lib.HoldsBytes w' (.slice a n c) (if rdE z dead = 0 then l else []) ∧ Below w.heap.size w w' ∧ n ≤ c
set_option maxHeartbeats 1000000 in
set_option maxRecDepth 100000 in
theorem read2_calls (g b n : Nat) (c0 c1 : Value) (dead : Bool) (D : DataW Value) (z : Int) (hz : (Lit.int .i64 z).wf = true) (a : Option Addr) (m c : Nat) (s : Int) (l : List UInt8) (w : World)
    (h : Bk w g #[c0, c1, .bool dead, .map (some b)] 57) (hm : Zm w b n D) (hv : D.atKey (.int .i64 z) (.held zC) = .held (.agg #[.slice a m c, .int .i64 s])) (ho : Lib.HoldsBytes w (.slice a m c) l) (hl : l.length ≤ 1000000000) :
    Calls Try.prog 19 #[.pointer (some ⟨g, 0, none⟩), .int .i64 z] w (RdQ z dead l w) := by
  have HM : Hid (Calls Try.prog 35 #[.pointer (some ⟨g, 0, none⟩)] w _) := made_calls g b c0 c1 (.bool dead) w h
  have HZ : Hid (Calls Try.prog 39 #[.int .i64 z] w _) := isZone_calls z w
  have HC : Hid (Calls Try.prog 36 #[.slice a m c] w _) := clone_calls _ l w ho hl
  have lk := Zm.lookAll hz hv w hm
  have hfd : ∀ w : World, (Instr.field 65 (.agg #[.slice a m c, .int .i64 s]) 0).run Try.prog w = .ok (.slice a m c) w := fun _ => by kernel_rfl
  have x2 : w.cell? ⟨g, 2, none⟩ = some (.bool dead) := h.cell 2
  have x3 : w.cell? ⟨g, 3, none⟩ = some (.map (some b)) := h.cell 3
  have HP : Hid (∀ x w', RdQ z dead l w x w' ↔ ∃ a n c, x = .returned (.tuple #[.slice a n c, .int .i64 (rdE z dead)]) ∧ Lib.HoldsBytes w' (.slice a n c) (if rdE z dead = 0 then l else []) ∧ Below w.heap.size w w' ∧ n ≤ c) := fun _ _ => Iff.rfl
  have HE : Hid (rdE z dead = if 0 ≤ z ∧ z < 40 then (if dead = true then 8 else 0) else 1) := rfl
  generalize RdQ z dead l w = P at HP ⊢
  generalize rdE z dead = E at HP HE
  generalize hd : decide (0 ≤ z ∧ z < 40) = d at HZ
  have HD : Hid (decide (0 ≤ z ∧ z < 40) = d) := hd
  clear h hm hv ho hl hz hd
  go_enter Try.func19, Try.ntmps19
  go_wp2_with fail
  refine HM.out.mono ?_
  rintro e w1 ⟨rfl, hw⟩
  have hw' := hw.symm
  subst hw'
  clear hw HM
  go_wp2_with fail
  refine HZ.out.mono ?_
  rintro e w1 ⟨rfl, hw⟩
  have hw' := hw.symm
  subst hw'
  clear hw HZ
  cases d with
  | false =>
    have hE : E = 1 := by rw [HE.out, if_neg (by have := HD.out; simpa using this)]
    subst hE
    go_wp2_with fail
    exact (HP.out _ _).2 ⟨none, 0, 0, rfl, holds_nil _, Below.refl _ _, Nat.le_refl _⟩
  | true =>
    have hR : 0 ≤ z ∧ z < 40 := by have := HD.out; simpa using this
    cases dead with
    | true =>
      have hE : E = 8 := by rw [HE.out, if_pos hR, if_pos rfl]
      subst hE
      clear hR
      go_wp2_with fail
      exact (HP.out _ _).2 ⟨none, 0, 0, rfl, holds_nil _, Below.refl _ _, Nat.le_refl _⟩
    | false =>
      have hE : E = 0 := by rw [HE.out, if_pos hR, if_neg (by decide)]
      subst hE
      clear hR
      go_wp2_with fail
      refine HC.out.mono ?_
      rintro e w2 ⟨a2, n2, c2, rfl, ho2, hb2⟩
      have HO : Hid (Lib.HoldsBytes w2 (.slice a2 n2 c2) l ∧ Below w.heap.size w w2 ∧ n2 ≤ c2) := ⟨ho2.holds, hb2, by obtain ⟨_, _, e, hc⟩ := ho2.shape; cases e; exact hc⟩
      clear ho2 hb2
      go_wp2_with fail
      exact (HP.out _ _).2 ⟨a2, n2, c2, rfl, HO.out.1, HO.out.2⟩
theorem equal_calls (p1 p2 : Option Addr) (n1 n2 c1 c2 : Nat) (l : List UInt8) (w : World) (h1 : Lib.HoldsBytes w (.slice p1 n1 c1) l) (h2 : Lib.HoldsBytes w (.slice p2 n2 c2) l) :
    Calls Try.prog 34 #[.slice p1 n1 c1, .slice p2 n2 c2] w fun e w' => e = .returned (.bool true) ∧ w' = w := by
  have e1 := conv_string w p1 n1 c1 l h1
  have e2 := conv_string w p2 n2 c2 l h2
  clear h1 h2
  go_enter Try.func34, Try.ntmps34
  go_wp2
  go_ret
  exact ⟨rfl, rfl⟩
theorem len_of {w : World} {p : Option Addr} {n c : Nat} {l : List UInt8} (h : Lib.HoldsBytes w (.slice p n c) l) : n = l.length := by
  obtain ⟨_, _, e, _⟩ := h
  cases e
  rfl
theorem hp_calls (p1 p2 : Option Addr) (n1 n2 c1 c2 : Nat) (l1 l2 : List UInt8) (w : World) (h1 : Lib.HoldsBytes w (.slice p1 n1 c1) l1) (h2 : Lib.HoldsBytes w (.slice p2 n2 c2) l2) (hc : n1 ≤ c1) (hp : l2 <+: l1) :
    Calls Try.prog 20 #[.slice p1 n1 c1, .slice p2 n2 c2] w fun e w' => e = .returned (.bool true) ∧ w' = w := by
  have hle : n2 ≤ n1 := by rw [len_of h1, len_of h2]; exact hp.length_le
  have ht : l1.take n2 = l2 := by rw [len_of h2]; exact (List.prefix_iff_eq_take.1 hp).symm
  have h3 := (CC.holds_take h1 n2 hle).1
  rw [ht] at h3
  have HE : Hid (Calls Try.prog 34 #[.slice p1 n2 c1, .slice p2 n2 c2] w _) := equal_calls p1 p2 n2 n2 c1 c2 l2 w h3 h2
  have hcc : n2 ≤ c1 := by omega
  have hpn : p1 = none → n2 = 0 := by
    intro e
    subst e
    obtain ⟨_, _, e, hq, _⟩ := h1
    cases e
    rw [hq rfl] at hle
    simpa using hle
  clear h1 h2 h3 ht hp hc
  go_enter Try.func20, Try.ntmps20
  cases p1 with
  | none =>
    obtain rfl := hpn rfl
    go_wp2_with (go_at_call 34; refine HE.out.mono ?_; rintro e w1 ⟨rfl, rfl⟩)
    go_ret
    exact ⟨rfl, rfl⟩
  | some a =>
    clear hpn
    go_wp2_with (go_at_call 34; refine HE.out.mono ?_; rintro e w1 ⟨rfl, rfl⟩)
    go_ret
    exact ⟨rfl, rfl⟩
theorem Kp.below {w w' : World} {kp : Option Addr} {ks : List Int} (h : Kp w kp ks) (hb : Below w.heap.size w w') : Kp w' kp ks := fun i z hz => by
  obtain ⟨a, e, hc⟩ := h i z hz
  exact ⟨a, e, Lib.Below.cellOf hb hc (Nat.le_refl _)⟩
end Go.Proofs.Ytfjcjaojbdcpeaa
