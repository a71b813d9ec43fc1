/- The contract of Encode. -/
import Derived.Test.YtomkoajhjijplaaBJ
namespace Go.Proofs.Ytomkoajhjijplaa
open Go.ChangeShapes Go.WideShapes Go.ChangeAt Go.RowKit
theorem je_new (lo : Nat) (W : World) (hl : lo ≤ W.heap.size) : JE lo W.heap.size (W.heap.size + 1) [] ((W.alloc (.cells #[.slice none 0 0] 22)).alloc (.cells #[.func (.func 18) #[] #[.pointer (some ⟨W.heap.size, 0, none⟩)]] 43)) ∧ Below W.heap.size W ((W.alloc (.cells #[.slice none 0 0] 22)).alloc (.cells #[.func (.func 18) #[] #[.pointer (some ⟨W.heap.size, 0, none⟩)]] 43)) := by
  have h2 := Bk.new (W.alloc (.cells #[.slice none 0 0] 22)) #[.func (.func 18) #[] #[.pointer (some ⟨W.heap.size, 0, none⟩)]] 43
  have hz : (W.alloc (.cells #[.slice none 0 0] 22)).heap.size = W.heap.size + 1 := by simp
  rw [hz] at h2
  exact ⟨⟨⟨none, 0, 0, (Bk.new W _ _).below (bel1 _ _), World.ownsRow_nil _ _ _ _⟩, h2, hl, by simp; omega⟩, bel2 (bel1 _ _) (bel1 _ _)⟩
/-- What Encode leaves. -/
def EncP (w : World) (b : Bt) (x : Ending) (w' : World) : Prop :=
  ∃ p n c, x = .returned (.tuple #[.slice p n c, .int .i64 (ckE b)]) ∧ Lib.HoldsBytes w' (.slice p n c) (if mayB b = true then encB b else []) ∧ Below w.heap.size w w'
/-- The same, and its room. -/
def EncQ (w : World) (b : Bt) (x : Ending) (w' : World) : Prop :=
  ∃ p n c, x = .returned (.tuple #[.slice p n c, .int .i64 (ckE b)]) ∧ Lib.HoldsBytes w' (.slice p n c) (if mayB b = true then encB b else []) ∧ Below w.heap.size w w' ∧ n ≤ c
theorem own_room {lo : Nat} {w : World} {p : Option Addr} {n c : Nat} {l : List UInt8} (h : Own lo w (.slice p n c) l) : n ≤ c := by
  have h0 : w.ownsRow lo 5 1 (.slice p n c) l.length (bval l) := h
  obtain ⟨_, ⟨h1, _⟩ | ⟨g, cap, cur, h1, _, _, hle, _⟩⟩ := h0
  · cases h1
    exact Nat.le_refl _
  · cases h1
    exact hle
set_option maxHeartbeats 2000000 in
set_option maxRecDepth 100000 in
theorem encode2_calls (v : Value) (b : Bt) (w : World) (h : BIs w v b) : Calls Try.prog 8 #[v] w (EncQ w b) := by
  have HK : Hid (∀ W, Below w.heap.size w W → Calls Try.prog 12 #[v] W fun x w' => x = .returned (.int .i64 (ckE b)) ∧ Below W.heap.size W w') := fun W hB => check_calls v b W (h.below hB)
  obtain ⟨rp, rn, rc, wa, wd, rfl, hr, hn, hw⟩ := h
  have HBW : Hid (mayB b = true → ∀ W go gp qb, Below w.heap.size w W → Bk W qb #[.string b.key, .int .i64 b.ex, .slice rp rn rc, .slice wa b.ws.length wd] 25 → JE w.heap.size go gp [] W → Calls Try.prog 25 #[.agg #[.func (.func 19) #[] #[.pointer (some ⟨gp, 0, none⟩)], .func (.func 21) #[] #[.pointer (some ⟨gp, 0, none⟩)], .func (.func 23) #[] #[.pointer (some ⟨gp, 0, none⟩)], .func (.func 24) #[] #[.pointer (some ⟨gp, 0, none⟩)]], .pointer (some ⟨qb, 0, none⟩)] W (CloP w.heap.size (JE w.heap.size go gp) (encB b) W)) := fun hm W go gp qb hB hq hJ => batch_walkE w _ (clo_encode w.heap.size go gp) b rp rn rc wa wd hr hn hw W hB qb hq [] hJ (gb_encode ((mayB_iff b).1 hm))
  have HM : Hid (ckE b = if mayB b = true then 0 else 1) := rfl
  have HE : Hid (∀ x w', EncQ w b x w' ↔ ∃ p n c, x = .returned (.tuple #[.slice p n c, .int .i64 (ckE b)]) ∧ Lib.HoldsBytes w' (.slice p n c) (if mayB b = true then encB b else []) ∧ Below w.heap.size w w' ∧ n ≤ c) := fun _ _ => Iff.rfl
  generalize EncQ w b = EP at HE ⊢
  generalize ckE b = E at HM HK HE
  generalize mayB b = mb at HM HBW HE
  clear hr hn hw
  go_enter Try.func8, Try.ntmps8
  go_wp2_with fail
  have q0 := Bk.new w #[.string b.key, .int .i64 b.ex, .slice rp rn rc, .slice wa b.ws.length wd] 25
  refine (HK.out _ (bel1 _ _)).mono ?_
  rintro e w1 ⟨rfl, hb1⟩
  have q1 := q0.below hb1
  have HQ1 : Hid (Bk w1 w.heap.size #[.string b.key, .int .i64 b.ex, .slice rp rn rc, .slice wa b.ws.length wd] 25) := q1
  have HB1 : Hid (Below w.heap.size w w1) := bel2 (bel1 _ _) hb1
  clear q0 q1 hb1 HK
  cases mb with
  | false =>
    obtain rfl : E = 1 := HM.out
    go_wp2_with fail
    exact (HE.out _ _).2 ⟨none, 0, 0, rfl, holds_nil _, HB1.out, Nat.le_refl _⟩
  | true =>
    obtain rfl : E = 0 := HM.out
    have HBW2 : Hid (∀ W go gp qb, _) := fun W go gp qb => HBW.out (by trivial) W go gp qb
    go_wp2_with fail
    obtain ⟨j2, b2⟩ := je_new w.heap.size w1 HB1.out.size
    have q2 := HQ1.out.below b2
    refine (HBW2.out _ w1.heap.size (w1.heap.size + 1) w.heap.size (bel2 HB1.out b2) q2 j2).mono ?_
    rintro e w3 ⟨rfl, hj, hf⟩
    obtain ⟨⟨p, n, c, o1, o2⟩, _, _, _⟩ := hj
    have c0 : w3.cell? ⟨w1.heap.size, 0, none⟩ = some (Value.slice p n c) := o1.cell 0
    have HO : Hid (Lib.HoldsBytes w3 (.slice p n c) (encB b)) := own_holds o2
    have HR : Hid (n ≤ c) := own_room o2
    have HB3 : Hid (Below w.heap.size w w3) := (bel2 HB1.out b2).trans hf.1
    clear j2 b2 q2 hf o1 o2 HBW HBW2
    go_wp2_with fail
    exact (HE.out _ _).2 ⟨p, n, c, rfl, HO.out, HB3.out, HR.out⟩
theorem encode_calls (v : Value) (b : Bt) (w : World) (h : BIs w v b) : Calls Try.prog 8 #[v] w (EncP w b) := (encode2_calls v b w h).mono fun _ _ ⟨p, n, c, h1, h2, h3, _⟩ => ⟨p, n, c, h1, h2, h3⟩
end Go.Proofs.Ytomkoajhjijplaa
