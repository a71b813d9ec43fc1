/- The contract of follows. -/
import Derived.Test.YthakbkkopneilaaDoorCA
import Derived.BigQuiet
namespace Go.Proofs.YthakbkkopneilaaDoor
open Go.ChangeShapes Go.WideShapes Go.ChangeAt Go.RowKit
/-- Whether a segment (its number, records ahead, snapshot or not) goes on where another ends. -/
def fo (n f : Int) (rn : Nat) (tn : Bool) (n2 f2 : Int) (hs2 : Bool) : Bool :=
  !(tn || hs2 || n == 9223372036854775807) && ((bh f rn).2 && n2 == n + 1 && f2 == (bh f rn).1)
set_option maxHeartbeats 2000000 in
set_option maxRecDepth 100000 in
theorem follows_calls (B o B' o' : Nat) (n f : Int) (ra : Option Addr) (rn rc : Nat) (tn : Bool) (n2 f2 : Int) (hs2 : Bool) (w : World)
    (h0 : w.cell? ⟨B, o, none⟩ = some (.int .i64 n)) (h1 : w.cell? ⟨B, o + 1, none⟩ = some (.int .i64 f)) (h4 : w.cell? ⟨B, o + 4, none⟩ = some (.slice ra rn rc)) (h6 : w.cell? ⟨B, o + 6, none⟩ = some (.bool tn))
    (k0 : w.cell? ⟨B', o', none⟩ = some (.int .i64 n2)) (k1 : w.cell? ⟨B', o' + 1, none⟩ = some (.int .i64 f2)) (k2 : w.cell? ⟨B', o' + 2, none⟩ = some (.bool hs2))
    (hn : rn ≤ 9223372036854775807) (hf : -9223372036854775808 ≤ f) (hf2 : f ≤ 9223372036854775807) (hm : -9223372036854775808 ≤ n) (hm2 : n ≤ 9223372036854775807) :
    Calls Tryd.prog 39 #[.pointer (some ⟨B, o, none⟩), .pointer (some ⟨B', o', none⟩)] w fun e w' => e = .returned (.bool (fo n f rn tn n2 f2 hs2)) ∧ Below w.heap.size w w' := by
  have BC : Hid (Calls Tryd.prog 42 #[.pointer (some ⟨B, o, none⟩)] w _) := behind_calls B o f ra rn rc w h1 h4 hn hf hf2
  have HM : Hid (-9223372036854775808 ≤ n ∧ n ≤ 9223372036854775807) := ⟨hm, hm2⟩
  obtain ⟨M, hM⟩ : ∃ M, M = (n == 9223372036854775807) := ⟨_, rfl⟩
  have HMM : Hid (M = (n == 9223372036854775807)) := hM
  have HF : Hid (fo n f rn tn n2 f2 hs2 = (!(tn || hs2 || M) && ((bh f rn).2 && n2 == n + 1 && f2 == (bh f rn).1))) := by show _ = _; rw [hM]; rfl
  have d : (n == 9223372036854775807) = M := hM.symm
  have T : Hid (∀ W, Below w.heap.size w W → W.cell? ⟨B, o, none⟩ = some (.int .i64 n) ∧ W.cell? ⟨B', o', none⟩ = some (.int .i64 n2) ∧ W.cell? ⟨B', o' + 1, none⟩ = some (.int .i64 f2)) := fun W hW => ⟨cell_below h0 hW, cell_below k0 hW, cell_below k1 hW⟩
  generalize bh f rn = r at BC HF
  obtain ⟨r1, r2⟩ := r
  clear hn hf hf2 hm hm2 hM h1 h4
  cases tn with
  | true =>
    go_enter Tryd.func39, Tryd.ntmps39
    go_wp2_with fail
    go_ret
    rw [HF.out]
    exact ⟨by simp, Below.refl _ _⟩
  | false =>
    cases hs2 with
    | true =>
      go_enter Tryd.func39, Tryd.ntmps39
      go_wp2_with fail
      go_ret
      rw [HF.out]
      exact ⟨by simp, Below.refl _ _⟩
    | false =>
      cases M with
      | true =>
        go_enter Tryd.func39, Tryd.ntmps39
        go_wp2_with fail
        go_ret
        rw [HF.out]
        exact ⟨by simp, Below.refl _ _⟩
      | false =>
        have hw : IntKind.i64.wrap (n + 1) = n + 1 := wrap_whole _ (by have := HM.out; omega) (by have := HM.out; have h := HMM.out; simp at h; omega)
        obtain ⟨q1, hq1⟩ : ∃ q1, q1 = (n2 == n + 1) := ⟨_, rfl⟩
        obtain ⟨q2, hq2⟩ : ∃ q2, q2 = (f2 == r1) := ⟨_, rfl⟩
        have d1 : (n2 == n + 1) = q1 := hq1.symm
        have d2 : (f2 == r1) = q2 := hq2.symm
        have HF2 : Hid (fo n f rn false n2 f2 false = (r2 && q1 && q2)) := by show _ = _; rw [HF.out, hq1, hq2]; simp
        clear HF hq1 hq2
        go_enter Tryd.func39, Tryd.ntmps39
        go_wp2_with fail
        refine BC.out.mono ?_
        rintro e w1 ⟨rfl, hb⟩
        obtain ⟨t0, u0, u1⟩ := T.out w1 hb
        have HB : Hid (Below w.heap.size w w1) := hb
        clear hb
        go_wp2_with fail
        cases r2 with
        | false =>
          go_quiet (fail)
          go_wp2_with fail
          go_ret
          rw [HF2.out]
          exact ⟨by simp, HB.out.trans ((belN w1 _).mono HB.out.size)⟩
        | true =>
          cases q1 with
          | false =>
            go_quiet (fail)
            go_wp2_with fail
            go_ret
            rw [HF2.out]
            exact ⟨by simp, HB.out.trans ((belN w1 _).mono HB.out.size)⟩
          | true =>
            go_quiet (fail)
            go_wp2_with fail
            go_ret
            rw [HF2.out]
            exact ⟨by simp, HB.out.trans ((belN w1 _).mono HB.out.size)⟩
end Go.Proofs.YthakbkkopneilaaDoor
