/- Which steps may be; the contract of mayBe. -/
import Derived.Test.YtimiklekajelfaaSB
namespace Go.Proofs.Ytimiklekajelfaa
open Go.ChangeShapes Go.WideShapes Go.ChangeAt Go.RowKit
def mayB (x : Sp) : Bool :=
  (fld x.k != 0) && upTo x.s (mst (fld x.k) 2 255) && decide ((x.b.length : Int) ≤ mst (fld x.k) 4 16384) && upTo x.n (mst (fld x.k) 8 1099511627776) && decide ((x.ks.length : Int) ≤ mst (fld x.k) 16 64) && !(x.ks.any ovr)
theorem heap_hl {α : Type} {enc : α → Value} {P : Nat → Prop} {w w' : World} {v : Value} {l : List α} (h : HL enc P w v l) (e : w'.heap = w.heap) : HL enc P w' v l := h.keep fun B hB _ => ⟨by rw [e], hB⟩
theorem heap_iv {P : Nat → Prop} {w w' : World} {vb vk : Value} {x : Sp} (h : IsV P w vb vk x) (e : w'.heap = w.heap) : IsV P w' vb vk x := ⟨heap_hl h.1 e, heap_hl h.2 e⟩
set_option maxHeartbeats 4000000 in
set_option maxRecDepth 100000 in
theorem mayBe_calls (P : Nat → Prop) (x : Sp) (vb vk : Value) (w : World) (h : IsV P w vb vk x) :
    Calls Try.prog 30 #[.agg (rowS vb vk x)] w fun e w' => e = .returned (.bool (mayB x)) ∧ Below w.heap.size w w' := by
  obtain ⟨pb, cb, rfl, _⟩ := h.1.shape
  obtain ⟨pk, ck, rfl, _⟩ := h.2.shape
  have HK0 : HL ei P w (.slice pk x.ks.length ck) x.ks := h.2
  clear h
  obtain ⟨k, s, n, b, ks⟩ := x
  unfold rowS mayB
  dsimp only at HK0 ⊢
  have CK : Hid (∀ W, W.heap = (w.alloc (.cells #[.int .i64 k, .int .i64 s, .int .i64 n, .slice pb b.length cb, .slice pk ks.length ck] 28)).heap → Calls Try.prog 54 #[.slice pk ks.length ck, .func (.func 51) #[] #[]] W fun e w' => e = .returned (.bool (ks.any ovr)) ∧ w' = W) := fun W e => cont_calls P _ ks W (heap_hl (HK0.below (bel1 _ _)) e)
  clear HK0
  have CF : Hid (∀ W, Calls Try.prog 42 #[.int .i64 k] W fun e w' => e = .returned (.int .i64 (fld k)) ∧ w' = W) := fields_calls k
  generalize fld k = f at CF ⊢
  have C1 : Hid (∀ W, Calls Try.prog 53 #[.int .i64 f, .int .i64 2, .int .i64 255] W fun e w' => e = .returned (.int .i64 (mst f 2 255)) ∧ w' = W) := fun W => most_calls f 2 255 W
  have C2 : Hid (∀ W, Calls Try.prog 53 #[.int .i64 f, .int .i64 4, .int .i64 16384] W fun e w' => e = .returned (.int .i64 (mst f 4 16384)) ∧ w' = W) := fun W => most_calls f 4 16384 W
  have C3 : Hid (∀ W, Calls Try.prog 53 #[.int .i64 f, .int .i64 8, .int .i64 1099511627776] W fun e w' => e = .returned (.int .i64 (mst f 8 1099511627776)) ∧ w' = W) := fun W => most_calls f 8 1099511627776 W
  have C4 : Hid (∀ W, Calls Try.prog 53 #[.int .i64 f, .int .i64 16, .int .i64 64] W fun e w' => e = .returned (.int .i64 (mst f 16 64)) ∧ w' = W) := fun W => most_calls f 16 64 W
  generalize mst f 2 255 = m1 at C1 ⊢
  generalize mst f 4 16384 = m2 at C2 ⊢
  generalize mst f 8 1099511627776 = m3 at C3 ⊢
  generalize mst f 16 64 = m4 at C4 ⊢
  have D1 : Hid (∀ W, Calls Try.prog 52 #[.int .i64 s, .int .i64 m1] W fun e w' => e = .returned (.bool (upTo s m1)) ∧ w' = W) := fun W => isUpTo_calls s m1 W
  have D3 : Hid (∀ W, Calls Try.prog 52 #[.int .i64 n, .int .i64 m3] W fun e w' => e = .returned (.bool (upTo n m3)) ∧ w' = W) := fun W => isUpTo_calls n m3 W
  generalize upTo s m1 = r1 at D1 ⊢
  generalize upTo n m3 = r3 at D3 ⊢
  generalize ks.any ovr = r5 at CK ⊢
  generalize hf0 : (f != 0) = r0
  generalize hd2 : decide ((b.length : Int) ≤ m2) = r2
  generalize hd4 : decide ((ks.length : Int) ≤ m4) = r4
  obtain ⟨h0, h1, h2, h3, h4⟩ := box_at w (.int .i64 k) (.int .i64 s) (.int .i64 n) (.slice pb b.length cb) (.slice pk ks.length ck)
  have HB : Hid (Below w.heap.size w (w.alloc (.cells #[.int .i64 k, .int .i64 s, .int .i64 n, .slice pb b.length cb, .slice pk ks.length ck] 28))) := bel1 w _
  go_enter Try.func30, Try.ntmps30
  go_wp2_with fail
  refine (CF.out _).mono ?_
  rintro e w1 ⟨rfl, hw1⟩
  rw [hw1]
  clear hw1 CF
  cases r0 with
  | false =>
    go_upto_region 3 with fail
    go_quiet (first
      | (go_at_call 54; with_reducible exact Calls.quiet_of_same (CK.out _ rfl))
      | (go_at_call 53; first | with_reducible exact Calls.quiet_of_same (C1.out _) | with_reducible exact Calls.quiet_of_same (C2.out _) | with_reducible exact Calls.quiet_of_same (C3.out _) | with_reducible exact Calls.quiet_of_same (C4.out _))
      | (go_at_call 52; first | with_reducible exact Calls.quiet_of_same (D1.out _) | with_reducible exact Calls.quiet_of_same (D3.out _)))
    go_wp2_with fail
    go_ret
    exact ⟨rfl, HB.out.trans ((belN _ _).mono HB.out.size)⟩
  | true =>
    cases r1 with
    | false =>
      go_upto_region 3 with fail
      go_quiet (first
        | (go_at_call 54; with_reducible exact Calls.quiet_of_same (CK.out _ rfl))
        | (go_at_call 53; first | with_reducible exact Calls.quiet_of_same (C1.out _) | with_reducible exact Calls.quiet_of_same (C2.out _) | with_reducible exact Calls.quiet_of_same (C3.out _) | with_reducible exact Calls.quiet_of_same (C4.out _))
        | (go_at_call 52; first | with_reducible exact Calls.quiet_of_same (D1.out _) | with_reducible exact Calls.quiet_of_same (D3.out _)))
      go_wp2_with fail
      go_ret
      exact ⟨rfl, HB.out.trans ((belN _ _).mono HB.out.size)⟩
    | true =>
      cases r2 with
      | false =>
        go_upto_region 3 with fail
        go_quiet (first
          | (go_at_call 54; with_reducible exact Calls.quiet_of_same (CK.out _ rfl))
          | (go_at_call 53; first | with_reducible exact Calls.quiet_of_same (C1.out _) | with_reducible exact Calls.quiet_of_same (C2.out _) | with_reducible exact Calls.quiet_of_same (C3.out _) | with_reducible exact Calls.quiet_of_same (C4.out _))
          | (go_at_call 52; first | with_reducible exact Calls.quiet_of_same (D1.out _) | with_reducible exact Calls.quiet_of_same (D3.out _)))
        go_wp2_with fail
        go_ret
        exact ⟨rfl, HB.out.trans ((belN _ _).mono HB.out.size)⟩
      | true =>
        cases r3 with
        | false =>
          go_upto_region 3 with fail
          go_quiet (first
            | (go_at_call 54; with_reducible exact Calls.quiet_of_same (CK.out _ rfl))
            | (go_at_call 53; first | with_reducible exact Calls.quiet_of_same (C1.out _) | with_reducible exact Calls.quiet_of_same (C2.out _) | with_reducible exact Calls.quiet_of_same (C3.out _) | with_reducible exact Calls.quiet_of_same (C4.out _))
            | (go_at_call 52; first | with_reducible exact Calls.quiet_of_same (D1.out _) | with_reducible exact Calls.quiet_of_same (D3.out _)))
          go_wp2_with fail
          go_ret
          exact ⟨rfl, HB.out.trans ((belN _ _).mono HB.out.size)⟩
        | true =>
          cases r4 with
          | false =>
            go_upto_region 3 with fail
            go_quiet (first
              | (go_at_call 54; with_reducible exact Calls.quiet_of_same (CK.out _ rfl))
              | (go_at_call 53; first | with_reducible exact Calls.quiet_of_same (C1.out _) | with_reducible exact Calls.quiet_of_same (C2.out _) | with_reducible exact Calls.quiet_of_same (C3.out _) | with_reducible exact Calls.quiet_of_same (C4.out _))
              | (go_at_call 52; first | with_reducible exact Calls.quiet_of_same (D1.out _) | with_reducible exact Calls.quiet_of_same (D3.out _)))
            go_wp2_with fail
            go_ret
            exact ⟨rfl, HB.out.trans ((belN _ _).mono HB.out.size)⟩
          | true =>
            cases r5 with
            | true =>
              go_upto_region 3 with fail
              go_quiet (first
                | (go_at_call 54; with_reducible exact Calls.quiet_of_same (CK.out _ rfl))
                | (go_at_call 53; first | with_reducible exact Calls.quiet_of_same (C1.out _) | with_reducible exact Calls.quiet_of_same (C2.out _) | with_reducible exact Calls.quiet_of_same (C3.out _) | with_reducible exact Calls.quiet_of_same (C4.out _))
                | (go_at_call 52; first | with_reducible exact Calls.quiet_of_same (D1.out _) | with_reducible exact Calls.quiet_of_same (D3.out _)))
              go_wp2_with fail
              go_ret
              exact ⟨rfl, HB.out.trans ((belN _ _).mono HB.out.size)⟩
            | false =>
              go_upto_region 3 with fail
              go_quiet (first
                | (go_at_call 54; with_reducible exact Calls.quiet_of_same (CK.out _ rfl))
                | (go_at_call 53; first | with_reducible exact Calls.quiet_of_same (C1.out _) | with_reducible exact Calls.quiet_of_same (C2.out _) | with_reducible exact Calls.quiet_of_same (C3.out _) | with_reducible exact Calls.quiet_of_same (C4.out _))
                | (go_at_call 52; first | with_reducible exact Calls.quiet_of_same (D1.out _) | with_reducible exact Calls.quiet_of_same (D3.out _)))
              go_wp2_with fail
              go_ret
              exact ⟨rfl, HB.out.trans ((belN _ _).mono HB.out.size)⟩
end Go.Proofs.Ytimiklekajelfaa
