/- The contracts of the program's Put and Read. -/
import Derived.Test.YtacmlholbnddpaaLA
import Derived.Test.YtacmlholbnddpaaLO
import Derived.Deep.RegionHeld3
import Derived.Test.YtacmlholbnddpaaXQ
import Derived.Deep.DeepCutAuto
namespace Go.Proofs.Ytacmlholbnddpaa
open Go.ChangeShapes Go.WideShapes Go.ChangeAt Go.RowKit
/-- The bytes of a policy. -/
def eP (f : Int) (c : Nat) (m : Int) : List UInt8 := enc f.toNat ++ be c 8 ++ enc m.toNat
theorem NB.mono {w w1 w2 : World} {l : List UInt8} {e : Ending} (hb : Below w.heap.size w w1) (h : NB w1 l e w2) : NB w l e w2 := by
  obtain ⟨g, h1, h2, h3, h4⟩ := h
  exact ⟨g, Nat.le_trans hb.size h1, h2, h3, bel2 hb h4⟩
set_option maxHeartbeats 2000000 in
theorem pput_calls (v : Value) (l : List UInt8) (f : Int) (c : Nat) (m : Int) (hp : PFit f c m) (w : World) (hv : Lib.HoldsBytes w v l) (hl : l.length ≤ 140737488355000) :
    Calls Try.prog 29 #[v, .agg #[.int .i64 f, .int .u64 (c : Int), .int .i64 m]] w (NB w (l ++ eP f c m)) := by
  have e1 : (enc f.toNat).length ≤ 9 := enc_length f.toNat (by have := hp.f1; omega)
  have e2 : (be c 8).length = 8 := be_length c 8
  have N1 : Hid (∀ W, Below w.heap.size w W → Calls Try.prog 26 #[v, .int .i64 f] W (NB W (l ++ enc f.toNat))) := fun W hB => num_calls v l f (by have := hp.f1; omega) W (holds_below hv hB) (by omega)
  have N2 : Hid (∀ W v2, Lib.HoldsBytes W v2 (l ++ enc f.toNat) → Calls Try.prog 47 #[v2, .int .u64 (c : Int)] W (NB W (l ++ enc f.toNat ++ be c 8))) := fun W v2 h2 => bits_calls v2 _ c W h2 (by rw [List.length_append]; omega)
  have N3 : Hid (∀ W v2, Lib.HoldsBytes W v2 (l ++ enc f.toNat ++ be c 8) → Calls Try.prog 26 #[v2, .int .i64 m] W (NB W (l ++ enc f.toNat ++ be c 8 ++ enc m.toNat))) := fun W v2 h2 => num_calls v2 _ m (by have := hp.m1; omega) W h2 (by rw [List.length_append, List.length_append]; omega)
  have ee : l ++ eP f c m = l ++ enc f.toNat ++ be c 8 ++ enc m.toNat := by unfold eP; simp only [List.append_assoc]
  rw [ee]
  generalize l ++ enc f.toNat ++ be c 8 ++ enc m.toNat = L3 at N3 ⊢
  generalize l ++ enc f.toNat ++ be c 8 = L2 at N2 N3
  generalize l ++ enc f.toNat = L1 at N1 N2
  obtain ⟨vp, vc, rfl, -, -⟩ := hv
  clear e1 e2 ee hl hp
  have HE : Hid (∀ e w1 w2, Below w.heap.size w w1 → NB w1 L3 e w2 → NB w L3 e w2) := fun e w1 w2 h k => NB.mono h k
  generalize hQ : NB w L3 = Q at HE ⊢
  clear hQ
  go_enter Try.func29, Try.ntmps29
  go_wp2_with fail
  obtain ⟨k0, k1, k2⟩ := box3 w (.int .i64 f) (.int .u64 (c : Int)) (.int .i64 m) 37
  have B0 : Hid (Below w.heap.size w (w.alloc (.cells #[.int .i64 f, .int .u64 (c : Int), .int .i64 m] 37))) := bel1 _ _
  generalize w.alloc (.cells #[.int .i64 f, .int .u64 (c : Int), .int .i64 m] 37) = w0 at *
  go_region_held3 (fun w' => w'.cell? ⟨w.heap.size, 0, none⟩ = some (.int .i64 f) ∧ w'.cell? ⟨w.heap.size, 1, none⟩ = some (.int .u64 (c : Int)) ∧ w'.cell? ⟨w.heap.size, 2, none⟩ = some (.int .i64 m)) (go_keep) (first
    | (go_at_call_of 26 (Value.int IntKind.i64 f); refine (N1.out _ (by first | exact B0.out | exact B0.out.drew)).mono ?_; rintro e w1 ⟨g1, q1, rfl, h1, hb1⟩; have H1 : Hid (Lib.HoldsBytes w1 (.slice (some ⟨g1, 0, none⟩) L1.length L1.length) L1) := h1; have B1 : Hid (Below w.heap.size w w1) := (by first | exact bel2 B0.out hb1 | exact bel2 B0.out.drew hb1); obtain ⟨y0, y1, y2⟩ := cells3 hb1 ⟨by assumption, by assumption, by assumption⟩; clear hb1 h1 q1)
    | (go_at_call 47; refine (N2.out _ _ H1.out).mono ?_; rintro e w2 ⟨g2, q2, rfl, h2, hb2⟩; have H2 : Hid (Lib.HoldsBytes w2 (.slice (some ⟨g2, 0, none⟩) L2.length L2.length) L2) := h2; have B2 : Hid (Below w.heap.size w w2) := bel2 B1.out hb2; obtain ⟨z0, z1, z2⟩ := cells3 hb2 ⟨by assumption, by assumption, by assumption⟩; clear hb2 h2 q2)
    | (go_at_call_of 26 (Value.int IntKind.i64 m); refine (N3.out _ _ H2.out).mono ?_; intro e w3 hN; have H3 : Hid (NB w2 L3 e w3) := hN; obtain ⟨g3, q3, rfl, h3, hb3⟩ := hN; obtain ⟨u0, u1, u2⟩ := cells3 hb3 ⟨by assumption, by assumption, by assumption⟩; clear hb3 h3 q3))
  go_wp2_with fail
  exact HE.out _ _ _ B2.out H3.out
end Go.Proofs.Ytacmlholbnddpaa
