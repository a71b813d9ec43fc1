/- The contract of awake. -/
import Derived.Test.YtlcgjehepalmcaaTH
namespace Go.Proofs.Ytlcgjehepalmcaa
open Go.ChangeShapes Go.WideShapes Go.ChangeAt Go.RowKit
theorem isput_ex (n : Nat) (t : Tv) : ∃ l, IsPut n t l := by
  by_cases hs : ShapeT n 4 t ∧ (bytesT n t).length ≤ 1000
  · exact ⟨bytesT n t, fun _ => rfl, fun h => absurd hs h⟩
  · exact ⟨[], fun h => absurd h hs, fun _ => rfl⟩
theorem Gr4.kb {g lo : Nat} {w w' : World} {u : Value} {xs : List Dn} (h : Gr4 lo w u xs) (hk : KB g w w') (hg : g < lo) : Gr4 lo w' u xs := by
  obtain ⟨cells, ho, hc⟩ := h
  have hlt := fun k hk => World.ownsRow.lt ho k hk
  refine ⟨cells, row_kept ho (fun B _ hB hgr => hk.2.2.2.2 B (lt_of_row hgr) (by have := (hlt B hB).1; omega)), fun i x hx => ?_⟩
  obtain ⟨cs, h0, h1, hq⟩ := hc i x hx
  exact ⟨cs, h0, h1, hq.keep (fun B q c hB hcl => ⟨hk.2.2.2.2 B (World.block_lt_of_cell? w ⟨B, q, none⟩ hcl) (by omega), hB⟩)⟩
def reqA (k : Int) : Array Value := #[.int .i64 k, .string ⟨#[]⟩, .string ⟨#[120]⟩, .string ⟨#[]⟩, .int .i64 0, .int .i64 0, .int .u64 0, .string ⟨#[]⟩, .slice none 0 0, .int .i64 0, .int .i64 0, .int .i64 0, .int .i64 0, .int .u64 0, .int .i64 0, .slice none 0 0, .slice none 0 0]
theorem isR_A (k : Int) (hk : (Lit.int .i64 k).wf = true) (pb : List UInt8) (hp : IsPut 1 (.mk 0 0 0 ⟨#[]⟩ []) pb) (w : World) : IsR w 1 (reqA k) ⟨k, ⟨#[120]⟩, ⟨#[]⟩, pb, 0, 0, 0, 0⟩ :=
  { size := rfl, c0 := rfl, c2 := rfl, c3 := rfl, c10 := rfl, c12 := rfl, c13 := rfl, c14 := rfl
    v := ⟨.mk 0 0 0 ⟨#[]⟩ [], ⟨0, 0, 0, ⟨#[]⟩, none, 0, 0, rfl, rfl, rfl, rfl, rfl, none, 0, rfl, ⟨by decide, by decide, by decide, by decide, by decide, by decide, by decide, by decide, by decide⟩, fun i t h => by simp at h⟩, hp⟩
    one := fun j v hv => by
      have hm : v ∈ (reqA k).toList := by
        rw [← Array.getElem?_toList] at hv
        exact List.mem_of_getElem? hv
      simp only [reqA, List.mem_cons, List.not_mem_nil, or_false] at hm
      rcases hm with rfl | rfl | rfl | rfl | rfl | rfl | rfl | rfl | rfl | rfl | rfl | rfl | rfl | rfl | rfl | rfl | rfl <;> rfl
    wk := hk, wn := by dsimp only; decide, wf := by dsimp only; decide, wm := by dsimp only; decide, wc := by dsimp only; decide, wq := by dsimp only; decide }
theorem add_nil (r : Rq) (run : Int) : addR [] r run = ([⟨r.req, r.kind, keyB r, run⟩], 0) := by
  unfold addR
  simp [fnd, plc]
theorem eqS_refl (s : ByteArray) : eqS s s = true := by simp [eqS]
theorem ask_one (r : Rq) (run : Int) : askR [⟨r.req, r.kind, keyB r, run⟩] r = (run, 0) := by
  unfold askR
  simp [fnd, eqS_refl]
theorem ask_kind (r r2 : Rq) (run : Int) (hq : r2.req = r.req) (hk : (r.kind == r2.kind) = false) : askR [⟨r.req, r.kind, keyB r, run⟩] r2 = (0, 15) := by
  unfold askR
  simp [fnd, hq, eqS_refl, hk]
theorem all_one {cs : Array Value} (h : ∀ (j : Nat) (v : Value), cs[j]? = some v → v.oneCell' = true) : cs.all (·.oneCell') = true := by
  rw [Array.all_eq_true]
  intro i hi
  exact h i _ (Array.getElem?_eq_getElem hi)
theorem set_A : (reqA 2).setIfInBounds 0 (.int .i64 1) = reqA 1 := rfl
set_option maxHeartbeats 4000000 in
set_option maxRecDepth 100000 in
theorem awake_calls (w : World) : Calls Try.prog 8 #[] w fun e w' => e = .returned (.bool true) ∧ Below w.heap.size w w' := by
  obtain ⟨pb, hpb⟩ := isput_ex 1 (.mk 0 0 0 ⟨#[]⟩ [])
  have IA := fun W => isR_A 2 (by decide) pb hpb W
  have IB := fun W => isR_A 1 (by decide) pb hpb W
  obtain ⟨rA, hrA⟩ : ∃ rA : Rq, rA = ⟨2, ⟨#[120]⟩, ⟨#[]⟩, pb, 0, 0, 0, 0⟩ := ⟨_, rfl⟩
  obtain ⟨rB, hrB⟩ : ∃ rB : Rq, rB = ⟨1, ⟨#[120]⟩, ⟨#[]⟩, pb, 0, 0, 0, 0⟩ := ⟨_, rfl⟩
  rw [← hrA] at IA
  rw [← hrB] at IB
  obtain ⟨dA, hdA⟩ : ∃ dA : Dn, dA = ⟨rA.req, rA.kind, keyB rA, 2⟩ := ⟨_, rfl⟩
  have hyA : ∀ d ∈ [dA], d.y.length ≤ 140737488355328 := fun d hd => by
    simp only [List.mem_cons, List.not_mem_nil, or_false] at hd
    subst hd
    rw [hdA]
    have := keyB_len (IA w)
    show (keyB rA).length ≤ _
    omega
  have KA : Hid (∀ W, Calls Try.prog 16 #[.slice none 0 0, .agg (reqA 2), .int .i64 2] W (AdP W ([dA], 0))) := fun W => by
    have := add_calls [] none 0 0 rfl (by omega) (fun d hd => by simp at hd) 1 (reqA 2) rA 2 W (Tb.nil _ _) (IA W)
    rwa [add_nil, ← hdA] at this
  have KQ1 : Hid (∀ W a c, Tb W a [dA] → Calls Try.prog 11 #[.slice a 1 c, .agg (reqA 2)] W (AkP W (2, 0))) := fun W a c h => by
    have := ask_calls [dA] a 1 c rfl (by omega) hyA 1 (reqA 2) rA W h (IA W)
    rwa [hdA, ask_one] at this
  have KQ2 : Hid (∀ W a c, Tb W a [dA] → Calls Try.prog 11 #[.slice a 1 c, .agg (reqA 1)] W (AkP W (0, 15))) := fun W a c h => by
    have := ask_calls [dA] a 1 c rfl (by omega) hyA 1 (reqA 1) rB W h (IB W)
    rwa [hdA, ask_kind rA rB 2 (by rw [hrA, hrB]) (by rw [hrA, hrB]; dsimp only; decide)] at this
  have hi2 : (Try.prog.info? 32).map (·.size) = some (reqA 2).size := info32s _ rfl
  have hi1 : (Try.prog.info? 32).map (·.size) = some (reqA 1).size := info32s _ rfl
  have h1A : (reqA 2).all (·.oneCell') = true := all_one (IA w).one
  have n0 : (w.alloc (.cells #[.int .i64 0, .string ⟨#[]⟩, .string ⟨#[]⟩, .string ⟨#[]⟩, .int .i64 0, .int .i64 0, .int .u64 0, .string ⟨#[]⟩, .slice none 0 0, .int .i64 0, .int .i64 0, .int .i64 0, .int .i64 0, .int .u64 0, .int .i64 0, .slice none 0 0, .slice none 0 0] 32)).heap[w.heap.size]? = some (.cells #[.int .i64 0, .string ⟨#[]⟩, .string ⟨#[]⟩, .string ⟨#[]⟩, .int .i64 0, .int .i64 0, .int .u64 0, .string ⟨#[]⟩, .slice none 0 0, .int .i64 0, .int .i64 0, .int .i64 0, .int .i64 0, .int .u64 0, .int .i64 0, .slice none 0 0, .slice none 0 0] 32 (0, 0)) := heap_alloc_last w _
  have hz0 : (#[.int .i64 0, .string ⟨#[]⟩, .string ⟨#[]⟩, .string ⟨#[]⟩, .int .i64 0, .int .i64 0, .int .u64 0, .string ⟨#[]⟩, .slice none 0 0, .int .i64 0, .int .i64 0, .int .i64 0, .int .i64 0, .int .u64 0, .int .i64 0, .slice none 0 0, .slice none 0 0] : Array Value).size = (reqA 2).size := rfl
  have r0 : (w.alloc (.cells (reqA 2) 32)).heap[w.heap.size]? = some (.cells (reqA 2) 32 (0, 0)) := heap_alloc_last w _
  have HB0 : Hid (Below w.heap.size w (w.alloc (.cells (reqA 2) 32))) := bel1 _ _
  have HS0 : Hid (w.heap.size < (w.alloc (.cells (reqA 2) 32)).heap.size) := lt_of_row r0
  clear IA IB hyA hrA hrB hdA hpb
  go_enter Try.func8, Try.ntmps8
  go_upto_region 2 with (refine wpList_store_row rfl 32 _ _ rfl w.heap.size (reqA 2) rfl rfl 32 _ n0 hi2 hz0 h1A ?_)
  rw [World.setRow_alloc_new]
  generalize w.alloc (.cells (reqA 2) 32) = W0 at r0 HB0 HS0 ⊢
  clear n0 hz0 h1A
  go_wp2_with (refine wpList_load_row rfl 32 _ rfl w.heap.size rfl 32 (reqA 2) (0, 0) _ r0 Try.underlying32 rfl hi2 ?_)
  refine (KA.out W0).mono ?_
  rintro e w1 ⟨v1, rfl, hg1, hb1⟩
  obtain ⟨ua, uc, e1⟩ := hg1.shape
  subst e1
  have HU1 : Hid (Gr4 W0.heap.size w1 (.slice ua [dA].length uc) [dA]) := hg1
  have HB1 : Hid (Below w.heap.size w w1) := bel2 HB0.out hb1
  have r1 := row_below hb1 r0
  clear hg1 hb1 KA r0
  dsimp only [List.length] at HU1
  go_wp2_with (refine wpList_load_row rfl 32 _ rfl w.heap.size rfl 32 (reqA 2) (0, 0) _ r1 Try.underlying32 rfl hi2 ?_)
  refine (KQ1.out w1 _ _ HU1.out.tb).mono ?_
  rintro e w2 ⟨rfl, hb2⟩
  have HU2 : Hid (Gr4 W0.heap.size w2 (.slice ua 1 uc) [dA]) := HU1.out.below hb2
  have HB2 : Hid (Below w.heap.size w w2) := bel2 HB1.out hb2
  have r2 := row_below hb2 r1
  have x0 : w2.cell? ⟨w.heap.size, 0, none⟩ = some (.int .i64 2) := row_cell r2 rfl
  have f0 := row_frozen r2 0
  clear hb2 KQ1 r1 HU1 HB1
  go_upto_region 5 with fail
  have k1 := KB.setCell w.heap.size w2 0 (.int .i64 1)
  have r3 := heap_setCell_same w2 w.heap.size 0 _ 32 (.int .i64 1) r2
  rw [set_A] at r3
  have HU3 : Hid (Gr4 W0.heap.size (w2.setCell ⟨w.heap.size, 0, none⟩ (.int .i64 1)) (.slice ua 1 uc) [dA]) := HU2.out.kb k1 HS0.out
  have HB3 : Hid (Below w.heap.size w (w2.setCell ⟨w.heap.size, 0, none⟩ (.int .i64 1))) := HB2.out.trans (k1.below (Nat.le_refl _) HB2.out.size)
  generalize w2.setCell ⟨w.heap.size, 0, none⟩ (.int .i64 1) = W3 at r3 HU3 HB3 ⊢
  clear k1 x0 f0 r2 HU2 HB2
  go_wp2_with (refine wpList_load_row rfl 32 _ rfl w.heap.size rfl 32 (reqA 1) (0, 0) _ r3 Try.underlying32 rfl hi1 ?_)
  refine (KQ2.out W3 _ _ HU3.out.tb).mono ?_
  rintro e w4 ⟨rfl, hb4⟩
  have HB4 : Hid (Below w.heap.size w w4) := bel2 HB3.out hb4
  clear hb4 KQ2 r3
  go_wp2_with fail
  go_ret
  exact ⟨rfl, HB4.out⟩
end Go.Proofs.Ytlcgjehepalmcaa
