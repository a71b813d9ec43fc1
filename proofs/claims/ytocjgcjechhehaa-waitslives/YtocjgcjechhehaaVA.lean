/- The contracts of Sizes, few; a call over a list. -/
import Derived.Test.YtocjgcjechhehaaR
import Derived.Test.YtocjgcjechhehaaSX
namespace Go.Proofs.Ytocjgcjechhehaa
open Go.ChangeAt Go.ChangeShapes Go.Deep Go.RowKit Go.WideShapes
/-- What few tells: where it says yes, both are at most 60. -/
def FwP (p q : Nat) (w : World) (e : Ending) (w' : World) : Prop := (∃ b : Bool, e = .returned (.bool b) ∧ (b = true → p ≤ 60 ∧ q ≤ 60)) ∧ Below w.heap.size w w'
set_option maxHeartbeats 2000000 in
theorem sizes_calls (p q : Nat) (g : Nat) (w : World) (h0 : w.cell? ⟨g, 0, none⟩ = some (.int .i64 (p : Int))) (h1 : w.cell? ⟨g, 1, none⟩ = some (.int .i64 (q : Int))) (hp : p ≤ 9223372036854775807) (hq : q ≤ 9223372036854775807) :
    Calls Try.prog 22 #[.int .i64 60, .slice (some ⟨g, 0, none⟩) 2 2] w (FwP p q w) := by
  have HQ : Hid (∀ (b : Bool) w', (b = true → p ≤ 60 ∧ q ≤ 60) → Below w.heap.size w w' → FwP p q w (.returned (.bool b)) w') := fun b w' h1 h2 => ⟨⟨b, rfl, h1⟩, h2⟩
  have H0 : Hid (w.cell? ⟨g, 0, none⟩ = some (.int .i64 (p : Int))) := h0
  have H1 : Hid (w.cell? ⟨g, 1, none⟩ = some (.int .i64 (q : Int))) := h1
  have HP : Hid (p ≤ 9223372036854775807 ∧ q ≤ 9223372036854775807) := ⟨hp, hq⟩
  generalize FwP p q w = Q at HQ ⊢
  clear h0 h1 hp hq
  go_enter Try.func22, Try.ntmps22
  go_wp2_with fail
  go_loopw [0, 9] (fun t i wr => ∃ j : Nat, j ≤ 2 ∧ i = .int .i64 (j : Int) ∧ Hid ((j = 0 → t = .int .i64 60) ∧ (j = 1 → p ≤ 60 ∧ t = .int .i64 (60 - (p : Int))) ∧ (j = 2 → p ≤ 60 ∧ q ≤ 60)) ∧ Hid (Below w.heap.size w wr)) (fun _ i _ => 2 - (intOf i).toNat)
  case atStart => exact ⟨0, by omega, rfl, ⟨fun _ => rfl, fun h => by omega, fun h => by omega⟩, Below.refl _ _⟩
  case round =>
    obtain ⟨j, hj, rfl, HT, HB⟩ := hrel
    have hj3 : j = 0 ∨ j = 1 ∨ j = 2 := by omega
    rcases hj3 with rfl | rfl | rfl
    · have e0 := cellW H0.out HB.out
      obtain rfl := HT.out.1 rfl
      by_cases h6 : p ≤ 60
      · have h7 : ¬ ((60 : Int) < (p : Int)) := by omega
        have HW : Hid (wrap64 (60 - (p : Int)) = 60 - (p : Int)) := by show _ = _; unfold wrap64; omega
        have H6 : Hid (p ≤ 60) := h6
        clear h6
        go_wp2_with fail
        refine ⟨⟨1, by omega, by first | rfl | simp, ⟨fun h => by omega, fun _ => ⟨H6.out, ?_⟩, fun h => by omega⟩, HB⟩, ?_⟩
        · first | rw [HW.out] | rfl
        · simp [intOf]
      · have h7 : (60 : Int) < (p : Int) := by omega
        clear h6
        go_wp2_with fail
        first
          | exact HQ.out false _ (fun h => by cases h) HB.out
          | (go_ret; exact HQ.out false _ (fun h => by cases h) HB.out)
    · have e1 := cellW H1.out HB.out
      obtain ⟨hp6, rfl⟩ := HT.out.2.1 rfl
      by_cases h6 : (q : Int) ≤ 60 - (p : Int)
      · have h7 : ¬ ((60 : Int) - (p : Int) < (q : Int)) := by omega
        have H6 : Hid (p ≤ 60 ∧ q ≤ 60) := ⟨hp6, by omega⟩
        have hw : wrap64 (60 - (p : Int) - (q : Int)) = 60 - (p : Int) - (q : Int) := by unfold wrap64; omega
        clear h6 hp6
        go_wp2_with fail
        refine ⟨⟨2, by omega, by first | rfl | simp, ⟨fun h => by omega, fun h => by omega, fun _ => H6.out⟩, HB⟩, ?_⟩
        simp [intOf]
      · have h7 : (60 : Int) - (p : Int) < (q : Int) := by omega
        clear h6 hp6
        go_wp2_with fail
        first
          | exact HQ.out false _ (fun h => by cases h) HB.out
          | (go_ret; exact HQ.out false _ (fun h => by cases h) HB.out)
    · have H6 : Hid (p ≤ 60 ∧ q ≤ 60) := HT.out.2.2 rfl
      go_wp2_with fail
      first
        | exact HQ.out true _ (fun _ => H6.out) HB.out
        | (go_ret; exact HQ.out true _ (fun _ => H6.out) HB.out)
set_option maxHeartbeats 2000000 in
theorem few_calls (n : Nat) (cs : Array Value) (d : Dy) (w : World) (h : IsD w n cs d) : Calls Try.prog 7 #[.agg cs] w (FwP d.az.length d.kz.length w) := by
  obtain ⟨a, c, h24, _⟩ := h.az
  obtain ⟨a', c', h25, _⟩ := h.kz
  have HB0 : Hid (Below w.heap.size w (w.alloc (.cells cs 33))) := bel1 w _
  have hrow : (w.alloc (.cells cs 33)).heap[w.heap.size]? = some (.cells cs 33 (0, 0)) := heap_alloc_new w _
  have e24 : (w.alloc (.cells cs 33)).cell? ⟨w.heap.size, 24, none⟩ = some (.slice a d.az.length c) := row_cell hrow h24
  have e25 : (w.alloc (.cells cs 33)).cell? ⟨w.heap.size, 25, none⟩ = some (.slice a' d.kz.length c') := row_cell hrow h25
  have HLA := h.la
  have HLK := h.lk
  have HLB : Hid (d.az.length ≤ 9223372036854775807 ∧ d.kz.length ≤ 9223372036854775807) := ⟨HLA, HLK⟩
  have HF : Hid (∀ W, Below w.heap.size w W → ∀ e w', FwP d.az.length d.kz.length W e w' → FwP d.az.length d.kz.length w e w') := fun W hW e w' h => ⟨h.1, bel2 hW h.2⟩
  generalize d.az.length = p at *
  generalize d.kz.length = q at *
  clear h h24 h25 hrow HLA HLK
  go_enter Try.func7, Try.ntmps7
  go_upto_region 1 with fail
  generalize w.alloc (.cells cs 33) = W0 at HB0 e24 e25 ⊢
  have KS : Hid (Calls Try.prog 22 #[.int .i64 60, .slice (some ⟨W0.heap.size, 0, none⟩) 2 2] (W0.alloc (.cells #[.int .i64 (p : Int), .int .i64 (q : Int)] 3)) _) := sizes_calls p q W0.heap.size _ (row_cell (heap_alloc_new W0 _) rfl) (row_cell (heap_alloc_new W0 _) rfl) HLB.out.1 HLB.out.2
  go_wp2_with fail
  refine KS.out.mono ?_
  intro e u1 hu
  have h2 := HF.out _ (bel2 HB0.out (bel1 _ _)) _ _ hu
  obtain ⟨⟨b, rfl, hb⟩, hbel⟩ := h2
  have HR : Hid (FwP p q w (.returned (.bool b)) u1) := ⟨⟨b, rfl, hb⟩, hbel⟩
  clear hu hb hbel KS
  go_wp2_with fail
  go_ret
  exact HR.out
end Go.Proofs.Ytocjgcjechhehaa
