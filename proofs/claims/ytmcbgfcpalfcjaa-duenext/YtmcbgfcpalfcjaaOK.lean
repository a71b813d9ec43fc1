/- The contract of awake. -/
import Derived.Test.YtmcbgfcpalfcjaaOJ
import Derived.Test.YtmcbgfcpalfcjaaOC
namespace Go.Proofs.Ytmcbgfcpalfcjaa
open Go.ChangeShapes Go.WideShapes Go.ChangeAt Go.RowKit
def zS0 : Array Value := #[.int .i64 0, .int .i64 0, .int .i64 0, .int .i64 0, .int .i64 0, .int .i64 0, .int .i64 0, .string ⟨#[]⟩, .int .i64 0, .int .i64 0, .int .u64 0, .string ⟨#[]⟩, .slice none 0 0, .int .i64 0, .int .u64 0, .int .i64 0, .int .i64 0, .int .i64 0, .int .i64 0, .int .i64 0, .int .i64 0, .bool false, .bool false, .slice none 0 0, .slice none 0 0, .int .i64 0, .int .i64 0, .int .u64 0, .string ⟨#[]⟩, .slice none 0 0, .string ⟨#[]⟩]
/-- The state that awake looks at; its timers lie in block g. -/
def zSa (g : Nat) : Array Value := #[.int .i64 1, .int .i64 1, .int .i64 1, .int .i64 0, .int .i64 0, .int .i64 0, .int .i64 0, .string ⟨#[]⟩, .int .i64 0, .int .i64 0, .int .u64 0, .string ⟨#[]⟩, .slice none 0 0, .int .i64 0, .int .u64 0, .int .i64 0, .int .i64 0, .int .i64 0, .int .i64 0, .int .i64 0, .int .i64 0, .bool false, .bool false, .slice (some ⟨g, 0, none⟩) 2 2, .slice none 0 0, .int .i64 0, .int .i64 0, .int .u64 0, .string ⟨#[]⟩, .slice none 0 0, .string ⟨#[]⟩]
def tA : List Tm := [⟨⟨#[97]⟩, 5⟩, ⟨⟨#[98]⟩, 4⟩]
def sA : Sta := ⟨1, 1, 1, 0, 0, 0, 0, ⟨#[]⟩, .mk 0 0 0 ⟨#[]⟩ [], 0, 0, 0, 0, 0, 0, 0, 0, false, false, tA, [], .mk 0 0 0 ⟨#[]⟩ [], ⟨#[]⟩⟩
theorem sA_tm (g : Nat) (w : World) (h : w.heap[g]? = some (.cells #[.string ⟨#[97]⟩, .int .i64 5, .string ⟨#[98]⟩, .int .i64 4] 49 (0, 0))) : RowS (fun _ => True) w (some ⟨g, 0, none⟩) 2 (tA.map Tm.cells) := by
  intro i r hr
  have hl := Lies.row h
  match i, hr with
  | 0, hr =>
    obtain rfl : Tm.cells ⟨⟨#[97]⟩, 5⟩ = r := by simpa [tA] using hr
    refine ⟨rfl, ?_, g, 0, rfl, trivial, ?_⟩
    · exact fun j v hv => by match j, hv with | 0, hv => cases hv; rfl | 1, hv => cases hv; rfl
    · exact fun j v hv => by match j, hv with | 0, hv => cases hv; exact hl 0 _ rfl | 1, hv => cases hv; exact hl 1 _ rfl
  | 1, hr =>
    obtain rfl : Tm.cells ⟨⟨#[98]⟩, 4⟩ = r := by simpa [tA] using hr
    refine ⟨rfl, ?_, g, 0, rfl, trivial, ?_⟩
    · exact fun j v hv => by match j, hv with | 0, hv => cases hv; rfl | 1, hv => cases hv; rfl
    · exact fun j v hv => by match j, hv with | 0, hv => cases hv; exact hl 2 _ rfl | 1, hv => cases hv; exact hl 3 _ rfl
theorem sA_rs (g : Nat) (w : World) (h : w.heap[g]? = some (.cells #[.string ⟨#[97]⟩, .int .i64 5, .string ⟨#[98]⟩, .int .i64 4] 49 (0, 0))) : Rs w 1 (zSa g) sA :=
  { size := rfl, c0 := rfl, c1 := rfl, c2 := rfl, c3 := rfl, c4 := rfl, c5 := rfl, c6 := rfl, c7 := rfl, c13 := rfl, c14 := rfl, c15 := rfl, c16 := rfl, c17 := rfl, c18 := rfl, c19 := rfl, c20 := rfl, c21 := rfl, c22 := rfl, c30 := rfl, inp := ⟨0, 0, 0, ⟨#[]⟩, none, 0, 0, rfl, rfl, rfl, rfl, rfl, zero_is w 0⟩, res := ⟨0, 0, 0, ⟨#[]⟩, none, 0, 0, rfl, rfl, rfl, rfl, rfl, zero_is w 0⟩, tm := ⟨_, 2, rfl, sA_tm g w h⟩, up := ⟨none, 0, [], rfl, rfl, fun i r h => by simp at h, fun i r u h => by simp at h⟩ }
theorem sA_rows : atR sA (tmD sA 7) = [evR 10 7 0 0 ⟨#[98]⟩, evR 10 7 0 0 ⟨#[97]⟩, evR 2 7 1 7 ⟨#[]⟩] := by kernel_rfl
set_option maxHeartbeats 2000000 in
set_option maxRecDepth 100000 in
theorem awake_calls (w : World) : Calls Try.prog 5 #[] w fun e w' => e = .returned (.bool true) ∧ Below w.heap.size w w' := by
  have HW1 : Hid ((w.alloc (.cells #[.string ⟨#[97]⟩, .int .i64 5, .string ⟨#[98]⟩, .int .i64 4] 49)).heap[w.heap.size]? = some (.cells #[.string ⟨#[97]⟩, .int .i64 5, .string ⟨#[98]⟩, .int .i64 4] 49 (0, 0))) := heap_alloc_new w _
  have hi0 := info33s (zSa w.heap.size) rfl
  have z1 : zS0.size = (zSa w.heap.size).size := rfl
  have a1 : (zSa w.heap.size).all (·.oneCell') = true := all_one fun j v hv => IsS.one (sA_rs _ _ HW1.out) j v hv
  have n1 : ((w.alloc (.cells #[.string ⟨#[97]⟩, .int .i64 5, .string ⟨#[98]⟩, .int .i64 4] 49)).alloc (.cells zS0 33)).heap[w.heap.size + 1]? = some (.cells zS0 33 (0, 0)) := by
    have := heap_alloc_new (w.alloc (.cells #[.string ⟨#[97]⟩, .int .i64 5, .string ⟨#[98]⟩, .int .i64 4] 49)) (.cells zS0 33)
    simpa using this
  go_enter Try.func5, Try.ntmps5
  go_upto_region 2 with (refine wpList_store_row rfl 33 _ _ rfl (w.heap.size + 1) (zSa w.heap.size) rfl rfl 33 zS0 n1 hi0 z1 a1 ?_)
  have e1 : w.heap.size + 1 = (w.alloc (.cells #[.string ⟨#[97]⟩, .int .i64 5, .string ⟨#[98]⟩, .int .i64 4] 49)).heap.size := by simp
  rw [e1, World.setRow_alloc_new]
  have r2 : ((w.alloc (.cells #[.string ⟨#[97]⟩, .int .i64 5, .string ⟨#[98]⟩, .int .i64 4] 49)).alloc (.cells (zSa w.heap.size) 33)).heap[(w.alloc (.cells #[.string ⟨#[97]⟩, .int .i64 5, .string ⟨#[98]⟩, .int .i64 4] 49)).heap.size]? = some (.cells (zSa w.heap.size) 33 (0, 0)) := heap_alloc_new _ _
  have HR : Hid (Rs ((w.alloc (.cells #[.string ⟨#[97]⟩, .int .i64 5, .string ⟨#[98]⟩, .int .i64 4] 49)).alloc (.cells (zSa w.heap.size) 33)) 1 (zSa w.heap.size) sA) := Rs.below (sA_rs _ _ HW1.out) (bel1 _ _)
  have HB2 : Hid (Below w.heap.size w ((w.alloc (.cells #[.string ⟨#[97]⟩, .int .i64 5, .string ⟨#[98]⟩, .int .i64 4] 49)).alloc (.cells (zSa w.heap.size) 33))) := bel2 (bel1 w _) (bel1 _ _)
  clear n1 z1 a1 e1 HW1
  generalize w.alloc (.cells #[.string ⟨#[97]⟩, .int .i64 5, .string ⟨#[98]⟩, .int .i64 4] 49) = W1 at r2 HR HB2 ⊢
  generalize W1.alloc (.cells (zSa w.heap.size) 33) = W2 at r2 HR HB2 ⊢
  generalize zSa w.heap.size = cs at r2 HR hi0 ⊢
  go_wp2_with (refine wpList_load_row rfl 33 _ rfl W1.heap.size rfl 33 cs (0, 0) _ r2 Try.underlying33 rfl hi0 ?_)
  refine Calls.mono (at_calls 1 _ sA 7 _ HR.out (by decide) (by decide)) ?_
  rintro e w4 ⟨⟨v4, rfl, hO⟩, hb⟩
  have HB4 : Hid (Below w.heap.size w w4) := bel2 HB2.out hb
  rw [sA_rows] at hO
  have hO2 : w4.ownsRow W2.heap.size 51 13 v4 3 ([evR 10 7 0 0 ⟨#[98]⟩, evR 10 7 0 0 ⟨#[97]⟩, evR 2 7 1 7 ⟨#[]⟩] : List (List Value)).flatten := hO
  rcases Go.Joins.ownsRow_forms hO2 with ⟨_, h0⟩ | ⟨g4, cap, rfl⟩
  · cases h0
  have l0 : w4.cell? ⟨g4, 4, none⟩ = some (.string ⟨#[98]⟩) := (World.ownsRow.cellAt hO2 4 (by decide)).trans rfl
  have l1 : w4.cell? ⟨g4, 17, none⟩ = some (.string ⟨#[97]⟩) := (World.ownsRow.cellAt hO2 17 (by decide)).trans rfl
  have l2 : w4.cell? ⟨g4, 26, none⟩ = some (.int .i64 2) := (World.ownsRow.cellAt hO2 26 (by decide)).trans rfl
  clear hO hO2 hb r2 HR
  go_wp2_with fail
  go_ret
  exact ⟨rfl, HB4.out⟩
end Go.Proofs.Ytmcbgfcpalfcjaa
