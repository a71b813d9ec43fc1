/- The inputs of awake; the contracts of Running, awake, few. -/
import Derived.Test.YthhnfeeakdnncaaSU
namespace Go.Proofs.Ythhnfeeakdnncaa
open Go.ChangeShapes Go.WideShapes Go.ChangeAt Go.RowKit
/-- A state of this Run, with nothing else. -/
def zSr (r : Int) : Array Value := #[.int .i64 r, .int .i64 0, .int .i64 0, .int .i64 0, .int .i64 0, .int .i64 0, .int .i64 0, .string ⟨#[]⟩, .int .i64 0, .int .i64 0, .int .u64 0, .string ⟨#[]⟩, .slice none 0 0, .int .i64 0, .int .u64 0, .int .i64 0, .int .i64 0, .int .i64 0, .int .i64 0, .int .i64 0, .int .i64 0, .bool false, .bool false, .slice none 0 0, .slice none 0 0, .int .i64 0, .int .i64 0, .int .u64 0, .string ⟨#[]⟩, .slice none 0 0, .string ⟨#[]⟩]
def s0 (r : Int) : Sta := ⟨r, 0, 0, 0, 0, 0, 0, ⟨#[]⟩, zE, 0, 0, 0, 0, 0, 0, 0, 0, false, false, [], [], zE, ⟨#[]⟩⟩
theorem s0_rs (r : Int) (w : World) : Rs w 1 (zSr r) (s0 r) :=
  { size := rfl, c0 := rfl, c1 := rfl, c2 := rfl, c3 := rfl, c4 := rfl, c5 := rfl, c6 := rfl, c7 := rfl, c13 := rfl, c14 := rfl, c15 := rfl, c16 := rfl, c17 := rfl, c18 := rfl, c19 := rfl, c20 := rfl, c21 := rfl, c22 := rfl, c30 := rfl, inp := ⟨0, 0, 0, ⟨#[]⟩, none, 0, 0, rfl, rfl, rfl, rfl, rfl, zE_is w 0⟩, res := ⟨0, 0, 0, ⟨#[]⟩, none, 0, 0, rfl, rfl, rfl, rfl, rfl, zE_is w 0⟩, tm := ⟨none, 0, rfl, fun i r h => by simp [s0] at h⟩, up := ⟨none, 0, [], rfl, rfl, fun i r h => by simp at h, fun i r u h => by simp at h⟩ }
/-- An event of this kind and name, with nothing else. -/
def zEk (k : Int) (s : ByteArray) : Array Value := #[.int .i64 k, .int .i64 0, .int .i64 0, .int .i64 0, .string s, .int .i64 0, .int .i64 0, .int .u64 0, .string ⟨#[]⟩, .slice none 0 0, .int .i64 0, .int .u64 0, .int .i64 0]
def e0 (k : Int) (s : ByteArray) : Ev := ⟨k, 0, 0, 0, s, zE, 0, 0, 0⟩
theorem e0_is (k : Int) (s : ByteArray) (w : World) : IsEv (Is w 1) (zEk k s) (e0 k s) :=
  { size := rfl, c0 := rfl, c1 := rfl, c2 := rfl, c3 := rfl, c4 := rfl, v := ⟨0, 0, 0, ⟨#[]⟩, none, 0, 0, rfl, rfl, rfl, rfl, rfl, zE_is w 0⟩, c10 := rfl, c11 := rfl, c12 := rfl }
theorem small0 : SmallW 1 zE := ⟨by decide, fun i t h => by simp at h⟩
theorem sms0 (r : Int) : SmS 1 (s0 r) := ⟨small0, small0, fun i u h => by simp [s0] at h⟩
theorem zE_may : May 1 zE := by
  refine ⟨?_, by decide +kernel⟩
  refine ⟨?_, by decide, fun i t h => by simp at h⟩
  unfold Fits FitsB
  exact ⟨by decide, by decide, .inr rfl, .inr rfl, by decide +kernel, .inr (by decide +kernel), by decide, .inr rfl, by decide⟩
theorem may1 : MayE 1 (e0 1 ⟨#[116]⟩) := ⟨by decide +kernel, by decide +kernel, by decide +kernel, .inl ⟨by decide +kernel, zE_may⟩, by decide +kernel⟩
theorem may3 : MayE 1 (e0 3 ⟨#[]⟩) := ⟨by decide +kernel, by decide +kernel, by decide +kernel, .inr ⟨by decide +kernel, rfl⟩, by decide +kernel⟩
set_option maxHeartbeats 1000000 in
theorem running_calls (cs : Array Value) (z : Int) (w : World) (h : cs[1]? = some (.int .i64 z)) : Calls Try.prog 9 #[.agg cs] w fun e w' => e = .returned (.bool (z == 1)) ∧ Below w.heap.size w w' := by
  go_enter Try.func9, Try.ntmps9
  go_wp2_with fail
  go_ret
  exact ⟨rfl, bel1 _ _⟩
theorem start_calls (w : World) : Calls Try.prog 8 #[.agg (zSr 1), .agg (zEk 1 ⟨#[116]⟩)] w (StP 0 w) := step1 0 _ _ (s0 1) (e0 1 ⟨#[116]⟩) w (s0_rs 1 w) (e0_is _ _ w) (by decide) may1 (sms0 1) small0 (by decide) (by decide) rfl rfl rfl rfl
theorem early_calls (w : World) : Calls Try.prog 8 #[.agg (zSr 0), .agg (zEk 3 ⟨#[]⟩)] w (StP 20 w) := step3 0 _ _ (s0 0) (e0 3 ⟨#[]⟩) w (s0_rs 0 w) (e0_is _ _ w) (by decide) may3 (sms0 0) small0 (by decide) (by decide) rfl rfl
set_option maxHeartbeats 2000000 in
set_option maxRecDepth 100000 in
theorem awake_calls (w : World) : Calls Try.prog 5 #[] w fun e w' => e = .returned (.bool true) ∧ Below w.heap.size w w' := by
  go_enter Try.func5, Try.ntmps5
  go_wp2_with fail
  refine Calls.mono (start_calls _) ?_
  rintro e w1 ⟨⟨c1, rfl, s1, o1, xx⟩, hb1⟩
  obtain ⟨x1, x2⟩ := xx rfl
  clear xx
  have hi1 := info33s c1 s1
  have z1 : zS.size = c1.size := s1.symm
  have a1 := all_one o1
  have n1 : (w1.alloc (.cells zS 33)).heap[w1.heap.size]? = some (.cells zS 33 (0, 0)) := heap_alloc_new w1 _
  clear s1 o1
  go_upto_region 2 with (refine wpList_store_row rfl 33 _ _ rfl w1.heap.size c1 rfl rfl 33 zS n1 hi1 z1 a1 ?_)
  rw [World.setRow_alloc_new]
  have r1 : (w1.alloc (.cells c1 33)).heap[w1.heap.size]? = some (.cells c1 33 (0, 0)) := heap_alloc_new w1 _
  have b1 : Hid (Below w.heap.size w (w1.alloc (.cells c1 33))) := bel2 hb1 (bel1 w1 _)
  clear n1 hb1
  generalize w1.alloc (.cells c1 33) = W1 at r1 b1 ⊢
  go_wp2_with fail
  refine Calls.mono (early_calls _) ?_
  rintro e w2 ⟨⟨c2, rfl, s2, o2, -⟩, hb2⟩
  have hi2 := info33s c2 s2
  have z2 : zS.size = c2.size := s2.symm
  have a2 := all_one o2
  have n2 : (w2.alloc (.cells zS 33)).heap[w2.heap.size]? = some (.cells zS 33 (0, 0)) := heap_alloc_new w2 _
  have r2 := row_below hb2 r1
  have b2 : Hid (Below w.heap.size w w2) := bel2 b1.out hb2
  clear s2 o2 r1 hb2
  go_upto_region 3 with (refine wpList_store_row rfl 33 _ _ rfl w2.heap.size c2 rfl rfl 33 zS n2 hi2 z2 a2 ?_)
  rw [World.setRow_alloc_new]
  have r3 := row_below (bel1 w2 (.cells c2 33)) r2
  have b3 : Hid (Below w.heap.size w (w2.alloc (.cells c2 33))) := bel2 b2.out (bel1 w2 _)
  clear n2 r2
  generalize w2.alloc (.cells c2 33) = W2 at r3 b3 ⊢
  have g3 : ∀ j, W2.cell? ⟨w1.heap.size, j, none⟩ = c1[j]? := fun j => cell_of_row W2 _ j c1 33 (0, 0) r3
  go_wp2_with (refine wpList_load_rowG rfl 33 _ rfl w1.heap.size rfl 33 c1 (0, 0) _ r3 Try.underlying33 rfl hi1 ?_)
  refine Calls.mono (running_calls c1 1 _ x1) ?_
  rintro e w3 ⟨rfl, hb3⟩
  have b4 : Hid (Below w.heap.size w w3) := bel2 b3.out hb3
  clear hb3
  go_wp2_with fail
  go_ret
  exact ⟨rfl, b4.out⟩
set_option maxHeartbeats 1000000 in
theorem few_yes (cs : Array Value) (ta ua : Option Addr) (tl tc ul uc : Nat) (w : World) (h : cs[23]? = some (.slice ta tl tc)) (k : cs[24]? = some (.slice ua ul uc)) (h1 : (tl : Int) ≤ 60) (h2 : (ul : Int) ≤ 60) : Calls Try.prog 4 #[.agg cs] w fun e w' => e = .returned (.bool true) ∧ Below w.heap.size w w' := by
  go_enter Try.func4, Try.ntmps4
  go_wp2_with fail
  go_ret
  exact ⟨rfl, bel1 _ _⟩
set_option maxHeartbeats 1000000 in
theorem few_no (cs : Array Value) (ta ua : Option Addr) (tl tc ul uc : Nat) (w : World) (h : cs[23]? = some (.slice ta tl tc)) (k : cs[24]? = some (.slice ua ul uc)) (hn : ¬ (tl ≤ 60 ∧ ul ≤ 60)) : Calls Try.prog 4 #[.agg cs] w fun e w' => e = .returned (.bool false) ∧ Below w.heap.size w w' := by
  by_cases h1 : (tl : Int) ≤ 60
  · have h2 : (60 : Int) < (ul : Int) := by omega
    have d2 : decide ((ul : Int) ≤ 60) = false := decide_eq_false (by omega)
    clear hn
    go_enter Try.func4, Try.ntmps4
    go_wp2_with fail
    go_ret
    exact ⟨rfl, bel1 _ _⟩
  · have d1 : decide ((tl : Int) ≤ 60) = false := decide_eq_false h1
    clear hn
    go_enter Try.func4, Try.ntmps4
    go_wp2_with fail
    go_ret
    exact ⟨rfl, bel1 _ _⟩
end Go.Proofs.Ythhnfeeakdnncaa
