/- The contracts of isRoom, isZone, New, made, put. -/
import Derived.Test.YtfjcjaojbdcpeaaNB
import Derived.BigRegion
namespace Go.Proofs.Ytfjcjaojbdcpeaa
open Go.ChangeShapes Go.WideShapes Go.ChangeAt Go.RowKit Go.Maps
/-- The block g is the cells cs of the type t. -/
def Bk (w : World) (g : Nat) (cs : Array Value) (t : TypeId) : Prop := w.heap[g]? = some (.cells cs t (0, 0))
theorem Bk.lt {w : World} {g : Nat} {cs : Array Value} {t : TypeId} (h : Bk w g cs t) : g < w.heap.size := by
  rcases Nat.lt_or_ge g w.heap.size with h' | h'
  · exact h'
  · unfold Bk at h; rw [Array.getElem?_eq_none h'] at h; cases h
theorem Bk.below {w w' : World} {g : Nat} {cs : Array Value} {t : TypeId} (h : Bk w g cs t) (hb : Below w.heap.size w w') : Bk w' g cs t := (hb.block g h.lt).trans h
theorem Bk.cell {w : World} {g : Nat} {cs : Array Value} {t : TypeId} (h : Bk w g cs t) (i : Nat) : w.cell? ⟨g, i, none⟩ = cs[i]? := by
  unfold Bk at h
  simp [World.cell?, h]
theorem Bk.new (w : World) (cs : Array Value) (t : TypeId) : Bk (w.alloc (.cells cs t)) w.heap.size cs t := by
  unfold Bk World.alloc
  simp
theorem Bk.frozen {w : World} {g : Nat} {cs : Array Value} {t : TypeId} (h : Bk w g cs t) (i : Nat) : w.frozen? ⟨g, i, none⟩ = false := by
  unfold Bk at h
  simp [World.frozen?, h]
theorem Bk.set {w : World} {g : Nat} {cs : Array Value} {t : TypeId} (h : Bk w g cs t) (i : Nat) (v : Value) : Bk (w.setCell ⟨g, i, none⟩ v) g (cs.setIfInBounds i v) t := by
  unfold Bk at h ⊢
  simp [World.setCell, Array.getElem?_modify, h]
theorem isRoom_calls (n : Int) (w : World) : Calls Try.prog 26 #[.int .i64 n] w fun e w' => e = .returned (.bool (decide (0 ≤ n ∧ n ≤ 16777216))) ∧ w' = w := by
  by_cases h0 : 0 ≤ n
  · by_cases h1 : n ≤ 16777216
    · have hd : decide (0 ≤ n ∧ n ≤ 16777216) = true := by simp [h0, h1]
      rw [hd]
      go_enter Try.func26, Try.ntmps26
      go_wp2_with fail
      go_ret
      exact ⟨rfl, rfl⟩
    · have hd : decide (0 ≤ n ∧ n ≤ 16777216) = false := by simp [h1]
      rw [hd]
      go_enter Try.func26, Try.ntmps26
      go_wp2_with fail
      go_ret
      exact ⟨rfl, rfl⟩
  · have hd : decide (0 ≤ n ∧ n ≤ 16777216) = false := by simp [h0]
    rw [hd]
    go_enter Try.func26, Try.ntmps26
    go_wp2_with fail
    go_ret
    exact ⟨rfl, rfl⟩
theorem isZone_calls (n : Int) (w : World) : Calls Try.prog 39 #[.int .i64 n] w fun e w' => e = .returned (.bool (decide (0 ≤ n ∧ n < 40))) ∧ w' = w := by
  by_cases h0 : 0 ≤ n
  · by_cases h1 : n < 40
    · have hd : decide (0 ≤ n ∧ n < 40) = true := by simp [h0, h1]
      rw [hd]
      go_enter Try.func39, Try.ntmps39
      go_wp2_with fail
      go_ret
      exact ⟨rfl, rfl⟩
    · have hd : decide (0 ≤ n ∧ n < 40) = false := by simp [h1]
      rw [hd]
      go_enter Try.func39, Try.ntmps39
      go_wp2_with fail
      go_ret
      exact ⟨rfl, rfl⟩
  · have hd : decide (0 ≤ n ∧ n < 40) = false := by simp [h0]
    rw [hd]
    go_enter Try.func39, Try.ntmps39
    go_wp2_with fail
    go_ret
    exact ⟨rfl, rfl⟩
set_option maxRecDepth 100000 in
theorem made_calls (g b : Nat) (c0 c1 c2 : Value) (w : World) (h : Bk w g #[c0, c1, c2, .map (some b)] 57) : Calls Try.prog 35 #[.pointer (some ⟨g, 0, none⟩)] w fun e w' => e = .returned (.bool true) ∧ w' = w := by
  have q55 : ∀ (w : World), (binOp .neq 55 (.map (some b)) (.map none)).run Try.prog w = .ok (.bool true) w := fun w => run_neq_map_nil (P := Try.prog) w 55 _ _ (some b) Try.underlying55
  have x3 : w.cell? ⟨g, 3, none⟩ = some (.map (some b)) := h.cell 3
  go_enter Try.func35, Try.ntmps35
  go_wp2_with fail
  go_ret
  exact ⟨rfl, rfl⟩
/-- New gives a disk of no bytes. -/
theorem new_calls (n : Int) (hn : 0 ≤ n ∧ n ≤ 16777216) (w : World) : Calls Try.prog 7 #[.int .i64 n] w fun e w' => ∃ g b, e = .returned (.tuple #[.pointer (some ⟨g, 0, none⟩), .int .i64 0]) ∧ w.heap.size ≤ b ∧ b < g ∧ Bk w' g #[.int .i64 n, .int .i64 (-1), .bool false, .map (some b)] 57 ∧ Zm w' b 0 (.map []) ∧ Below w.heap.size w w' := by
  have HR : Hid (Calls Try.prog 26 #[.int .i64 n] w fun e w' => e = .returned (.bool true) ∧ w' = w) := (isRoom_calls n w).mono fun e w' ⟨h1, h2⟩ => ⟨by rw [h1]; simp [hn], h2⟩
  have hmm := @run_makeMap Try.prog
  have HZ : Hid (Zm (w.alloc (.map #[] 0)) w.heap.size 0 (.map [])) := Zm.new w
  clear hn
  go_enter Try.func7, Try.ntmps7
  go_wp2_with fail
  refine HR.out.mono ?_
  rintro e w1 ⟨rfl, hw⟩
  have hw' := hw.symm
  subst hw'
  clear hw HR
  go_wp2_with fail
  go_ret2
  refine ⟨w.heap.size + 1, w.heap.size, rfl, Nat.le_refl _, Nat.lt_succ_self _, ?_, World.ownsMap.alloc HZ.out _, bel2 ((Below.refl _ w).alloc (Nat.le_refl _) _) (bel1 _ _)⟩
  have := Bk.new (w.alloc (.map #[] 0)) #[.int .i64 n, .int .i64 (-1), .bool false, .map (some w.heap.size)] 57
  simpa using this
/-- All blocks but g are as they were. -/
def KB (g : Nat) (w w' : World) : Prop := w'.os = w.os ∧ w'.tape = w.tape ∧ w'.output = w.output ∧ w.heap.size ≤ w'.heap.size ∧ ∀ k, k < w.heap.size → k ≠ g → w'.heap[k]? = w.heap[k]?
theorem KB.refl (g : Nat) (w : World) : KB g w w := ⟨rfl, rfl, rfl, Nat.le_refl _, fun _ _ _ => rfl⟩
theorem KB.trans {g : Nat} {a b c : World} (h : KB g a b) (k : KB g b c) : KB g a c :=
  ⟨k.1.trans h.1, k.2.1.trans h.2.1, k.2.2.1.trans h.2.2.1, Nat.le_trans h.2.2.2.1 k.2.2.2.1, fun i hi hg => (k.2.2.2.2 i (Nat.lt_of_lt_of_le hi h.2.2.2.1) hg).trans (h.2.2.2.2 i hi hg)⟩
theorem KB.of_below {g : Nat} {w w' : World} (h : Below w.heap.size w w') : KB g w w' := ⟨h.os, h.tape, h.output, h.size, fun k hk _ => h.block k hk⟩
theorem KB.of_map {b : Nat} {w w' : World} (h : w.mapTurned w' b) : KB b w w' := by
  have g := h.grown
  exact ⟨g.os, g.tape, g.output, g.size, fun k hk hne => g.block k hk (fun e => hne (Option.some.inj e))⟩
theorem Zm.kb {w w' : World} {b g n : Nat} {D : DataW Value} (h : Zm w b n D) (k : KB g w w') (hg : b ≠ g) : Zm w' b n D := by
  have hlt := World.ownsMap.lt h
  obtain ⟨es, clock, hb, r⟩ := h
  exact ⟨es, clock, (k.2.2.2.2 b hlt hg).trans hb, r⟩
set_option maxHeartbeats 1000000 in
set_option maxRecDepth 100000 in
theorem put_some (g b n : Nat) (c0 c1 c2 : Value) (D : DataW Value) (z : Int) (hz : (Lit.int .i64 z).wf = true) (a : Option Addr) (k c : Nat) (s : Int) (w : World) (h : Bk w g #[c0, c1, c2, .map (some b)] 57) (hm : Zm w b n D) (hn : n < maxLen) (hk : k ≠ 0) :
    Calls Try.prog 42 #[.pointer (some ⟨g, 0, none⟩), .int .i64 z, .agg #[.slice a k c, .int .i64 s]] w fun e w' => e = .returned (.tuple #[]) ∧ Zm w' b (n + 1) (D.put (.int .i64 z) (.held (.agg #[.slice a k c, .int .i64 s]))) ∧ KB b w w' := by
  have x3 : (w.alloc (.cells #[.slice a k c, .int .i64 s] 65)).cell? ⟨g, 3, none⟩ = some (.map (some b)) := (h.below (bel1 _ _)).cell 3
  have hm1 : Zm (w.alloc (.cells #[.slice a k c, .int .i64 s] 65)) b n D := World.ownsMap.alloc hm _
  obtain ⟨w', hr, hz', ht⟩ := Zm.put (w := (w.alloc (.cells #[.slice a k c, .int .i64 s] 65)).drew) hm1 hn hz (.agg #[.slice a k c, .int .i64 s])
  have HZ : Hid (Zm w' b (n + 1) (D.put (.int .i64 z) (.held (.agg #[.slice a k c, .int .i64 s])))) := hz'
  have HK : Hid (KB b w w') := (KB.of_below (bel2 (bel1 _ _) (Below.refl _ _).drew)).trans (KB.of_map ht)
  have hk' : ((k : Int) == 0) = false := by simpa using hk
  clear h hm hz' ht hm1 hk
  go_enter Try.func42, Try.ntmps42
  go_wp2_with fail
  go_region
  all_goals go_wp2_with fail
  all_goals first | go_end0 | refine bodyPost_ret (results_none rfl _ _ _) rfl ?_
  all_goals exact ⟨rfl, HZ.out, HK.out⟩
set_option maxHeartbeats 1000000 in
set_option maxRecDepth 100000 in
theorem put_none (g b n : Nat) (c0 c1 c2 : Value) (D : DataW Value) (z : Int) (hz : (Lit.int .i64 z).wf = true) (a : Option Addr) (c : Nat) (s : Int) (w : World) (h : Bk w g #[c0, c1, c2, .map (some b)] 57) (hm : Zm w b n D) :
    Calls Try.prog 42 #[.pointer (some ⟨g, 0, none⟩), .int .i64 z, .agg #[.slice a 0 c, .int .i64 s]] w fun e w' => e = .returned (.tuple #[]) ∧ Zm w' b n (D.del (.int .i64 z)) ∧ KB b w w' := by
  have x3 : (w.alloc (.cells #[.slice a 0 c, .int .i64 s] 65)).cell? ⟨g, 3, none⟩ = some (.map (some b)) := (h.below (bel1 _ _)).cell 3
  have hm1 : Zm (w.alloc (.cells #[.slice a 0 c, .int .i64 s] 65)) b n D := World.ownsMap.alloc hm _
  have HK : Hid (∀ w', (w.alloc (.cells #[.slice a 0 c, .int .i64 s] 65)).mapTurned w' b → KB b w w') := fun w' ht => (KB.of_below (bel1 _ _)).trans (KB.of_map ht)
  clear h hm
  go_enter Try.func42, Try.ntmps42
  go_wp2_with (at_delete; refine wpList_delete_own _ rfl _ _ 55 3 rfl 65 intKeyed Try.underlying55 _ b n _ rfl hm1 _ _ rfl (keyI hz) ?_; intro w1 hz1 ht1)
  all_goals go_wp2_with fail
  all_goals first | go_end0 | refine bodyPost_ret (results_none rfl _ _ _) rfl ?_
  all_goals exact ⟨rfl, hz1, HK.out _ ht1⟩
end Go.Proofs.Ytfjcjaojbdcpeaa
