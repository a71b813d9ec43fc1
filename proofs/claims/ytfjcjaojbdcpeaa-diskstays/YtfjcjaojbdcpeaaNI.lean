/- The contract of first: a zone cut. -/
import Derived.Test.YtfjcjaojbdcpeaaNH
import Derived.BigRegion
namespace Go.Proofs.Ytfjcjaojbdcpeaa
open Go.ChangeShapes Go.WideShapes Go.ChangeAt Go.RowKit Go.Maps
theorem info65 : (Try.prog.info? 65).map (fun i => (i.zero, i.size, i.bytes)) = some (some zC, 2, 32) := by kernel_rfl
theorem load2 {w : World} {g : Nat} {c0 c1 : Value} (h : Bk w g #[c0, c1] 65) : (loadVar 65 ⟨g, 0, none⟩).run Try.prog w = .ok (.agg #[c0, c1]) w := by
  have hl : (loadCells ⟨g, 0, none⟩ 2).run Try.prog w = .ok #[c0, c1] w :=
    run_loadCells_list (P := Try.prog) w ⟨g, 0, none⟩ [c0, c1] (fun j v hv => by
      rw [add_plain, Nat.zero_add, h.cell j]
      simpa using hv)
  obtain ⟨i0, hi, _, hz1, _⟩ := info_parts info65
  have hagg : (isAgg 65).run Try.prog w = .ok true w := by
    unfold isAgg
    rw [Sem.run_bind, run_underlying Try.underlying65 w]
    rfl
  simp [loadVar, Sem.run_bind, hagg, sizeOf, typeInfo, hi, hz1, hl]
theorem ret45 (tmps : Array Value) {w : World} {g : Nat} {c0 c1 : Value} (hp : tmps.getD 4 undef = .pointer (some ⟨g, 0, none⟩)) (hb : Bk w g #[c0, c1] 65) :
    (results Try.f45 tmps).run Try.prog w = .ok (.agg #[c0, c1]) w := by
  have hp' : tmps[4]?.getD undef = .pointer (some ⟨g, 0, none⟩) := by simpa using hp
  simp [results, hp', asAddr, load2 hb]
/-- A row that is cut. -/
theorem Own.cut {lo : Nat} {w : World} {a : Option Addr} {n c : Nat} {l : List UInt8} (h : Own lo w (.slice a n c) l) {m : Nat} (hm : m ≤ l.length) : Own lo w (.slice a m c) (l.take m) := by
  have h0 : w.ownsRow lo 5 1 (.slice a n c) l.length (bval l) := h
  show w.ownsRow lo 5 1 (.slice a m c) (l.take m).length (bval (l.take m))
  have hlen : (l.take m).length = m := by rw [List.length_take]; omega
  obtain ⟨h1, ⟨he, h2⟩ | ⟨g, cap, cur, he, hB, hg, hle, hmx, hcs, ht⟩⟩ := h0
  · cases he
    have : m = 0 := by omega
    subst this
    exact ⟨by simp [bval], .inl ⟨rfl, by simp⟩⟩
  · cases he
    refine ⟨by simp [bval], .inr ⟨g, c, cur, by rw [hlen], hB, hg, by omega, hmx, hcs, ?_⟩⟩
    rw [hlen]
    have e : bval (l.take m) = (bval l).take m := by simp [bval, List.map_take]
    rw [e, ← ht, List.take_take, Nat.mul_one, Nat.mul_one, Nat.min_eq_left hm]
set_option maxHeartbeats 1000000 in
set_option maxRecDepth 100000 in
theorem first_calls (g0 : Nat) (n c m : Nat) (s : Int) (hm : m ≤ n) (hn : n ≤ c) (w : World) :
    Calls Try.prog 45 #[.agg #[.slice (some ⟨g0, 0, none⟩) n c, .int .i64 s], .int .i64 (m : Int)] w fun e w' => e = .returned (.agg #[.slice (some ⟨g0, 0, none⟩) m c, .int .i64 (min s (m : Int))]) ∧ Below w.heap.size w w' := by
  have h0 : (0 : Int) ≤ (m : Int) := by omega
  have h1 : (m : Int) ≤ (c : Int) := by omega
  have B2 : Hid (Bk ((w.alloc (.cells #[.slice (some ⟨g0, 0, none⟩) n c, .int .i64 s] 65)).alloc (.cells #[.slice (some ⟨g0, 0, none⟩) m c, .int .i64 (min s (m : Int))] 65)) (w.heap.size + 1) #[.slice (some ⟨g0, 0, none⟩) m c, .int .i64 (min s (m : Int))] 65) := by
    have := Bk.new (w.alloc (.cells #[.slice (some ⟨g0, 0, none⟩) n c, .int .i64 s] 65)) #[.slice (some ⟨g0, 0, none⟩) m c, .int .i64 (min s (m : Int))] 65
    show Bk _ _ _ _
    simpa using this
  go_enter Try.func45, Try.ntmps45
  go_wp2_with fail
  go_region
  go_wp2_with fail
  refine bodyPost_ret (ret45 _ (g := w.heap.size + 1) rfl ((B2.out).below (Below.refl _ _).drew)) rfl ?_
  exact ⟨rfl, (bel2 (bel1 _ _) (bel1 _ _)).drew⟩
set_option maxHeartbeats 1000000 in
set_option maxRecDepth 100000 in
theorem first_nil (s : Int) (w : World) :
    Calls Try.prog 45 #[.agg #[.slice none 0 0, .int .i64 s], .int .i64 0] w fun e w' => e = .returned (.agg #[.slice none 0 0, .int .i64 (min s 0)]) ∧ Below w.heap.size w w' := by
  have B2 : Hid (Bk ((w.alloc (.cells #[.slice none 0 0, .int .i64 s] 65)).alloc (.cells #[.slice none 0 0, .int .i64 (min s 0)] 65)) (w.heap.size + 1) #[.slice none 0 0, .int .i64 (min s 0)] 65) := by
    have := Bk.new (w.alloc (.cells #[.slice none 0 0, .int .i64 s] 65)) #[.slice none 0 0, .int .i64 (min s 0)] 65
    show Bk _ _ _ _
    simpa using this
  go_enter Try.func45, Try.ntmps45
  go_wp2_with fail
  go_region
  go_wp2_with fail
  refine bodyPost_ret (ret45 _ (g := w.heap.size + 1) rfl ((B2.out).below (Below.refl _ _).drew)) rfl ?_
  exact ⟨rfl, (bel2 (bel1 _ _) (bel1 _ _)).drew⟩
/-- first, at whatever row. -/
theorem first_own (lo : Nat) (a : Option Addr) (n c m : Nat) (s : Int) (l : List UInt8) (w0 w : World) (ho : Own lo w0 (.slice a n c) l) (hm : m ≤ l.length) :
    Calls Try.prog 45 #[.agg #[.slice a n c, .int .i64 s], .int .i64 (m : Int)] w fun e w' => e = .returned (.agg #[.slice a m c, .int .i64 (min s (m : Int))]) ∧ Below w.heap.size w w' := by
  have h0 : w0.ownsRow lo 5 1 (.slice a n c) l.length (bval l) := ho
  obtain ⟨_, ⟨he, h2⟩ | ⟨g, cap, cur, he, _, _, hle, _⟩⟩ := h0
  · cases he
    obtain rfl : m = 0 := by omega
    exact first_nil s w
  · cases he
    exact first_calls g _ c m s hm hle w
end Go.Proofs.Ytfjcjaojbdcpeaa
