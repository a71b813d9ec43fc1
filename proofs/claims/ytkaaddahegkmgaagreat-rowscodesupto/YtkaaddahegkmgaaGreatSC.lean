/- Bytes that grow: what pack's writers left, and what was appended to it. -/
import Derived.Test.YtkaaddahegkmgaaGreatSB
import Derived.Test.YtkaaddahegkmgaaGreatPP
import Derived.Test.YtkaaddahegkmgaaGreatMC
namespace Go.Proofs.YtkaaddahegkmgaaGreat
open Go.ChangeShapes Go.WideShapes Go.ChangeAt Go.RowKit
theorem info5b : (Tryz.prog.info? 5).map (fun i => (i.zero, i.size, i.bytes)) = some (some (.int .u8 0), 1, 1) := by kernel_rfl
theorem Own.keep {lo : Nat} {w w' : World} {u : Value} {l : List UInt8} (h : Own lo w u l) (hk : ∀ B, u.ownBlock = some B → w'.heap[B]? = w.heap[B]?) : Own lo w' u l := row_kept h hk
theorem Own.blw {lo : Nat} {w w' : World} {u : Value} {l : List UInt8} (h : Own lo w u l) (hb : Below w.heap.size w w') : Own lo w' u l := h.keep fun B hB => hb.block B (World.ownsRow.lt h B hB).2
theorem Own.shp {lo : Nat} {w : World} {u : Value} {l : List UInt8} (h : Own lo w u l) : ∃ a c, u = .slice a l.length c := by
  obtain ⟨_, ⟨rfl, h2⟩ | ⟨g, cap, cur, rfl, _⟩⟩ := h
  · exact ⟨none, 0, by rw [h2]⟩
  · exact ⟨_, _, rfl⟩
/-- append of bytes to bytes of the call's own. -/
theorem own_app {lo g c : Nat} {W : World} {u : Value} {acc l : List UInt8} (h : Own lo W u acc) (hx : Lib.HoldsBytes W (.slice (some ⟨g, 0, none⟩) l.length c) l) (hn : acc.length + l.length ≤ 70368744177664) (hB : lo ≤ W.heap.size) :
    ∃ u' w', (∀ ty, (Builtin.append_ #[26, 26] ty #[u, .slice (some ⟨g, 0, none⟩) l.length c]).run Tryz.prog W = .ok u' w') ∧ Own lo w' u' (acc ++ l) ∧ Below lo W w' := by
  obtain ⟨i0, hi, hz0, hz1, hz2⟩ := info_parts info5b
  obtain ⟨p, cap, e, _, hc⟩ := hx
  cases e
  have hnews : ∀ j z, (bval l)[j]? = some z → W.cell? ((⟨g, 0, none⟩ : Addr).add j) = some z := fun j z hj => by
    rw [bval, List.getElem?_map] at hj
    obtain ⟨y, hy, rfl⟩ := Option.map_eq_some_iff.1 hj
    exact hc _ rfl j y hy
  have key : ∀ ty, ∃ v' w', (Builtin.append_ #[26, 26] ty #[u, .slice (some ⟨g, 0, none⟩) l.length c]).run Tryz.prog W = .ok v' w' ∧ w'.ownsRow lo 5 1 v' (acc.length + l.length) (bval acc ++ bval l) ∧ W.grownBy w' u.ownBlock ∧ _ := fun ty =>
    run_append_own (P := Tryz.prog) (w := W) lo 26 ty 5 i0 _ 1 1 Tryz.underlying26 hi hz0 hz1 hz2 rfl (by decide) u acc.length (bval acc) h ⟨g, 0, none⟩ l.length c (bval l) (by rw [bval_length, Nat.mul_one]) hnews (fun z hz => by obtain ⟨y, _, rfl⟩ := List.mem_map.1 hz; rfl) (by unfold maxLen; omega) (by omega) hB
  obtain ⟨u', w', hr, hown', hgrow, _⟩ := key 26
  refine ⟨u', w', fun ty => hr, ?_, (Below.refl _ W).grown hgrow hB (fun k hk2 => (World.ownsRow.lt h k hk2).1)⟩
  unfold Own
  have e : bval (acc ++ l) = bval acc ++ bval l := by simp [bval]
  rw [List.length_append, e]
  exact hown'
/-- Bytes of the call's own, or bytes without room behind them. -/
def Ub (lo : Nat) (w : World) (u : Value) (l : List UInt8) : Prop := Own lo w u l ∨ ∃ g, lo ≤ g ∧ u = .slice (some ⟨g, 0, none⟩) l.length l.length ∧ Lib.HoldsBytes w u l
theorem Ub.blw {lo : Nat} {w w' : World} {u : Value} {l : List UInt8} (h : Ub lo w u l) (hb : Below w.heap.size w w') : Ub lo w' u l := by
  rcases h with h | ⟨g, h1, h2, h3⟩
  · exact .inl (h.blw hb)
  · exact .inr ⟨g, h1, h2, holds_below h3 hb⟩
theorem Ub.shp {lo : Nat} {w : World} {u : Value} {l : List UInt8} (h : Ub lo w u l) : ∃ a c, u = .slice a l.length c := by
  rcases h with h | ⟨g, h1, h2, h3⟩
  · exact h.shp
  · exact ⟨_, _, h2⟩
theorem Ub.holds {lo : Nat} {w : World} {u : Value} {l : List UInt8} (h : Ub lo w u l) : Lib.HoldsBytes w u l := by
  rcases h with h | ⟨g, h1, h2, h3⟩
  · exact own_holds h
  · exact h3
theorem Ub.of_nb {lo : Nat} {w w' : World} {l : List UInt8} {v : Value} (h : NB w l (.returned v) w') (hl : lo ≤ w.heap.size) : Ub lo w' v l := by
  obtain ⟨g, h1, h2, h3, _⟩ := h
  cases h2
  exact .inr ⟨g, Nat.le_trans hl h1, rfl, h3⟩
/-- append of bytes to such bytes. -/
theorem ub_app {lo g c : Nat} {W : World} {u : Value} {acc l : List UInt8} (h : Ub lo W u acc) (hx : Lib.HoldsBytes W (.slice (some ⟨g, 0, none⟩) l.length c) l) (h0 : 0 < l.length) (hn : acc.length + l.length ≤ 70368744177664) (hB : lo ≤ W.heap.size) :
    ∃ u' w', (∀ ty, (Builtin.append_ #[26, 26] ty #[u, .slice (some ⟨g, 0, none⟩) l.length c]).run Tryz.prog W = .ok u' w') ∧ Ub lo w' u' (acc ++ l) ∧ Below lo W w' := by
  rcases h with h | ⟨q, h1, rfl, h3⟩
  · obtain ⟨u', w', k1, k2, k3⟩ := own_app h hx hn hB
    exact ⟨u', w', k1, .inl k2, k3⟩
  · obtain ⟨i0, hi, hz0, hz1, hz2⟩ := info_parts info5b
    obtain ⟨p1, c1, e1, _, k1⟩ := h3
    cases e1
    obtain ⟨p2, c2, e2, _, k2⟩ := hx
    cases e2
    have cellsOf : ∀ (b : Addr) (l : List UInt8), (∀ (i : Nat) x, l[i]? = some x → W.cell? (b.add i) = some (.int .u8 (x.toNat : Int))) → ∀ j u, (bval l)[j]? = some u → W.cell? (b.add j) = some u := by
      intro b l hc j u hu
      unfold bval at hu
      rw [List.getElem?_map] at hu
      obtain ⟨x, hx, rfl⟩ := Option.map_eq_some_iff.1 hu
      exact hc j x hx
    have hr := fun ty => run_append_grow (P := Tryz.prog) W 26 ty 5 i0 (.int .u8 0) Tryz.underlying26 hi hz0 ⟨q, 0, none⟩ acc.length acc.length (bval acc) (by rw [hz1, bval_length, Nat.mul_one]) (cellsOf _ acc (k1 _ rfl))
      ⟨g, 0, none⟩ l.length c (bval l) (by rw [hz1, bval_length, Nat.mul_one]) (cellsOf _ l (k2 _ rfl)) (by omega) (by omega) (growslice_fits (by omega) (by rw [hz2]; omega))
    refine ⟨_, _, hr, .inl ?_, ((Below.refl _ W).drew).alloc hB _⟩
    have hge := grownCap_ge W (acc.length + l.length) acc.length 5
    have hle := grownCap_le_maxLen W (acc.length + l.length) acc.length 5 (by unfold maxLen; omega)
    refine ⟨by rw [bval_length, Nat.mul_one], .inr ⟨W.heap.size, _, _, by rw [List.length_append], hB, heap_alloc_last W.drew _, by rw [List.length_append]; exact hge, hle, ?_, ?_⟩⟩
    · have hz : (Value.int .u8 0).cells.size = 1 := rfl
      simp only [Array.size_append, List.size_toArray, size_zeroCells, hz, bval_length, Nat.mul_one]
      omega
    · have e : bval (acc ++ l) = bval acc ++ bval l := by simp [bval]
      have hlen : (bval acc ++ bval l).length = acc.length + l.length := by simp [bval]
      rw [Nat.mul_one, List.length_append, e, Array.toList_append, Array.toList_append, ← hlen]
      exact List.take_left' rfl
end Go.Proofs.YtkaaddahegkmgaaGreat
