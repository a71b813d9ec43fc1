/- The contract of the reference's Parse. -/
import Derived.Test.YthakbkkopneilaaDoorY
import Derived.Test.YthakbkkopneilaaDoorQF
namespace Go.Proofs.YthakbkkopneilaaDoor
open Go.ChangeShapes Go.WideShapes Go.ChangeAt Go.RowKit
def nk : Nx → Int | .bad _ => 0 | .ok k _ => (k.toNat : Int)
def np : Nx → List UInt8 | .bad _ => [] | .ok _ p => p
def nn : Nx → Nat | .bad _ => 0 | .ok _ p => 9 + p.length
def nc : Nx → Int | .bad c => c | .ok _ _ => 0
theorem NX.flat {w : World} {r : Nx} {e : Ending} {w' : World} (h : NX w r e w') : ∃ a n c, e = .returned (.tuple #[.agg #[.int .i64 (nk r), .slice a n c], .int .i64 (nn r : Int), .int .i64 (nc r)]) ∧ Own w.heap.size w' (.slice a n c) (np r) ∧ Below w.heap.size w w' := by
  cases r with
  | bad c => exact ⟨none, 0, 0, h.1, Own.nil _ _, h.2⟩
  | ok k p =>
    obtain ⟨x, he, hx, hb⟩ := h
    obtain ⟨a, n, c, rfl⟩ := hx.hb.shape
    exact ⟨a, n, c, he, hx, hb⟩
theorem take_some {l : List UInt8} {sz : Nat} {k : UInt8} {p : List UInt8} (h : takeL l sz k = some p) : nc (nextL (l.drop sz)) = 0 ∧ nk (nextL (l.drop sz)) = (k.toNat : Int) ∧ np (nextL (l.drop sz)) = p ∧ nn (nextL (l.drop sz)) = 9 + p.length := by
  unfold takeL at h
  cases hn : nextL (l.drop sz) with
  | bad c => rw [hn] at h; cases h
  | ok k' p' =>
    rw [hn] at h
    simp only at h
    split at h
    · rename_i hk
      injection h with h
      subst h hk
      exact ⟨rfl, rfl, rfl, rfl⟩
    · cases h
theorem take_none {l : List UInt8} {sz : Nat} {k : UInt8} (h : takeL l sz k = none) : nc (nextL (l.drop sz)) ≠ 0 ∨ (nc (nextL (l.drop sz)) = 0 ∧ nk (nextL (l.drop sz)) ≠ (k.toNat : Int)) := by
  unfold takeL at h
  cases hn : nextL (l.drop sz) with
  | bad c =>
    left
    have := nextL_bad hn
    simpa [nc] using this
  | ok k' p' =>
    rw [hn] at h
    simp only at h
    split at h
    · cases h
    · rename_i hk
      right
      refine ⟨rfl, fun e => hk ?_⟩
      simp only [nk] at e
      exact UInt8.toNat_inj.mp (by omega)
theorem ret16 (tmps : Array Value) {w : World} {g : Nat} {c0 c1 c2 c3 c4 c5 c6 y : Value} (hp : tmps.getD 2 undef = .pointer (some ⟨g, 0, none⟩)) (hq : tmps.getD 3 undef = y) (hS : SegAt w g c0 c1 c2 c3 c4 c5 c6) :
    (results Tryd.f16 tmps).run Tryd.prog w = .ok (.tuple #[.agg #[c0, c1, c2, c3, c4, c5, c6], y]) w := by
  have hp' : tmps[2]?.getD undef = .pointer (some ⟨g, 0, none⟩) := by simpa using hp
  have hq' : tmps[3]?.getD undef = y := by simpa using hq
  have hl : (loadCells ⟨g, 0, none⟩ 7).run Tryd.prog w = .ok #[c0, c1, c2, c3, c4, c5, c6] w :=
    run_loadCells_list (P := Tryd.prog) w ⟨g, 0, none⟩ [c0, c1, c2, c3, c4, c5, c6] (fun j v hv => by
      rw [add_plain, Nat.zero_add, hS.cell j]
      simpa using hv)
  obtain ⟨i0, hi, _, hz1, _⟩ := info_parts info30
  have hagg : (isAgg 30).run Tryd.prog w = .ok true w := by
    unfold isAgg
    rw [Sem.run_bind, run_underlying Tryd.underlying30 w]
    rfl
  have hv : (loadVar 30 ⟨g, 0, none⟩).run Tryd.prog w = .ok (.agg #[c0, c1, c2, c3, c4, c5, c6]) w := by
    simp [loadVar, Sem.run_bind, hagg, sizeOf, typeInfo, hi, hz1, hl]
  simp [results, Tryd.results16, hp', hq', asAddr, hv]
theorem SegAt.all {w : World} {g : Nat} {c0 c1 c2 c3 c4 c5 c6 : Value} (h : SegAt w g c0 c1 c2 c3 c4 c5 c6) : w.cell? ⟨g, 0, none⟩ = some c0 ∧ w.cell? ⟨g, 1, none⟩ = some c1 ∧ w.cell? ⟨g, 2, none⟩ = some c2 ∧ w.cell? ⟨g, 3, none⟩ = some c3 ∧ w.cell? ⟨g, 4, none⟩ = some c4 ∧ w.cell? ⟨g, 5, none⟩ = some c5 ∧ w.cell? ⟨g, 6, none⟩ = some c6 ∧ w.frozen? ⟨g, 0, none⟩ = false ∧ w.frozen? ⟨g, 1, none⟩ = false ∧ w.frozen? ⟨g, 2, none⟩ = false ∧ w.frozen? ⟨g, 3, none⟩ = false ∧ w.frozen? ⟨g, 4, none⟩ = false ∧ w.frozen? ⟨g, 5, none⟩ = false ∧ w.frozen? ⟨g, 6, none⟩ = false :=
  ⟨by rw [h.cell 0]; rfl, by rw [h.cell 1]; rfl, by rw [h.cell 2]; rfl, by rw [h.cell 3]; rfl, by rw [h.cell 4]; rfl, by rw [h.cell 5]; rfl, by rw [h.cell 6]; rfl, h.free 0, h.free 1, h.free 2, h.free 3, h.free 4, h.free 5, h.free 6⟩
end Go.Proofs.YthakbkkopneilaaDoor
