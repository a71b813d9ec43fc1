/- What Find, After and Fork gave, read; slices.Equal over ints; few and awake. -/
import Derived.Test.YtdlllehoeodekaaH
import Derived.Deep.QuietTactic
import Derived.BigQuiet
namespace Go.Proofs.Ytdlllehoeodekaa
open Go.ChangeAt Go.ChangeShapes Go.Deep Go.RowKit Go.WideShapes
theorem find_calls (a : Option Addr) (c : Nat) (hs : List Rw) (N : Nat) (hN : hs.length = N) (hl : N ≤ 200) (kind : Int) (w : World) (hR : RowE w a hs) :
    Calls Try.prog 12 #[.slice a N c, .int .i64 kind] w fun e W' => ∃ v, e = .returned v ∧ W'.ownsRow (w.heap.size + 1) 3 1 v (fnd hs kind (List.range N)).length ((fnd hs kind (List.range N)).map (Value.int .i64)) ∧ Below w.heap.size w W' := callsIn_wide.1 (find_in 8 (by omega) a c hs N hN hl kind w hR)
theorem after_calls (a : Option Addr) (c NN : Nat) (hs : List Rw) (ys : List Ev) (N : Nat) (hN : hs.length = N) (hl : N ≤ 200) (id kind : Int) (w : World) (hH : Hh w NN a hs ys) :
    Calls Try.prog 16 #[.slice a N c, .int .i64 id, .int .i64 kind] w fun e W' => ∃ v, e = .returned v ∧ Es (w.heap.size + 1 + 1) NN W' v (aft ys id kind (List.range N)) ∧ Below w.heap.size w W' := callsIn_wide.1 (after_in 8 (by omega) a c NN hs ys N hN hl id kind w hH)
/-- A slice of these numbers. -/
def Ir (w : World) (v : Value) (zs : List Int) : Prop :=
  ∃ a c, v = .slice a zs.length c ∧ ∀ (i : Nat) z, zs[i]? = some z → ∃ B o, a = some ⟨B, o, none⟩ ∧ w.cell? ⟨B, o + i, none⟩ = some (.int .i64 z)
theorem Ir.below {w w' : World} {v : Value} {zs : List Int} (h : Ir w v zs) (hb : Below w.heap.size w w') : Ir w' v zs := by
  obtain ⟨a, c, rfl, k⟩ := h
  refine ⟨a, c, rfl, fun i z hz => ?_⟩
  obtain ⟨B, o, e, hc⟩ := k i z hz
  exact ⟨B, o, e, cellB hc hb⟩
theorem ir_of {w : World} {lo : Nat} {v : Value} {zs : List Int} (h : w.ownsRow lo 3 1 v zs.length (zs.map (Value.int .i64))) : Ir w v zs := by
  have h2 := h
  obtain ⟨_, ⟨rfl, h0⟩ | ⟨g, cap, cur, rfl, _⟩⟩ := h
  · exact ⟨none, 0, by rw [h0], fun i z hz => by have := (List.getElem?_eq_some_iff.1 hz).1; omega⟩
  · refine ⟨_, cap, rfl, fun i z hz => ⟨g, 0, rfl, ?_⟩⟩
    have hi := (List.getElem?_eq_some_iff.1 hz).1
    rw [Nat.zero_add, World.ownsRow.cellAt h2 i (by omega), List.getElem?_map, hz]
    rfl
theorem belN (w : World) (n : Nat) : Below w.heap.size w (w.drewN n) := ⟨rfl, rfl, rfl, Nat.le_refl _, fun _ _ => rfl⟩
set_option maxHeartbeats 1000000 in
theorem iequal_calls (v v2 : Value) (zs : List Int) (w : World) (h : Ir w v zs) (h2 : Ir w v2 zs) (hl : zs.length ≤ 1000000000) :
    Calls Try.prog 5 #[v, v2] w fun e w' => e = .returned (.bool true) ∧ Below w.heap.size w w' := by
  obtain ⟨a, c, rfl, k⟩ := h
  obtain ⟨a2, c2, rfl, k2⟩ := h2
  have HU : Hid (∀ (i : Nat) z, zs[i]? = some z → ∃ B o, a = some ⟨B, o, none⟩ ∧ w.cell? ⟨B, o + i, none⟩ = some (.int .i64 z)) := k
  have HU2 : Hid (∀ (i : Nat) z, zs[i]? = some z → ∃ B o, a2 = some ⟨B, o, none⟩ ∧ w.cell? ⟨B, o + i, none⟩ = some (.int .i64 z)) := k2
  have hzb : (zs.length : Int) ≤ 1000000000 := by omega
  have dl : ((zs.length : Int) != (zs.length : Int)) = false := by simp
  clear k k2 hl
  go_enter Try.func5, Try.ntmps5
  go_wp2_with fail
  go_loopw [13] (fun i wr => ∃ j : Nat, j ≤ zs.length ∧ i = .int .i64 (j : Int) ∧ Hid (Below w.heap.size w wr)) (fun i _ => zs.length - (intOf i).toNat)
  case atStart => exact ⟨0, Nat.zero_le _, rfl, Below.refl _ _⟩
  case round =>
    obtain ⟨j, hj, rfl, HB⟩ := hrel
    by_cases hlt : j < zs.length
    · have hjl : (j : Int) < (zs.length : Int) := by omega
      obtain ⟨z, hzj⟩ : ∃ z, zs[j]? = some z := ⟨_, List.getElem?_eq_getElem hlt⟩
      obtain ⟨B, o, rfl, hc0⟩ := HU.out j z hzj
      obtain ⟨B', o', rfl, hd0⟩ := HU2.out j z hzj
      have hc := cellB hc0 (HB.out)
      have hd := cellB hd0 (HB.out)
      have dz : (z != z) = false := by simp
      clear hc0 hd0 hj hzj
      go_wp2_with fail
      go_quiet (fail)
      go_wp2_with fail
      refine ⟨⟨j + 1, hlt, by rw [Int.natCast_add]; rfl, HB.out.trans ((belN wr _).mono HB.out.size)⟩, ?_⟩
      simp only [intOf]
      omega
    · obtain rfl : j = zs.length := by omega
      go_wp2_with fail
      go_ret
      exact ⟨rfl, HB.out⟩
theorem zr_is (w : World) (N : Nat) : IsE w N zr ze := ⟨.mk 0 0 0 ⟨#[]⟩ [], rfl, none, 0, rfl, ⟨by decide, by decide, by decide, by decide, by decide, by decide, by decide, by decide, by decide⟩, fun i t h => by simp at h⟩
theorem choose_rows {Q : Nat → Rw → Prop} : ∀ n : Nat, (∀ i, i < n → ∃ r, Q i r) → ∃ rs : List Rw, rs.length = n ∧ ∀ i r, rs[i]? = some r → Q i r
  | 0, _ => ⟨[], rfl, fun i r h => by simp at h⟩
  | n + 1, h => by
    obtain ⟨rs, hl, hq⟩ := choose_rows n (fun i hi => h i (by omega))
    obtain ⟨r, hr⟩ := h n (by omega)
    refine ⟨rs ++ [r], by simp [hl], fun i x hx => ?_⟩
    by_cases hi : i < rs.length
    · rw [List.getElem?_append_left hi] at hx
      exact hq i x hx
    · have : i = rs.length := by have := (List.getElem?_eq_some_iff.1 hx).1; simp at this; omega
      subst this
      rw [List.getElem?_append_right (Nat.le_refl _)] at hx
      simp at hx
      subst hx
      rw [hl]
      exact hr
theorem rx_some {hs : List Rw} {i : Nat} {r : Rw} (h : hs[i]? = some r) : rx hs i = r := by unfold rx; rw [List.getD_eq_getElem?_getD, h]; rfl
theorem rx_none {hs : List Rw} {i : Nat} (h : hs.length ≤ i) : rx hs i = zr := by unfold rx; rw [List.getD_eq_getElem?_getD, List.getElem?_eq_none h]; rfl
theorem ex_some {ys : List Ev} {i : Nat} {y : Ev} (h : ys[i]? = some y) : ex ys i = y := by unfold ex; rw [List.getD_eq_getElem?_getD, h]; rfl
theorem ex_none {ys : List Ev} {i : Nat} (h : ys.length ≤ i) : ex ys i = ze := by unfold ex; rw [List.getD_eq_getElem?_getD, List.getElem?_eq_none h]; rfl
/-- A list of the call's own, read. -/
theorem Es.rows {Bo N : Nat} {w : World} {u : Value} {ys : List Ev} (h : Es Bo N w u ys) : ∃ a c rs, u = .slice a ys.length c ∧ ys.length ≤ c ∧ rs.length = ys.length ∧ RowE w a rs ∧ ∀ i, IsE w N (rx rs i) (ex ys i) := by
  obtain ⟨cells, ho, hc⟩ := h
  have h2 := ho
  obtain ⟨_, ⟨rfl, h0⟩ | ⟨g, cap, cur, rfl, _, _, hle, _⟩⟩ := ho
  · have e : ys = [] := List.eq_nil_of_length_eq_zero h0
    subst e
    exact ⟨none, 0, [], rfl, Nat.le_refl _, rfl, fun i r hr => by simp at hr, fun i => by rw [rx_none (by simp), ex_none (by simp)]; exact zr_is w N⟩
  · obtain ⟨rs, hl, hq⟩ := choose_rows (Q := fun i r => AtR w g (0 + i * 13) r ∧ IsE w N r (ex ys i)) ys.length (fun i hi => by
      obtain ⟨r, h1, tv, hy, hiq⟩ := hc i _ (List.getElem?_eq_getElem hi)
      have f : ∀ k z, k < 13 → r.cells[k]? = some z → w.cell? ⟨g, 0 + i * 13 + k, none⟩ = some z := fun k z hk hz => by rw [Nat.zero_add, World.ownsRow.cellAt h2 (i * 13 + k) (by omega)]; exact h1 k z hz
      exact ⟨r, ⟨f 0 _ (by omega) rfl, f 1 _ (by omega) rfl, f 2 _ (by omega) rfl, f 3 _ (by omega) rfl, f 4 _ (by omega) rfl, f 5 _ (by omega) rfl, f 6 _ (by omega) rfl, f 7 _ (by omega) rfl, f 8 _ (by omega) rfl, f 9 _ (by omega) rfl, f 10 _ (by omega) rfl, f 11 _ (by omega) rfl, f 12 _ (by omega) rfl⟩, tv, by rw [ex_some (List.getElem?_eq_getElem hi)]; exact hy, hiq.is⟩)
    refine ⟨_, cap, rs, rfl, hle, hl, fun i r hr => ⟨g, 0, rfl, (hq i r hr).1⟩, fun i => ?_⟩
    by_cases hi : i < rs.length
    · have hr := List.getElem?_eq_getElem hi
      rw [rx_some hr]
      exact (hq i _ hr).2
    · rw [rx_none (by omega), ex_none (by omega)]
      exact zr_is w N
def r3 : Rw := ⟨3, 0, 0, 0, ⟨#[]⟩, 0, 0, 0, ⟨#[]⟩, none, 0, 0, 0, 0, 0⟩
def r4 : Rw := ⟨4, 0, 0, 0, ⟨#[]⟩, 0, 0, 0, ⟨#[]⟩, none, 0, 0, 0, 0, 0⟩
theorem cellAt40 {W : World} {g : Nat} {cur : Array Value} (e : W.heap[g]? = some (.cells cur 38 (0, 0))) (q : Nat) : W.cell? ⟨g, q, none⟩ = cur[q]? := by simp [World.cell?, e]
theorem aw_row (w : World) : RowE (w.alloc (.cells #[.int .i64 3, .int .i64 0, .int .i64 0, .int .i64 0, .string ⟨#[]⟩, .int .i64 0, .int .i64 0, .int .u64 0, .string ⟨#[]⟩, .slice none 0 0, .int .i64 0, .int .u64 0, .int .i64 0, .int .i64 4, .int .i64 0, .int .i64 0, .int .i64 0, .string ⟨#[]⟩, .int .i64 0, .int .i64 0, .int .u64 0, .string ⟨#[]⟩, .slice none 0 0, .int .i64 0, .int .u64 0, .int .i64 0] 38)) (some ⟨w.heap.size, 0, none⟩) [r3, r4] := fun i r hr => by
  have e : (w.alloc (.cells #[.int .i64 3, .int .i64 0, .int .i64 0, .int .i64 0, .string ⟨#[]⟩, .int .i64 0, .int .i64 0, .int .u64 0, .string ⟨#[]⟩, .slice none 0 0, .int .i64 0, .int .u64 0, .int .i64 0, .int .i64 4, .int .i64 0, .int .i64 0, .int .i64 0, .string ⟨#[]⟩, .int .i64 0, .int .i64 0, .int .u64 0, .string ⟨#[]⟩, .slice none 0 0, .int .i64 0, .int .u64 0, .int .i64 0] 38)).heap[w.heap.size]? = some (.cells #[.int .i64 3, .int .i64 0, .int .i64 0, .int .i64 0, .string ⟨#[]⟩, .int .i64 0, .int .i64 0, .int .u64 0, .string ⟨#[]⟩, .slice none 0 0, .int .i64 0, .int .u64 0, .int .i64 0, .int .i64 4, .int .i64 0, .int .i64 0, .int .i64 0, .string ⟨#[]⟩, .int .i64 0, .int .i64 0, .int .u64 0, .string ⟨#[]⟩, .slice none 0 0, .int .i64 0, .int .u64 0, .int .i64 0] 38 (0, 0)) := World.alloc_heap_new w _
  match i, hr with
  | 0, hr =>
    cases hr
    refine ⟨_, 0, rfl, ?_⟩
    refine ⟨?_, ?_, ?_, ?_, ?_, ?_, ?_, ?_, ?_, ?_, ?_, ?_, ?_⟩ <;> (rw [cellAt40 e]; rfl)
  | 1, hr =>
    cases hr
    refine ⟨_, 0, rfl, ?_⟩
    refine ⟨?_, ?_, ?_, ?_, ?_, ?_, ?_, ?_, ?_, ?_, ?_, ?_, ?_⟩ <;> (rw [cellAt40 e]; rfl)
  | i + 2, hr => simp at hr
theorem aw_find : fnd [r3, r4] 4 (List.range 2) = [2] := by decide +kernel
theorem two_ir (w : World) : Ir (w.alloc (.cells #[.int .i64 2] 3)) (.slice (some ⟨w.heap.size, 0, none⟩) 1 1) [2] := ⟨_, 1, rfl, fun i z hz => by
  match i, hz with
  | 0, hz => cases hz; exact ⟨_, 0, rfl, (Boxed.new w 3 (.int .i64 2)).cell⟩
  | i + 1, hz => simp at hz⟩
end Go.Proofs.Ytdlllehoeodekaa
