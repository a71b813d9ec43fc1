/- The contracts of put's closures and of IndexFunc; an item of a list replaced. -/
import Derived.Test.YtkaaddahegkmgaaGreatRH
namespace Go.Proofs.YtkaaddahegkmgaaGreat
open Go.ChangeShapes Go.WideShapes Go.ChangeAt Go.RowKit
theorem belN (w : World) (n : Nat) : Below w.heap.size w (w.drewN n) := ⟨rfl, rfl, rfl, Nat.le_refl _, fun _ _ => rfl⟩
set_option maxHeartbeats 4000000 in
set_option maxRecDepth 100000 in
theorem aboverow_calls (x : Rw) (p : Option Addr) (n c g : Nat) (k : ByteArray) (w : World) (hg : w.cell? ⟨g, 0, none⟩ = some (.string k)) :
    Calls Tryz.prog 97 #[.agg #[.string x.key, .int .i64 x.ver, .slice p n c], .pointer (some ⟨g, 0, none⟩)] w fun e w' => (∃ b, e = .returned (.bool b)) ∧ Below w.heap.size w w' := by
  obtain ⟨key, ver, row⟩ := x
  dsimp only
  have HA : Hid (Below w.heap.size w (w.alloc (.cells #[.string key, .int .i64 ver, .slice p n c] 47))) := bel1 _ _
  have z0 : (w.alloc (.cells #[.string key, .int .i64 ver, .slice p n c] 47)).cell? ⟨w.heap.size, 0, none⟩ = some (.string key) := cell_new w _ _ 0
  have zg := cell_below hg HA.out
  go_enter Tryz.func97, Tryz.ntmps97
  go_upto_region 1 with fail
  generalize w.alloc (.cells #[.string key, .int .i64 ver, .slice p n c] 47) = w1 at HA z0 zg ⊢
  have KC : Hid (∀ W : World, W.heap = w1.heap → Calls Tryz.prog 74 #[.pointer (some ⟨w.heap.size, 0, none⟩)] W fun e w' => e = .returned (.string key) ∧ w' = W) := fun W hW => keyRow_calls W _ 0 key ((World.cell?_of_block (by rw [hW])).trans z0)
  go_quiet (first
    | (go_at_call 74; with_reducible exact Calls.quiet_of_same (KC.out _ rfl))
    | fail)
  go_wp2_with fail
  go_ret
  exact ⟨⟨_, rfl⟩, HA.out.trans ((belN _ _).mono HA.out.size)⟩
set_option maxHeartbeats 4000000 in
set_option maxRecDepth 100000 in
theorem indexrow_calls (P : Nat → Prop) (a : Option Addr) (c g : Nat) (xs : List Rw) (k : ByteArray) (w : World) (hn : xs.length ≤ 9223372036854775807) (hv : Ls rowE P w a xs) (hg : w.cell? ⟨g, 0, none⟩ = some (.string k)) :
    Calls Tryz.prog 76 #[.slice a xs.length c, .func (.func 97) #[] #[.pointer (some ⟨g, 0, none⟩)]] w fun e w' => (∃ i : Int, e = .returned (.int .i64 i) ∧ (i = -1 ∨ ∃ j : Nat, i = j ∧ j < xs.length)) ∧ Below w.heap.size w w' := by
  have HV : Hid (Ls rowE P w a xs) := hv
  have HN : Hid (xs.length ≤ 9223372036854775807) := hn
  have HG : Hid (w.cell? ⟨g, 0, none⟩ = some (.string k)) := hg
  clear hv hn hg
  go_enter Tryz.func76, Tryz.ntmps76
  go_wp2_with fail
  go_loopw [5, 8] (fun _ i wr => ∃ j : Nat, j ≤ xs.length ∧ i = .int .i64 (j : Int) ∧ Hid (Below w.heap.size w wr)) (fun _ i _ => xs.length - (intOf i).toNat)
  case atStart => exact ⟨0, Nat.zero_le _, rfl, Below.refl _ _⟩
  case round =>
    obtain ⟨j, hj, rfl, HB⟩ := hrel
    by_cases hlt : j < xs.length
    · obtain ⟨B, o, vb, rfl, _, k0, k1, k2, hvb⟩ := (HV.out.below HB.out).row j _ (List.getElem?_eq_getElem hlt)
      have hjl : (j : Int) < (xs.length : Int) := by omega
      have HW : Hid (wrap64 ((j : Int) + 1) = ((j + 1 : Nat) : Int)) := wr1 hlt HN.out
      generalize xs[j] = x at hvb k0 k1 k2
      obtain ⟨pv, cv, rfl, _⟩ := hvb.shape
      have KC : Hid (Calls Tryz.prog 97 _ wr _) := aboverow_calls x pv x.row.length cv g k wr (cell_below HG.out HB.out)
      clear hvb
      go_wp2_with fail
      refine KC.out.mono ?_
      rintro e w2 ⟨⟨q, rfl⟩, hb2⟩
      have HB2 : Hid (Below w.heap.size w w2) := bel2 HB.out hb2
      clear hb2
      cases q with
      | true =>
        go_wp2_with fail
        go_ret
        exact ⟨⟨_, rfl, .inr ⟨j, rfl, hlt⟩⟩, HB2.out⟩
      | false =>
        go_wp2_with fail
        exact ⟨⟨j + 1, hlt, by first | rfl | rw [HW.out], HB2⟩, meas hlt (by first | rfl | exact HW.out)⟩
    · obtain rfl : j = xs.length := by omega
      go_wp2_with fail
      go_ret
      exact ⟨⟨-1, rfl, .inl rfl⟩, HB.out⟩
set_option maxHeartbeats 4000000 in
set_option maxRecDepth 100000 in
theorem abovebr_calls (x : Bn) (p : Option Addr) (n c g : Nat) (k : ByteArray) (w : World) (hg : w.cell? ⟨g, 0, none⟩ = some (.string k)) :
    Calls Tryz.prog 95 #[.agg #[.string x.key, .slice p n c], .pointer (some ⟨g, 0, none⟩)] w fun e w' => (∃ b, e = .returned (.bool b)) ∧ Below w.heap.size w w' := by
  obtain ⟨key, ev⟩ := x
  dsimp only
  have HA : Hid (Below w.heap.size w (w.alloc (.cells #[.string key, .slice p n c] 39))) := bel1 _ _
  have z0 : (w.alloc (.cells #[.string key, .slice p n c] 39)).cell? ⟨w.heap.size, 0, none⟩ = some (.string key) := cell_new w _ _ 0
  have zg := cell_below hg HA.out
  go_enter Tryz.func95, Tryz.ntmps95
  go_upto_region 1 with fail
  generalize w.alloc (.cells #[.string key, .slice p n c] 39) = w1 at HA z0 zg ⊢
  have KC : Hid (∀ W : World, W.heap = w1.heap → Calls Tryz.prog 75 #[.pointer (some ⟨w.heap.size, 0, none⟩)] W fun e w' => e = .returned (.string key) ∧ w' = W) := fun W hW => keyBr_calls W _ 0 key ((World.cell?_of_block (by rw [hW])).trans z0)
  go_quiet (first
    | (go_at_call 75; with_reducible exact Calls.quiet_of_same (KC.out _ rfl))
    | fail)
  go_wp2_with fail
  go_ret
  exact ⟨⟨_, rfl⟩, HA.out.trans ((belN _ _).mono HA.out.size)⟩
set_option maxHeartbeats 4000000 in
set_option maxRecDepth 100000 in
theorem indexbr_calls (P : Nat → Prop) (a : Option Addr) (c g : Nat) (xs : List Bn) (k : ByteArray) (w : World) (hn : xs.length ≤ 9223372036854775807) (hv : Ls brE P w a xs) (hg : w.cell? ⟨g, 0, none⟩ = some (.string k)) :
    Calls Tryz.prog 77 #[.slice a xs.length c, .func (.func 95) #[] #[.pointer (some ⟨g, 0, none⟩)]] w fun e w' => (∃ i : Int, e = .returned (.int .i64 i) ∧ (i = -1 ∨ ∃ j : Nat, i = j ∧ j < xs.length)) ∧ Below w.heap.size w w' := by
  have HV : Hid (Ls brE P w a xs) := hv
  have HN : Hid (xs.length ≤ 9223372036854775807) := hn
  have HG : Hid (w.cell? ⟨g, 0, none⟩ = some (.string k)) := hg
  clear hv hn hg
  go_enter Tryz.func77, Tryz.ntmps77
  go_wp2_with fail
  go_loopw [5, 8] (fun _ i wr => ∃ j : Nat, j ≤ xs.length ∧ i = .int .i64 (j : Int) ∧ Hid (Below w.heap.size w wr)) (fun _ i _ => xs.length - (intOf i).toNat)
  case atStart => exact ⟨0, Nat.zero_le _, rfl, Below.refl _ _⟩
  case round =>
    obtain ⟨j, hj, rfl, HB⟩ := hrel
    by_cases hlt : j < xs.length
    · obtain ⟨B, o, vb, rfl, _, k0, k1, hvb⟩ := (HV.out.below HB.out).br j _ (List.getElem?_eq_getElem hlt)
      have hjl : (j : Int) < (xs.length : Int) := by omega
      have HW : Hid (wrap64 ((j : Int) + 1) = ((j + 1 : Nat) : Int)) := wr1 hlt HN.out
      generalize xs[j] = x at hvb k0 k1
      obtain ⟨pv, cv, rfl, _⟩ := hvb.shape
      have KC : Hid (Calls Tryz.prog 95 _ wr _) := abovebr_calls x pv x.ev.length cv g k wr (cell_below HG.out HB.out)
      clear hvb
      go_wp2_with fail
      refine KC.out.mono ?_
      rintro e w2 ⟨⟨q, rfl⟩, hb2⟩
      have HB2 : Hid (Below w.heap.size w w2) := bel2 HB.out hb2
      clear hb2
      cases q with
      | true =>
        go_wp2_with fail
        go_ret
        exact ⟨⟨_, rfl, .inr ⟨j, rfl, hlt⟩⟩, HB2.out⟩
      | false =>
        go_wp2_with fail
        exact ⟨⟨j + 1, hlt, by first | rfl | rw [HW.out], HB2⟩, meas hlt (by first | rfl | exact HW.out)⟩
    · obtain rfl : j = xs.length := by omega
      go_wp2_with fail
      go_ret
      exact ⟨⟨-1, rfl, .inl rfl⟩, HB.out⟩
theorem own_set {lo n size g cap : Nat} {e : TypeId} {w : World} {cells : List Value} (h : w.ownsRow lo e size (.slice (some ⟨g, 0, none⟩) n cap) n cells) (p : Nat) (v : Value) : (w.setCell ⟨g, p, none⟩ v).ownsRow lo e size (.slice (some ⟨g, 0, none⟩) n cap) n (cells.set p v) := by
  obtain ⟨h1, ⟨hu, _⟩ | ⟨g', cap', cur, hu, hB, hg, hle, hm, hsz, htk⟩⟩ := h
  · cases hu
  · cases hu
    refine ⟨by rw [List.length_set]; exact h1, .inr ⟨g, cap, cur.setIfInBounds p v, rfl, hB, ?_, hle, hm, by simpa using hsz, ?_⟩⟩
    · simp [World.setCell, Array.getElem?_modify, hg]
    · rw [Array.toList_setIfInBounds, List.take_set, htk]
/-- A list with the item at i replaced. -/
theorem Gr.set_of {α : Type} {E : El α} {lo i : Nat} {Q : Nat → Prop} {w w' : World} {u : Value} {xs : List α} {x : α} {cells cells' news : List Value} (ho : w'.ownsRow lo E.ty E.K u xs.length cells')
    (hc : ∀ (i : Nat) x, xs[i]? = some x → ∃ cs, (∀ r z, cs[r]? = some z → cells[i * E.K + r]? = some z) ∧ E.I (fun B => Q B ∧ u.ownBlock ≠ some B) w cs x)
    (hin : ∀ r z, news[r]? = some z → cells'[i * E.K + r]? = some z) (hout : ∀ p, (p < i * E.K ∨ i * E.K + E.K ≤ p) → cells'[p]? = cells[p]?) (hi : i < xs.length)
    (hx : E.I (fun B => Q B ∧ u.ownBlock ≠ some B) w news x) (hk : ∀ B, B < w.heap.size → u.ownBlock ≠ some B → w'.heap[B]? = w.heap[B]?) : Gr E lo Q w' u (xs.set i x) := by
  have hold : ∀ {cs : List Value} {y : α}, E.I (fun B => Q B ∧ u.ownBlock ≠ some B) w cs y → E.I (fun B => Q B ∧ u.ownBlock ≠ some B) w' cs y := fun h => E.keep h (fun B hB hl => ⟨hk B hl hB.2, hB⟩)
  refine ⟨cells', by rw [List.length_set]; exact ho, fun j y hy => ?_⟩
  by_cases hj : j = i
  · subst hj
    rw [List.getElem?_set_self hi] at hy
    cases hy
    exact ⟨news, hin, hold hx⟩
  · rw [List.getElem?_set_ne (fun e => hj e.symm)] at hy
    obtain ⟨cs, e0, h⟩ := hc j y hy
    refine ⟨cs, fun r z hz => ?_, hold h⟩
    have hr : r < E.K := by have h1 := (List.getElem?_eq_some_iff.1 hz).1; have h2 := E.len h; omega
    rw [hout (j * E.K + r) ?_]
    · exact e0 r z hz
    · rcases Nat.lt_or_ge j i with h1 | h1
      · exact .inl (idx_lt h1 hr)
      · have h2 := Nat.mul_le_mul_right E.K (show i + 1 ≤ j by omega)
        rw [Nat.succ_mul] at h2
        exact .inr (by omega)
theorem gr_set_row {lo i g cap : Nat} {Q : Nat → Prop} {w : World} {xs : List Rw} {x : Rw} {v : Value} (h : Gr rowE lo Q w (.slice (some ⟨g, 0, none⟩) xs.length cap) xs) (hi : i < xs.length) (hv : HB (fun B => Q B ∧ B ≠ g) w v x.row) :
    Gr rowE lo Q (((w.setCell ⟨g, i * 3, none⟩ (.string x.key)).setCell ⟨g, i * 3 + 1, none⟩ (.int .i64 x.ver)).setCell ⟨g, i * 3 + 2, none⟩ v) (.slice (some ⟨g, 0, none⟩) xs.length cap) (xs.set i x) := by
  obtain ⟨cells, ho, hc⟩ := h
  have hl : cells.length = xs.length * 3 := ho.1
  refine Gr.set_of (cells := cells) (news := [.string x.key, .int .i64 x.ver, v]) (own_set (own_set (own_set ho _ _) _ _) _ _) hc (fun r z hz => ?_) (fun p hp => ?_) hi ⟨v, rfl, hv.all fun B hB => ⟨hB.1, fun e => hB.2 (by injection e with e; exact e.symm)⟩⟩ (fun B _ hne => ?_)
  · show ((((cells.set (i * 3) _).set (i * 3 + 1) _).set (i * 3 + 2) _))[i * 3 + r]? = some z
    match r, hz with
    | 0, hz => show ((((cells.set (i * 3) _).set (i * 3 + 1) _).set (i * 3 + 2) _))[i * 3]? = some z; rw [List.getElem?_set_ne (by omega), List.getElem?_set_ne (by omega), List.getElem?_set_self (by omega)]; exact hz
    | 1, hz => rw [List.getElem?_set_ne (by omega), List.getElem?_set_self (by simp; omega)]; exact hz
    | 2, hz => rw [List.getElem?_set_self (by simp; omega)]; exact hz
    | r + 3, hz => simp at hz
  · have hp : p < i * 3 ∨ i * 3 + 3 ≤ p := hp
    rw [List.getElem?_set_ne (by omega), List.getElem?_set_ne (by omega), List.getElem?_set_ne (by omega)]
  · have hB : B ≠ g := fun e => hne (by rw [e]; rfl)
    exact ((Below.heap_setCell _ _ _ _ hB).trans (Below.heap_setCell _ _ _ _ hB)).trans (Below.heap_setCell _ _ _ _ hB)
theorem gr_set_br {lo i g cap : Nat} {Q : Nat → Prop} {w : World} {xs : List Bn} {x : Bn} {v : Value} (h : Gr brE lo Q w (.slice (some ⟨g, 0, none⟩) xs.length cap) xs) (hi : i < xs.length) (hv : Sl evE (fun B => Q B ∧ B ≠ g) w v x.ev) :
    Gr brE lo Q ((w.setCell ⟨g, i * 2, none⟩ (.string x.key)).setCell ⟨g, i * 2 + 1, none⟩ v) (.slice (some ⟨g, 0, none⟩) xs.length cap) (xs.set i x) := by
  obtain ⟨cells, ho, hc⟩ := h
  have hl : cells.length = xs.length * 2 := ho.1
  refine Gr.set_of (cells := cells) (news := [.string x.key, v]) (own_set (own_set ho _ _) _ _) hc (fun r z hz => ?_) (fun p hp => ?_) hi ⟨v, rfl, hv.all' fun B hB => ⟨hB.1, fun e => hB.2 (by injection e with e; exact e.symm)⟩⟩ (fun B _ hne => ?_)
  · show (((cells.set (i * 2) _).set (i * 2 + 1) _))[i * 2 + r]? = some z
    match r, hz with
    | 0, hz => show (((cells.set (i * 2) _).set (i * 2 + 1) _))[i * 2]? = some z; rw [List.getElem?_set_ne (by omega), List.getElem?_set_self (by omega)]; exact hz
    | 1, hz => rw [List.getElem?_set_self (by simp; omega)]; exact hz
    | r + 2, hz => simp at hz
  · have hp : p < i * 2 ∨ i * 2 + 2 ≤ p := hp
    rw [List.getElem?_set_ne (by omega), List.getElem?_set_ne (by omega)]
  · have hB : B ≠ g := fun e => hne (by rw [e]; rfl)
    exact (Below.heap_setCell _ _ _ _ hB).trans (Below.heap_setCell _ _ _ _ hB)
end Go.Proofs.YtkaaddahegkmgaaGreat
