/- The contracts of add of a timer and of an update. -/
import Derived.Test.YtcdhlklmnnmpoaaGreatUE
import Derived.Great.BuildSlice
namespace Go.Proofs.YtcdhlklmnnmpoaaGreat
open Go.ChangeShapes Go.WideShapes Go.ChangeAt Go.RowKit
theorem rows_take {k : Nat} : ∀ (rows : List (Array Value)) (i : Nat), (∀ (j : Nat) r, rows[j]? = some r → r.size = k) → (rows.take i).flatMap Array.toList = (rows.flatMap Array.toList).take (i * k)
  | [], i, _ => by simp
  | r :: l, 0, _ => by simp
  | r :: l, i + 1, h => by
    have h0 := h 0 r rfl
    have ih := rows_take l i fun j r hr => h (j + 1) r hr
    rw [List.take_succ_cons, List.flatMap_cons, List.flatMap_cons, ih, show (i + 1) * k = r.toList.length + i * k by rw [Array.length_toList, h0, Nat.succ_mul]; omega, List.take_length_add_append]
theorem rows_drop {k : Nat} : ∀ (rows : List (Array Value)) (i : Nat), (∀ (j : Nat) r, rows[j]? = some r → r.size = k) → (rows.drop i).flatMap Array.toList = (rows.flatMap Array.toList).drop (i * k)
  | [], i, _ => by simp
  | r :: l, 0, _ => by simp
  | r :: l, i + 1, h => by
    have h0 := h 0 r rfl
    have ih := rows_drop l i fun j r hr => h (j + 1) r hr
    rw [List.drop_succ_cons, List.flatMap_cons, ih, show (i + 1) * k = r.toList.length + i * k by rw [Array.length_toList, h0, Nat.succ_mul]; omega, List.drop_length_add_append]
theorem flat_one {k : Nat} {rows : List (Array Value)} (hk : ∀ (i : Nat) r, rows[i]? = some r → r.size = k ∧ ∀ (j : Nat) (v : Value), r[j]? = some v → v.oneCell' = true) : ∀ z ∈ rows.flatMap Array.toList, z.oneCell' = true := fun z hz => by
  obtain ⟨j, hj⟩ := List.mem_iff_getElem?.1 hz
  obtain ⟨i, r, d, hr, _, _, hv⟩ := flatS_get (fun i r hr => (hk i r hr).1) hj
  exact (hk i r hr).2 d z hv
/-- Where x goes. -/
def insI {α : Type} (P : α → Bool) (l : List α) : Nat := if ixI P l < 0 then l.length else (ixI P l).toNat
/-- A list with x ahead of the first one of which P says true. -/
def insL {α : Type} (P : α → Bool) (l : List α) (x : α) : List α := l.take (insI P l) ++ x :: l.drop (insI P l)
theorem insI_le {α : Type} (P : α → Bool) (l : List α) : insI P l ≤ l.length := by
  unfold insI
  rcases ixI_cases P l with ⟨j, d, h1, h2, _⟩ | ⟨h1, _⟩
  · have := (List.getElem?_eq_some_iff.1 h2).1
    rw [h1, if_neg (by omega)]
    omega
  · rw [h1, if_pos (by decide)]
    exact Nat.le_refl _
theorem insL_length {α : Type} (P : α → Bool) (l : List α) (x : α) : (insL P l x).length = l.length + 1 := by
  have := insI_le P l
  simp [insL]
  omega
theorem tmc (l : List Tm) (i : Nat) (r : Array Value) (h : (l.map Tm.cells)[i]? = some r) : r.size = 2 ∧ ∀ (j : Nat) (v : Value), r[j]? = some v → v.oneCell' = true :=
  tm_cells (s := ⟨0, 0, 0, 0, 0, 0, 0, ⟨#[]⟩, .mk 0 0 0 ⟨#[]⟩ [], 0, 0, 0, 0, 0, 0, 0, 0, false, false, l, [], .mk 0 0 0 ⟨#[]⟩ [], ⟨#[]⟩⟩) i r h
/-- What add answers. -/
def AdP (lo : Nat) (t : TypeId) (k : Nat) (u : Value) (rows : List (Array Value)) (w : World) (e : Ending) (w' : World) : Prop :=
  ∃ v, e = .returned v ∧ w'.ownsRow lo t k v rows.length (rows.flatMap Array.toList) ∧ Below lo w w' ∧ (∀ B, B < w.heap.size → u.ownBlock ≠ some B → w'.heap[B]? = w.heap[B]?) ∧ (v.ownBlock = u.ownBlock ∨ ∀ B, v.ownBlock = some B → w.heap.size ≤ B)
theorem ad_mk {lo : Nat} {t : TypeId} {k m i : Nat} {u : Value} {rows : List (Array Value)} {r : Array Value} {w W : World} {e : Ending} {w' : World} (hk : ∀ (i : Nat) r, rows[i]? = some r → r.size = k) (hl : rows.length = m) (hi : i ≤ m) (hlo : lo ≤ w.heap.size) (_hu : ∀ B, u.ownBlock = some B → B < w.heap.size) (hB : Below w.heap.size w W)
    (h : ∃ v, e = .returned v ∧ w'.ownsRow lo t k v (m + 1) ((rows.flatMap Array.toList).take (i * k) ++ (r.toList ++ (rows.flatMap Array.toList).drop (i * k))) ∧ Below lo W w' ∧ (∀ B, B < W.heap.size → u.ownBlock ≠ some B → w'.heap[B]? = W.heap[B]?) ∧ (v.ownBlock = u.ownBlock ∨ v.ownBlock = some W.heap.size)) :
    AdP lo t k u (rows.take i ++ r :: rows.drop i) w e w' := by
  obtain ⟨v, h1, h2, h3, h4, h5⟩ := h
  have hsz := hB.size
  refine ⟨v, h1, ?_, (hB.mono hlo).trans h3, fun B hb hne => (h4 B (by omega) hne).trans (hB.block B hb), ?_⟩
  · rw [List.flatMap_append, List.flatMap_cons, rows_take rows i hk, rows_drop rows i hk, List.length_append, List.length_cons, List.length_take, List.length_drop, show min i rows.length + (rows.length - i + 1) = m + 1 by omega]
    exact h2
  · rcases h5 with h5 | h5
    · exact .inl h5
    · exact .inr fun B hb => by rw [h5] at hb; cases hb; exact hsz
theorem owns_shape {w : World} {lo t k m : Nat} {u : Value} {xs : List Value} (h : w.ownsRow lo t k u m xs) : ∃ a c, u = .slice a m c := by
  obtain ⟨_, ⟨rfl, h0⟩ | ⟨g, cap, cur, rfl, _⟩⟩ := h
  · exact ⟨none, 0, by rw [h0]⟩
  · exact ⟨_, _, rfl⟩
set_option maxHeartbeats 4000000 in
set_option maxRecDepth 100000 in
theorem addT_calls (lo : Nat) (l : List Tm) (u : Value) (x : Tm) (q : ByteArray) (g : Nat) (w : World) (hO : w.ownsRow lo 120 2 u l.length ((l.map Tm.cells).flatMap Array.toList)) (hn : l.length ≤ 500) (hg : w.cell? ⟨g, 4, none⟩ = some (.string q)) (hlo : lo ≤ w.heap.size) :
    Calls Tryz.prog 99 #[u, .agg #[.string x.s, .int .i64 x.d], .func (.func 100) #[] #[.pointer (some ⟨g, 0, none⟩)]] w (AdP lo 120 2 u ((insL (fun d => gtS d.s q) l x).map Tm.cells) w) := by
  obtain ⟨a, c, rfl⟩ := owns_shape hO
  have hrow : RowS (fun _ => True) w a 2 (l.map Tm.cells) := (owns_rowS (by simp) (tmc l) hO).map (fun _ _ _ => trivial) (fun _ _ _ h => h) (by decide)
  have hub : ∀ B, (Value.slice a l.length c).ownBlock = some B → B < w.heap.size := fun B hB => (hO.lt B hB).2
  have KX : Hid (∀ W, Below w.heap.size w W → Calls Tryz.prog 108 #[.slice a l.length c, .func (.func 100) #[] #[.pointer (some ⟨g, 0, none⟩)]] W (IxP (ixI (fun d => gtS d.s q) l) W)) := fun W hB =>
    ix101_calls q l a _ c rfl (by omega) g W (hrow.map (fun _ _ h => h) (fun _ _ _ hv => cell_below hv hB) (by decide)) (cell_below hg hB)
  have KI : Hid (∀ W vb, Below w.heap.size w W → W.heap[vb]? = some (.cells #[.string x.s, .int .i64 x.d] 120 (0, 0)) → w.heap.size ≤ vb → Calls Tryz.prog 113 #[.slice a l.length c, .int .i64 (insI (fun d => gtS d.s q) l : Int), .slice (some ⟨vb, 0, none⟩) 1 1] W (fun e w' => AdP lo 120 2 (.slice a l.length c) ((insL (fun d => gtS d.s q) l x).map Tm.cells) w e w')) := fun W vb hB hv hge => by
    have hO2 : W.ownsRow lo 120 2 (.slice a l.length c) l.length ((l.map Tm.cells).flatMap Array.toList) := owns_blk hO (Nat.le_refl _) fun B hb => hB.block B (hub B hb)
    have n1 : ∀ z ∈ [Value.string x.s, .int .i64 x.d], z.oneCell' = true := by
      intro z hz
      simp only [List.mem_cons, List.not_mem_nil, or_false] at hz
      rcases hz with rfl | rfl <;> rfl
    have n2 : ∀ z ∈ (l.map Tm.cells).flatMap Array.toList, z.oneCell' = true := flat_one (tmc l)
    have n3 : (Value.slice a l.length c).ownBlock ≠ some vb := fun e => by have := hub vb e; omega
    have n4 : lo ≤ W.heap.size := Nat.le_trans hlo hB.size
    have n5 : [Value.string x.s, .int .i64 x.d].length = 2 := rfl
    have key := InsT.insert_calls lo (.slice a l.length c) l.length (insI (fun d => gtS d.s q) l) vb ((l.map Tm.cells).flatMap Array.toList) [.string x.s, .int .i64 x.d] W hO2 (insI_le _ _) hn hv n5 n1 n2 n3 n4
    refine Calls.mono key ?_
    intro e w' h
    rw [insL, List.map_append, List.map_cons, List.map_take, List.map_drop]
    have hk : ∀ (i : Nat) r, (l.map Tm.cells)[i]? = some r → r.size = 2 := fun i r hr => (tmc l i r hr).1
    have hz := insI_le (fun d => gtS d.s q) l
    have ec : x.cells.toList = [Value.string x.s, .int .i64 x.d] := rfl
    rw [← ec] at h
    obtain ⟨v, h1, h2, h3, h4, h5⟩ := h
    have ez : (l.map Tm.cells).length = l.length := List.length_map _
    generalize insI (fun d => gtS d.s q) l = iz at h2 hz ⊢
    generalize l.map Tm.cells = rows at h2 hk ez ⊢
    generalize x.cells = r at h2 ⊢
    exact ad_mk hk ez hz hlo hub hB ⟨v, h1, h2, h3, h4, h5⟩
  have HJ : Hid (∀ e w', AdP lo 120 2 (.slice a l.length c) ((insL (fun d => gtS d.s q) l x).map Tm.cells) w e w' → ∃ v, e = .returned v) := fun e w' ⟨v, h, _⟩ => ⟨v, h⟩
  have hI : insI (fun d => gtS d.s q) l = if ixI (fun d => gtS d.s q) l < 0 then l.length else (ixI (fun d => gtS d.s q) l).toNat := rfl
  have hc : (ixI (fun d => gtS d.s q) l = -1 ∧ insI (fun d => gtS d.s q) l = l.length) ∨ ∃ j : Nat, ixI (fun d => gtS d.s q) l = (j : Int) ∧ insI (fun d => gtS d.s q) l = j := by
    rcases ixI_cases (fun d : Tm => gtS d.s q) l with ⟨j, d, h1, _⟩ | ⟨h1, _⟩
    · exact .inr ⟨j, h1, by rw [hI, h1, if_neg (by omega)]; simp⟩
    · exact .inl ⟨h1, by rw [hI, h1]; rfl⟩
  generalize AdP lo 120 2 (.slice a l.length c) ((insL (fun d => gtS d.s q) l x).map Tm.cells) w = Q at KI HJ ⊢
  generalize ixI (fun d => gtS d.s q) l = z at KX hc
  generalize insI (fun d => gtS d.s q) l = iz at KI hc
  clear hO hn hg hlo hrow hub hI
  generalize l.length = m at KX KI hc ⊢
  clear l
  obtain ⟨s, d⟩ := x
  dsimp only at KI ⊢
  go_enter Tryz.func99, Tryz.ntmps99
  go_wp2_with fail
  refine (KX.out _ (bel1 _ _)).mono ?_
  rintro e w1 ⟨rfl, hb⟩
  have e0 : w1.cell? ⟨w.heap.size, 0, none⟩ = some (.string s) := row_cell (row_below hb (heap_alloc_last w _)) rfl
  have e1 : w1.cell? ⟨w.heap.size, 1, none⟩ = some (.int .i64 d) := row_cell (row_below hb (heap_alloc_last w _)) rfl
  have HB : Hid (Below w.heap.size w w1) := bel2 (bel1 _ _) hb
  clear hb KX
  have HK : Hid (Calls Tryz.prog 113 #[.slice a m c, .int .i64 (iz : Int), .slice (some ⟨w1.heap.size, 0, none⟩) 1 1] (w1.alloc (.cells #[.string s, .int .i64 d] 120)) Q) := KI.out _ w1.heap.size (bel2 HB.out (bel1 _ _)) (heap_alloc_last w1 _) HB.out.size
  clear KI HB
  rcases hc with ⟨rfl, rfl⟩ | ⟨j, rfl, rfl⟩
  · go_wp2_with fail
    refine HK.out.mono ?_
    intro e w3 h
    obtain ⟨v, rfl⟩ := HJ.out e w3 h
    go_wp2_with fail
    exact h
  · go_wp2_with fail
    refine HK.out.mono ?_
    intro e w3 h
    obtain ⟨v, rfl⟩ := HJ.out e w3 h
    go_wp2_with fail
    exact h
theorem arr12 {α : Type} (xs : Array α) (h : xs.size = 12) : ∃ c0 c1 c2 c3 c4 c5 c6 c7 c8 c9 c10 c11, xs = #[c0, c1, c2, c3, c4, c5, c6, c7, c8, c9, c10, c11] := by
  obtain ⟨l⟩ := xs
  match l, h with
  | [c0, c1, c2, c3, c4, c5, c6, c7, c8, c9, c10, c11], _ => exact ⟨c0, c1, c2, c3, c4, c5, c6, c7, c8, c9, c10, c11, rfl⟩
set_option maxHeartbeats 4000000 in
set_option maxRecDepth 100000 in
theorem addU_calls (lo : Nat) (l : List Up) (us : List (Array Value)) (u : Value) (xs : Array Value) (q : ByteArray) (g : Nat) (w : World) (hO : w.ownsRow lo 50 12 u l.length (us.flatMap Array.toList)) (hul : us.length = l.length) (hus : ∀ (i : Nat) r, us[i]? = some r → r.size = 12 ∧ ∀ (j : Nat) (v : Value), r[j]? = some v → v.oneCell' = true) (huh : ∀ (i : Nat) r u, us[i]? = some r → l[i]? = some u → Uh r u)
    (hxs : xs.size = 12) (hx1 : ∀ (j : Nat) (v : Value), xs[j]? = some v → v.oneCell' = true) (hn : l.length ≤ 500) (hg : w.cell? ⟨g, 4, none⟩ = some (.string q)) (hlo : lo ≤ w.heap.size) :
    Calls Tryz.prog 102 #[u, .agg xs, .func (.func 103) #[] #[.pointer (some ⟨g, 0, none⟩)]] w (AdP lo 50 12 u (us.take (insI (fun d => gtS d.s q) l) ++ xs :: us.drop (insI (fun d => gtS d.s q) l)) w) := by
  obtain ⟨a, c, rfl⟩ := owns_shape hO
  have hrow : RowU w a l := ⟨us, hul, (owns_rowS hul hus hO).map (fun _ _ _ => trivial) (fun _ _ _ h => h) (by decide), huh⟩
  have hub : ∀ B, (Value.slice a l.length c).ownBlock = some B → B < w.heap.size := fun B hB => (hO.lt B hB).2
  have KX : Hid (∀ W, Below w.heap.size w W → Calls Tryz.prog 110 #[.slice a l.length c, .func (.func 103) #[] #[.pointer (some ⟨g, 0, none⟩)]] W (IxP (ixI (fun d => gtS d.s q) l) W)) := fun W hB =>
    ix104_calls q l a _ c rfl (by omega) g W (hrow.below hB) (cell_below hg hB)
  have KI : Hid (∀ W vb, Below w.heap.size w W → W.heap[vb]? = some (.cells xs 50 (0, 0)) → w.heap.size ≤ vb → Calls Tryz.prog 114 #[.slice a l.length c, .int .i64 (insI (fun d => gtS d.s q) l : Int), .slice (some ⟨vb, 0, none⟩) 1 1] W (fun e w' => AdP lo 50 12 (.slice a l.length c) (us.take (insI (fun d => gtS d.s q) l) ++ xs :: us.drop (insI (fun d => gtS d.s q) l)) w e w')) := fun W vb hB hv hge => by
    have hO2 : W.ownsRow lo 50 12 (.slice a l.length c) l.length (us.flatMap Array.toList) := owns_blk hO (Nat.le_refl _) fun B hb => hB.block B (hub B hb)
    have n1 : ∀ z ∈ xs.toList, z.oneCell' = true := by
      intro z hz
      obtain ⟨j, hj⟩ := List.mem_iff_getElem?.1 hz
      exact hx1 j z (by simpa using hj)
    have n2 : ∀ z ∈ us.flatMap Array.toList, z.oneCell' = true := flat_one hus
    have n3 : (Value.slice a l.length c).ownBlock ≠ some vb := fun e => by have := hub vb e; omega
    have n4 : lo ≤ W.heap.size := Nat.le_trans hlo hB.size
    have n5 : xs.toList.length = 12 := by rw [Array.length_toList, hxs]
    have hv2 : W.heap[vb]? = some (.cells xs.toList.toArray 50 (0, 0)) := by rw [hv, Array.toArray_toList]
    have hk : ∀ (i : Nat) r, us[i]? = some r → r.size = 12 := fun i r hr => (hus i r hr).1
    have hz := insI_le (fun d => gtS d.s q) l
    generalize insI (fun d => gtS d.s q) l = iz at hz ⊢
    generalize hfl : us.flatMap Array.toList = cells at hO2 n2
    have key := InsU.insert_calls lo (.slice a l.length c) l.length iz vb cells xs.toList W hO2 hz hn hv2 n5 n1 n2 n3 n4
    subst hfl
    refine Calls.mono key ?_
    intro e w' h
    obtain ⟨v, h1, h2, h3, h4, h5⟩ := h
    exact ad_mk hk hul hz hlo hub hB ⟨v, h1, h2, h3, h4, h5⟩
  have HJ : Hid (∀ e w', AdP lo 50 12 (.slice a l.length c) (us.take (insI (fun d => gtS d.s q) l) ++ xs :: us.drop (insI (fun d => gtS d.s q) l)) w e w' → ∃ v, e = .returned v) := fun e w' ⟨v, h, _⟩ => ⟨v, h⟩
  have hI : insI (fun d => gtS d.s q) l = if ixI (fun d => gtS d.s q) l < 0 then l.length else (ixI (fun d => gtS d.s q) l).toNat := rfl
  have hc : (ixI (fun d => gtS d.s q) l = -1 ∧ insI (fun d => gtS d.s q) l = l.length) ∨ ∃ j : Nat, ixI (fun d => gtS d.s q) l = (j : Int) ∧ insI (fun d => gtS d.s q) l = j := by
    rcases ixI_cases (fun d : Up => gtS d.s q) l with ⟨j, d, h1, _⟩ | ⟨h1, _⟩
    · exact .inr ⟨j, h1, by rw [hI, h1, if_neg (by omega)]; simp⟩
    · exact .inl ⟨h1, by rw [hI, h1]; rfl⟩
  generalize AdP lo 50 12 (.slice a l.length c) (us.take (insI (fun d => gtS d.s q) l) ++ xs :: us.drop (insI (fun d => gtS d.s q) l)) w = Q at KI HJ ⊢
  generalize ixI (fun d => gtS d.s q) l = z at KX hc
  generalize insI (fun d => gtS d.s q) l = iz at KI hc
  have hi37 := info40s xs hxs
  clear hO hn hg hlo hrow hub hI hul hus huh hx1
  generalize l.length = m at KX KI hc ⊢
  clear l us
  go_enter Tryz.func102, Tryz.ntmps102
  go_wp2_with fail
  refine (KX.out _ (bel1 _ _)).mono ?_
  rintro e w1 ⟨rfl, hb⟩
  have r0 : w1.heap[w.heap.size]? = some (.cells xs 50 (0, 0)) := row_below hb (heap_alloc_last w _)
  have HB : Hid (Below w.heap.size w w1) := bel2 (bel1 _ _) hb
  clear hb KX
  have HK : Hid (Calls Tryz.prog 114 #[.slice a m c, .int .i64 (iz : Int), .slice (some ⟨w1.heap.size, 0, none⟩) 1 1] (w1.alloc (.cells xs 50)) Q) := KI.out _ w1.heap.size (bel2 HB.out (bel1 _ _)) (heap_alloc_last w1 _) HB.out.size
  clear KI HB
  obtain ⟨c0, c1, c2, c3, c4, c5, c6, c7, c8, c9, c10, c11, rfl⟩ := arr12 xs hxs
  clear hxs
  rcases hc with ⟨rfl, rfl⟩ | ⟨j, rfl, rfl⟩
  · go_wp2_with (first
      | refine wpList_load_row rfl 50 _ rfl w.heap.size rfl 50 _ (0, 0) _ r0 Tryz.underlying50 rfl hi37 ?_)
    refine HK.out.mono ?_
    intro e w3 h
    obtain ⟨v, rfl⟩ := HJ.out e w3 h
    go_wp2_with fail
    exact h
  · go_wp2_with (first
      | refine wpList_load_row rfl 50 _ rfl w.heap.size rfl 50 _ (0, 0) _ r0 Tryz.underlying50 rfl hi37 ?_)
    refine HK.out.mono ?_
    intro e w3 h
    obtain ⟨v, rfl⟩ := HJ.out e w3 h
    go_wp2_with fail
    exact h
end Go.Proofs.YtcdhlklmnnmpoaaGreat
