/- The contracts of slices.Clone over timers and over updates. -/
import Derived.Test.YtcdhlklmnnmpoaaGreatSN
import Derived.Shelf.SlicesE.Clone
import Derived.Lib.SmallJoins
namespace Go.Proofs.YtcdhlklmnnmpoaaGreat
open Go.ChangeShapes Go.WideShapes Go.ChangeAt Go.RowKit
theorem flatS_len {k : Nat} : ∀ {rows : List (Array Value)}, (∀ (i : Nat) r, rows[i]? = some r → r.size = k) → (rows.flatMap Array.toList).length = rows.length * k
  | [], _ => by simp
  | r :: l, h => by
    have h0 := h 0 r rfl
    have := flatS_len (rows := l) fun i r hr => h (i + 1) r hr
    simp only [List.flatMap_cons, List.length_append, this, Array.length_toList, h0, List.length_cons, Nat.succ_mul]
    omega
theorem flatS_get {k : Nat} : ∀ {rows : List (Array Value)}, (∀ (i : Nat) r, rows[i]? = some r → r.size = k) → ∀ {j : Nat} {u : Value}, (rows.flatMap Array.toList)[j]? = some u → ∃ (i : Nat) (r : Array Value) (d : Nat), rows[i]? = some r ∧ j = i * k + d ∧ d < k ∧ r[d]? = some u
  | [], _, j, u, h => by simp at h
  | r :: l, hk, j, u, h => by
    have h0 := hk 0 r rfl
    rw [List.flatMap_cons] at h
    rcases Nat.lt_or_ge j k with hj | hj
    · rw [List.getElem?_append_left (by simpa [h0] using hj)] at h
      exact ⟨0, r, j, rfl, by omega, hj, by simpa using h⟩
    · rw [List.getElem?_append_right (by simpa [h0] using hj)] at h
      obtain ⟨i, r', d, h1, h2, h3, h4⟩ := flatS_get (rows := l) (fun i r hr => hk (i + 1) r hr) h
      simp only [Array.length_toList, h0] at h2
      exact ⟨i + 1, r', d, h1, by rw [Nat.succ_mul]; omega, h3, h4⟩
theorem flatS_put {k : Nat} : ∀ {rows : List (Array Value)}, (∀ (i : Nat) r, rows[i]? = some r → r.size = k) → ∀ {i d : Nat} {r : Array Value} {u : Value}, rows[i]? = some r → r[d]? = some u → (rows.flatMap Array.toList)[i * k + d]? = some u
  | [], _, i, d, r, u, h, _ => by simp at h
  | r0 :: l, hk, 0, d, r, u, h, hd => by
    cases h
    have hlt := (Array.getElem?_eq_some_iff.1 hd).1
    rw [List.flatMap_cons, Nat.zero_mul, Nat.zero_add, List.getElem?_append_left (by simpa using hlt)]
    simpa using hd
  | r0 :: l, hk, i + 1, d, r, u, h, hd => by
    have h0 := hk 0 r0 rfl
    have := flatS_put (rows := l) (fun i r hr => hk (i + 1) r hr) (i := i) (d := d) h hd
    rw [List.flatMap_cons, List.getElem?_append_right (by simp [h0, Nat.succ_mul]; omega)]
    rw [← this]
    congr 1
    simp only [Array.length_toList, h0, Nat.succ_mul]
    omega
/-- What a clone of rows gives. -/
def ClP (w : World) (t k : Nat) (rows : List (Array Value)) (e : Ending) (w' : World) : Prop :=
  (∃ a' c', e = .returned (.slice a' rows.length c') ∧ RowS (Free w.heap.size w') w' a' k rows ∧ w'.ownsRow w.heap.size t k (.slice a' rows.length c') rows.length (rows.flatMap Array.toList)) ∧ Below w.heap.size w w'
theorem owns_rows {w w' : World} {k t : Nat} {rows : List (Array Value)} {v : Value} (hk : ∀ (i : Nat) r, rows[i]? = some r → r.size = k) (h1 : ∀ (i : Nat) r, rows[i]? = some r → ∀ (j : Nat) (v : Value), r[j]? = some v → v.oneCell' = true)
    (h : w'.ownsRow w.heap.size t k v rows.length (rows.flatMap Array.toList)) (hb : Below w.heap.size w w') : ClP w t k rows (.returned v) w' := by
  have hO := h
  rcases Go.Joins.ownsRow_forms h with ⟨rfl, h0⟩ | ⟨g, cap, rfl⟩
  · refine ⟨⟨none, 0, by rw [h0], fun i r hr => ?_, by rw [h0] at hO ⊢; exact hO⟩, hb⟩
    have := (List.getElem?_eq_some_iff.1 hr).1
    omega
  · refine ⟨⟨some ⟨g, 0, none⟩, cap, rfl, fun i r hr => ⟨hk i r hr, h1 i r hr, g, 0, rfl, ⟨(h.lt g rfl).1, fun p => h.frozenAt p⟩, fun j u hj => ?_⟩, hO⟩, hb⟩
    have := h.cells (g := g) rfl (i * k + j) u (flatS_put hk hr hj)
    rw [← this]
    congr 1
    simp [Addr.add]
theorem info38 : (Tryz.prog.info? 120).map (fun i => (i.zero, i.size, i.bytes)) = some (some (.agg #[.string ⟨#[]⟩, .int .i64 0]), 2, 24) := by kernel_rfl
set_option maxHeartbeats 1000000 in
theorem sclone11 (ok : Nat → Prop) (a : Option Addr) (c : Nat) (rows : List (Array Value)) (w : World) (hn : rows.length ≤ 1000) (h : RowS ok w a 2 rows) :
    Calls Tryz.prog 76 #[.slice a rows.length c] w (ClP w 120 2 rows) := by
  have hk : ∀ (i : Nat) r, rows[i]? = some r → r.size = 2 := fun i r hr => (h i r hr).1
  have h1 : ∀ (i : Nat) r, rows[i]? = some r → ∀ (j : Nat) (v : Value), r[j]? = some v → v.oneCell' = true := fun i r hr => (h i r hr).2.1
  have HE : Hid (∀ v w', w'.ownsRow w.heap.size 120 2 v rows.length (rows.flatMap Array.toList) → Below w.heap.size w w' → ClP w 120 2 rows (.returned v) w') := fun v w' => owns_rows hk h1
  obtain ⟨i0, hi, hz0, hz1, hz2⟩ := info_parts info38
  have hl := flatS_len hk
  cases a with
  | none =>
    have q22 : ∀ (w : World) (a : Option Addr) (n c n' c' : Nat), (binOp .eql 38 (.slice a n c) (.slice none n' c')).run Tryz.prog w = .ok (.bool a.isNone) w := fun w a n c n' c' => Lib.run_eql_slice_nil w _ _ a n c n' c' Tryz.underlying38
    have h0 : rows = [] := by
      cases rows with
      | nil => rfl
      | cons r l => obtain ⟨_, _, B, o, ha, _⟩ := h 0 r rfl; cases ha
    subst h0
    have HN := HE.out (.slice none 0 0) w (World.ownsRow_nil w _ _ _) (Below.refl _ _)
    clear HE h hk h1 hl
    generalize ClP w 120 2 [] = Q at HN ⊢
    go_enter Tryz.func76, Tryz.ntmps76
    go_wp2_with fail
    exact HN
  | some ad =>
    have q22 : ∀ (w : World) (a : Option Addr) (n c n' c' : Nat), (binOp .eql 38 (.slice a n c) (.slice none n' c')).run Tryz.prog w = .ok (.bool a.isNone) w := fun w a n c n' c' => Lib.run_eql_slice_nil w _ _ a n c n' c' Tryz.underlying38
    have HC : Hid (∀ j u, (rows.flatMap Array.toList)[j]? = some u → w.cell? (ad.add j) = some u) := by
      intro j u hj
      obtain ⟨i, r, d, hr, rfl, hd, hu⟩ := flatS_get hk hj
      obtain ⟨_, _, B, o, ha, _, hl⟩ := h i r hr
      cases ha
      rw [addp, ← hl d u hu, Nat.add_assoc]
    have H1 : Hid (∀ u ∈ rows.flatMap Array.toList, u.oneCell' = true) := by
      intro u hu
      obtain ⟨j, hj⟩ := List.mem_iff_getElem?.1 hu
      obtain ⟨i, r, d, hr, _, _, hv⟩ := flatS_get hk hj
      exact h1 i r hr d u hv
    clear h hk h1
    generalize ClP w 120 2 rows = Q at HE ⊢
    generalize rows.flatMap Array.toList = news at HE HC H1 hl
    generalize rows.length = n at HE hl hn ⊢
    go_enter Tryz.func76, Tryz.ntmps76
    go_wp2_with (at_builtin; refine wpList_append_own _ rfl _ _ 38 rfl w.heap.size 120 i0 (.agg #[.string ⟨#[]⟩, .int .i64 0]) 2 24 Tryz.underlying38 hi hz0 hz1 hz2 rfl (by decide) _ _ _ rfl (World.ownsRow_made w #[] 0 (Nat.le_refl _) (Nat.zero_le _) (by simp)) ad n c news rfl ?qc1 ?qc2 ?qc3 ?qc4 ?qc5 ?qc6 ?_)
    case qc1 => exact hl
    case qc2 => intro j u hj; exact Lib.cell?_alloc_some _ (HC.out j u hj)
    case qc3 => exact H1.out
    case qc4 => rw [Nat.zero_add]; unfold maxLen; omega
    case qc5 => rw [Nat.zero_add]; omega
    case qc6 => simp
    intro v' w1 hown hgrow hnil
    go_wp2_with fail
    exact HE.out v' w1 (by simpa using hown) (((Below.refl _ w).alloc (Nat.le_refl _) _).grown hgrow (by simp) (by intro k hk; simp [Value.ownBlock] at hk; omega))
theorem info40 : (Tryz.prog.info? 50).map (fun i => (i.zero, i.size, i.bytes)) = some (some (.agg #[.string ⟨#[]⟩, .int .i64 0, .int .i64 0, .int .u64 0, .string ⟨#[]⟩, .slice none 0 0, .int .i64 0, .int .i64 0, .int .i64 0, .int .u64 0, .string ⟨#[]⟩, .slice none 0 0]), 12, 152) := by kernel_rfl
set_option maxHeartbeats 1000000 in
theorem sclone12 (ok : Nat → Prop) (a : Option Addr) (c : Nat) (rows : List (Array Value)) (w : World) (hn : rows.length ≤ 1000) (h : RowS ok w a 12 rows) :
    Calls Tryz.prog 77 #[.slice a rows.length c] w (ClP w 50 12 rows) := by
  have hk : ∀ (i : Nat) r, rows[i]? = some r → r.size = 12 := fun i r hr => (h i r hr).1
  have h1 : ∀ (i : Nat) r, rows[i]? = some r → ∀ (j : Nat) (v : Value), r[j]? = some v → v.oneCell' = true := fun i r hr => (h i r hr).2.1
  have HE : Hid (∀ v w', w'.ownsRow w.heap.size 50 12 v rows.length (rows.flatMap Array.toList) → Below w.heap.size w w' → ClP w 50 12 rows (.returned v) w') := fun v w' => owns_rows hk h1
  obtain ⟨i0, hi, hz0, hz1, hz2⟩ := info_parts info40
  have hl := flatS_len hk
  cases a with
  | none =>
    have q22 : ∀ (w : World) (a : Option Addr) (n c n' c' : Nat), (binOp .eql 39 (.slice a n c) (.slice none n' c')).run Tryz.prog w = .ok (.bool a.isNone) w := fun w a n c n' c' => Lib.run_eql_slice_nil w _ _ a n c n' c' Tryz.underlying39
    have h0 : rows = [] := by
      cases rows with
      | nil => rfl
      | cons r l => obtain ⟨_, _, B, o, ha, _⟩ := h 0 r rfl; cases ha
    subst h0
    have HN := HE.out (.slice none 0 0) w (World.ownsRow_nil w _ _ _) (Below.refl _ _)
    clear HE h hk h1 hl
    generalize ClP w 50 12 [] = Q at HN ⊢
    go_enter Tryz.func77, Tryz.ntmps77
    go_wp2_with fail
    exact HN
  | some ad =>
    have q22 : ∀ (w : World) (a : Option Addr) (n c n' c' : Nat), (binOp .eql 39 (.slice a n c) (.slice none n' c')).run Tryz.prog w = .ok (.bool a.isNone) w := fun w a n c n' c' => Lib.run_eql_slice_nil w _ _ a n c n' c' Tryz.underlying39
    have HC : Hid (∀ j u, (rows.flatMap Array.toList)[j]? = some u → w.cell? (ad.add j) = some u) := by
      intro j u hj
      obtain ⟨i, r, d, hr, rfl, hd, hu⟩ := flatS_get hk hj
      obtain ⟨_, _, B, o, ha, _, hl⟩ := h i r hr
      cases ha
      rw [addp, ← hl d u hu, Nat.add_assoc]
    have H1 : Hid (∀ u ∈ rows.flatMap Array.toList, u.oneCell' = true) := by
      intro u hu
      obtain ⟨j, hj⟩ := List.mem_iff_getElem?.1 hu
      obtain ⟨i, r, d, hr, _, _, hv⟩ := flatS_get hk hj
      exact h1 i r hr d u hv
    clear h hk h1
    generalize ClP w 50 12 rows = Q at HE ⊢
    generalize rows.flatMap Array.toList = news at HE HC H1 hl
    generalize rows.length = n at HE hl hn ⊢
    go_enter Tryz.func77, Tryz.ntmps77
    go_wp2_with (at_builtin; refine wpList_append_own _ rfl _ _ 39 rfl w.heap.size 50 i0 (.agg #[.string ⟨#[]⟩, .int .i64 0, .int .i64 0, .int .u64 0, .string ⟨#[]⟩, .slice none 0 0, .int .i64 0, .int .i64 0, .int .i64 0, .int .u64 0, .string ⟨#[]⟩, .slice none 0 0]) 12 152 Tryz.underlying39 hi hz0 hz1 hz2 rfl (by decide) _ _ _ rfl (World.ownsRow_made w #[] 0 (Nat.le_refl _) (Nat.zero_le _) (by simp)) ad n c news rfl ?qc1 ?qc2 ?qc3 ?qc4 ?qc5 ?qc6 ?_)
    case qc1 => exact hl
    case qc2 => intro j u hj; exact Lib.cell?_alloc_some _ (HC.out j u hj)
    case qc3 => exact H1.out
    case qc4 => rw [Nat.zero_add]; unfold maxLen; omega
    case qc5 => rw [Nat.zero_add]; omega
    case qc6 => simp
    intro v' w1 hown hgrow hnil
    go_wp2_with fail
    exact HE.out v' w1 (by simpa using hown) (((Below.refl _ w).alloc (Nat.le_refl _) _).grown hgrow (by simp) (by intro k hk; simp [Value.ownBlock] at hk; omega))
end Go.Proofs.YtcdhlklmnnmpoaaGreat
