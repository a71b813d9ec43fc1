/- The contracts of find, get, Get and Events. -/
import Derived.Test.YtkaaddahegkmgaaGreatRF
import Derived.Test.YtkaaddahegkmgaaGreatMB
namespace Go.Proofs.YtkaaddahegkmgaaGreat
open Go.ChangeShapes Go.WideShapes Go.ChangeAt Go.RowKit
/-- The item at i is the first one of the key k. -/
def Fst {α : Type} (key : α → ByteArray) (xs : List α) (k : ByteArray) (i : Nat) (x : α) : Prop := xs[i]? = some x ∧ key x = k ∧ ∀ (i' : Nat) y, i' < i → xs[i']? = some y → key y ≠ k
/-- What find answers. -/
def FdP {α : Type} (key : α → ByteArray) (xs : List α) (k : ByteArray) (e : Ending) : Prop :=
  (∃ (i : Nat) (x : α), xs[i]? = some x ∧ key x = k ∧ (∀ (i' : Nat) y, i' < i → xs[i']? = some y → key y ≠ k) ∧ e = .returned (.tuple #[.int .i64 (i : Int), .bool true])) ∨ ((∀ y ∈ xs, key y ≠ k) ∧ e = .returned (.tuple #[.int .i64 0, .bool false]))
theorem results_tmp2 {fn : Func} {p q : Tmp} (h : fn.results = #[.tmp p, .tmp q]) (tmps : Array Value) {w : World} : (results fn tmps).run Tryz.prog w = .ok (.tuple #[tmps.getD p undef, tmps.getD q undef]) w := by
  simp [results, h]
set_option maxHeartbeats 4000000 in
set_option maxRecDepth 100000 in
theorem findrow_calls (P : Nat → Prop) (v : Value) (xs : List Rw) (k : ByteArray) (w : World) (hv : Sl rowE P w v xs) :
    Calls Tryz.prog 69 #[v, .string k] w fun e w' => FdP (fun x : Rw => x.key) xs k e ∧ w' = w := by
  obtain ⟨a, c, rfl, h1, h2, h3⟩ := hv
  have HV : Hid (Ls rowE P w a xs) := h3
  have HN : Hid (xs.length ≤ 9223372036854775807) := Nat.le_trans h1 h2
  clear h1 h2 h3
  go_enter Tryz.func69, Tryz.ntmps69
  go_wp2_with fail
  go_loopw [6, 9] (fun _ i wr => ∃ j : Nat, j ≤ xs.length ∧ i = .int .i64 (j : Int) ∧ wr = w ∧ Hid (∀ (i : Nat) y, i < j → xs[i]? = some y → y.key ≠ k)) (fun _ i _ => xs.length - (intOf i).toNat)
  case atStart => exact ⟨0, Nat.zero_le _, rfl, rfl, fun i y h => absurd h (Nat.not_lt_zero _)⟩
  case round =>
    obtain ⟨j, hj, rfl, rfl, HE⟩ := hrel
    by_cases hlt : j < xs.length
    · have hgj := List.getElem?_eq_getElem hlt
      obtain ⟨B, o, vb, rfl, _, k0, _, _, _⟩ := HV.out.row j _ hgj
      have hjl : (j : Int) < (xs.length : Int) := by omega
      have KC : Hid (Calls Tryz.prog 74 _ wr _) := keyRow_calls wr B _ xs[j].key k0
      have HG : Hid (xs[j]? = some xs[j]) := hgj
      have HW : Hid (wrap64 ((j : Int) + 1) = ((j + 1 : Nat) : Int)) := wr1 hlt HN.out
      clear hgj
      go_wp2_with fail
      refine KC.out.mono ?_
      rintro e w2 ⟨rfl, rfl⟩
      by_cases hk : xs[j].key = k
      · have hkk : (xs[j].key.toList == k.toList) = true := by rw [hk]; exact beq_self_eq_true _
        go_wp2_with fail
        refine bodyPost_ret (results_tmp2 Tryz.results69 _) rfl ⟨?_, rfl⟩
        exact .inl ⟨j, xs[j], HG.out, hk, HE.out, rfl⟩
      · have hkk : (xs[j].key.toList == k.toList) = false := by rw [beq_eq_false_iff_ne]; exact fun e => hk (tl_inj e)
        go_wp2_with fail
        refine ⟨⟨j + 1, hlt, by first | rfl | rw [HW.out], by trivial, fun i y hi hy => ?_⟩, meas hlt (by first | rfl | exact HW.out)⟩
        by_cases hij : i < j
        · exact HE.out i y hij hy
        · obtain rfl : i = j := by omega
          rw [HG.out] at hy
          cases hy
          exact hk
    · obtain rfl : j = xs.length := by omega
      go_wp2_with fail
      refine bodyPost_ret (results_tmp2 Tryz.results69 _) rfl ⟨?_, rfl⟩
      refine .inr ⟨fun y hy => ?_, rfl⟩
      obtain ⟨i, hi, rfl⟩ := List.getElem_of_mem hy
      exact HE.out i _ hi (List.getElem?_eq_getElem hi)
set_option maxHeartbeats 4000000 in
set_option maxRecDepth 100000 in
theorem findbr_calls (P : Nat → Prop) (v : Value) (xs : List Bn) (k : ByteArray) (w : World) (hv : Sl brE P w v xs) :
    Calls Tryz.prog 94 #[v, .string k] w fun e w' => FdP (fun x : Bn => x.key) xs k e ∧ w' = w := by
  obtain ⟨a, c, rfl, h1, h2, h3⟩ := hv
  have HV : Hid (Ls brE P w a xs) := h3
  have HN : Hid (xs.length ≤ 9223372036854775807) := Nat.le_trans h1 h2
  clear h1 h2 h3
  go_enter Tryz.func94, Tryz.ntmps94
  go_wp2_with fail
  go_loopw [6, 9] (fun _ i wr => ∃ j : Nat, j ≤ xs.length ∧ i = .int .i64 (j : Int) ∧ wr = w ∧ Hid (∀ (i : Nat) y, i < j → xs[i]? = some y → y.key ≠ k)) (fun _ i _ => xs.length - (intOf i).toNat)
  case atStart => exact ⟨0, Nat.zero_le _, rfl, rfl, fun i y h => absurd h (Nat.not_lt_zero _)⟩
  case round =>
    obtain ⟨j, hj, rfl, rfl, HE⟩ := hrel
    by_cases hlt : j < xs.length
    · have hgj := List.getElem?_eq_getElem hlt
      obtain ⟨B, o, vb, rfl, _, k0, _, _⟩ := HV.out.br j _ hgj
      have hjl : (j : Int) < (xs.length : Int) := by omega
      have KC : Hid (Calls Tryz.prog 75 _ wr _) := keyBr_calls wr B _ xs[j].key k0
      have HG : Hid (xs[j]? = some xs[j]) := hgj
      have HW : Hid (wrap64 ((j : Int) + 1) = ((j + 1 : Nat) : Int)) := wr1 hlt HN.out
      clear hgj
      go_wp2_with fail
      refine KC.out.mono ?_
      rintro e w2 ⟨rfl, rfl⟩
      by_cases hk : xs[j].key = k
      · have hkk : (xs[j].key.toList == k.toList) = true := by rw [hk]; exact beq_self_eq_true _
        go_wp2_with fail
        refine bodyPost_ret (results_tmp2 Tryz.results94 _) rfl ⟨?_, rfl⟩
        exact .inl ⟨j, xs[j], HG.out, hk, HE.out, rfl⟩
      · have hkk : (xs[j].key.toList == k.toList) = false := by rw [beq_eq_false_iff_ne]; exact fun e => hk (tl_inj e)
        go_wp2_with fail
        refine ⟨⟨j + 1, hlt, by first | rfl | rw [HW.out], by trivial, fun i y hi hy => ?_⟩, meas hlt (by first | rfl | exact HW.out)⟩
        by_cases hij : i < j
        · exact HE.out i y hij hy
        · obtain rfl : i = j := by omega
          rw [HG.out] at hy
          cases hy
          exact hk
    · obtain rfl : j = xs.length := by omega
      go_wp2_with fail
      refine bodyPost_ret (results_tmp2 Tryz.results94 _) rfl ⟨?_, rfl⟩
      refine .inr ⟨fun y hy => ?_, rfl⟩
      obtain ⟨i, hi, rfl⟩ := List.getElem_of_mem hy
      exact HE.out i _ hi (List.getElem?_eq_getElem hi)
theorem retRow_tmp {fn : Func} {p q : Tmp} (h : fn.results = #[.cell p 47, .tmp q]) (tmps : Array Value) {w : World} {g : Nat} {a b c : Value} (hp : tmps.getD p undef = .pointer (some ⟨g, 0, none⟩)) (hg : w.heap[g]? = some (.cells #[a, b, c] 47 (0, 0))) :
    (results fn tmps).run Tryz.prog w = .ok (.tuple #[.agg #[a, b, c], tmps.getD q undef]) w := by
  have hp' : tmps[p]?.getD undef = .pointer (some ⟨g, 0, none⟩) := by simpa using hp
  simp [results, h, hp', asAddr, run_loadVar_row w g 47 47 #[a, b, c] (0, 0) _ hg Tryz.underlying47 rfl size37]
theorem retBr_tmp {fn : Func} {p q : Tmp} (h : fn.results = #[.cell p 39, .tmp q]) (tmps : Array Value) {w : World} {g : Nat} {a b : Value} (hp : tmps.getD p undef = .pointer (some ⟨g, 0, none⟩)) (hg : w.heap[g]? = some (.cells #[a, b] 39 (0, 0))) :
    (results fn tmps).run Tryz.prog w = .ok (.tuple #[.agg #[a, b], tmps.getD q undef]) w := by
  have hp' : tmps[p]?.getD undef = .pointer (some ⟨g, 0, none⟩) := by simpa using hp
  simp [results, h, hp', asAddr, run_loadVar_row w g 39 39 #[a, b] (0, 0) _ hg Tryz.underlying39 rfl size56]
theorem set_orow (w : World) (g B : Nat) (a b c : Value) (h : B ≠ g) : (((w.setCell ⟨g, 0, none⟩ a).setCell ⟨g, 1, none⟩ b).setCell ⟨g, 2, none⟩ c).heap[B]? = w.heap[B]? := ((Below.heap_setCell _ _ _ _ h).trans (Below.heap_setCell _ _ _ _ h)).trans (Below.heap_setCell _ _ _ _ h)
theorem set_obr (w : World) (g B : Nat) (a b : Value) (h : B ≠ g) : ((w.setCell ⟨g, 0, none⟩ a).setCell ⟨g, 1, none⟩ b).heap[B]? = w.heap[B]? := (Below.heap_setCell _ _ _ _ h).trans (Below.heap_setCell _ _ _ _ h)
/-- What get answers. -/
def Gtrow (xs : List Rw) (k : ByteArray) (w : World) (e : Ending) (w' : World) : Prop :=
  ((∃ (i : Nat) (x : Rw) (v' : Value), Fst (fun x : Rw => x.key) xs k i x ∧ e = .returned (.tuple #[.agg #[.string k, .int .i64 x.ver, v'], .bool true]) ∧ HB (fun B => w.heap.size ≤ B) w' v' x.row) ∨ ((∀ y ∈ xs, y.key ≠ k) ∧ e = .returned (.tuple #[.agg #[.string ⟨#[]⟩, .int .i64 0, .slice none 0 0], .bool false]))) ∧ Below w.heap.size w w'
set_option maxHeartbeats 4000000 in
set_option maxRecDepth 100000 in
theorem getrow_calls (v : Value) (xs : List Rw) (k : ByteArray) (w : World) (hv : Sl rowE (fun _ => True) w v xs) (hl : ∀ e ∈ xs, e.row.length ≤ 70368744177664) :
    Calls Tryz.prog 38 #[v, .string k] w (Gtrow xs k w) := by
  have HV : Hid (Sl rowE (fun _ => True) w v xs) := hv
  have HL : Hid (∀ e ∈ xs, e.row.length ≤ 70368744177664) := hl
  obtain ⟨a, c, rfl, _⟩ := hv.shape
  clear hv hl
  go_enter Tryz.func38, Tryz.ntmps38
  go_wp2_with fail
  have HA : Hid (Below w.heap.size w (w.alloc (.cells #[.string ⟨#[]⟩, .int .i64 0, .slice none 0 0] 47))) := bel1 _ _
  have HO : (w.alloc (.cells #[.string ⟨#[]⟩, .int .i64 0, .slice none 0 0] 47)).heap[w.heap.size]? = _ := heap_alloc_last w _
  generalize w.alloc (.cells #[.string ⟨#[]⟩, .int .i64 0, .slice none 0 0] 47) = w1 at HA HO ⊢
  have HO1 : Hid (w1.heap[w.heap.size]? = _) := HO
  refine (findrow_calls _ _ xs k w1 (HV.out.below HA.out)).mono ?_
  rintro e w2 ⟨⟨i, x, hx, hk, hf, rfl⟩ | ⟨hno, rfl⟩, rfl⟩
  · obtain ⟨a', c', he, h1, h2, h3⟩ := HV.out.below HA.out
    cases he
    obtain ⟨B, o, vb, rfl, _, k0, k1, k2, hvb⟩ := h3.row i x hx
    have hlt := (List.getElem?_eq_some_iff.1 hx).1
    have hil : (i : Int) < (xs.length : Int) := by omega
    obtain ⟨pv, cv, rfl, _⟩ := hvb.shape
    have HX : Hid (Fst (fun x : Rw => x.key) xs k i x) := ⟨hx, hk, hf⟩
    subst hk
    have CC : Hid (Calls Tryz.prog 70 _ w2 _) := cloneRow_calls x _ w2 hvb (HL.out x (List.mem_of_getElem? hx))
    clear hvb h1 h2 h3 hx hf HO
    go_wp2_with fail
    refine CC.out.mono ?_
    rintro e w3 ⟨⟨v2, rfl, hv2⟩, hb2⟩
    obtain ⟨p2, c2, rfl, _⟩ := hv2.shape
    have r1 := row_below hb2 HO1.out
    have HR : Hid (w3.heap[w.heap.size]? = _) := r1
    have z0 := row_cell r1 (j := 0) rfl
    have z1 := row_cell r1 (j := 1) rfl
    have z2 := row_cell r1 (j := 2) rfl
    have f1 := row_frozen r1
    have HB3 : Hid (Below w.heap.size w w3) := bel2 HA.out hb2
    have HV2 : Hid (HB (fun B => w2.heap.size ≤ B) w3 _ x.row) := hv2
    have HL1 : Hid (w.heap.size < w2.heap.size) := lt_of_row HO1.out
    clear hv2 hb2 r1
    go_wp2_with fail
    refine bodyPost_ret (retRow_tmp Tryz.results38 _ rfl (set3 (set3 HR.out _ _ _) _ _ _)) rfl ?_
    have hz := HL1.out
    refine ⟨.inl ⟨i, x, _, HX.out, rfl, ?_⟩, ?_⟩
    · exact (HV2.out.keep fun B hB _ => ⟨(set_orow _ _ _ _ _ _ (fun e => by have hB' : w2.heap.size ≤ B := hB; omega)).trans (set_orow _ _ _ _ _ _ (fun e => by have hB' : w2.heap.size ≤ B := hB; omega)), by have hB' : w2.heap.size ≤ B := hB; show w.heap.size ≤ B; omega⟩)
    · repeat refine below_set ?_ (Nat.le_refl _)
      exact HB3.out
  · have r1 := HO1.out
    have z0 := row_cell r1 (j := 0) rfl
    have z1 := row_cell r1 (j := 1) rfl
    have z2 := row_cell r1 (j := 2) rfl
    have f1 := row_frozen r1
    clear r1 HO
    go_wp2_with fail
    refine bodyPost_ret (retRow_tmp Tryz.results38 _ rfl (set3 HO1.out _ _ _)) rfl ?_
    refine ⟨.inr ⟨hno, rfl⟩, ?_⟩
    repeat refine below_set ?_ (Nat.le_refl _)
    exact HA.out
/-- What get answers. -/
def Gtbr (xs : List Bn) (k : ByteArray) (w : World) (e : Ending) (w' : World) : Prop :=
  ((∃ (i : Nat) (x : Bn) (v' : Value), Fst (fun x : Bn => x.key) xs k i x ∧ e = .returned (.tuple #[.agg #[.string k, v'], .bool true]) ∧ Sl evE (fun B => w.heap.size ≤ B) w' v' x.ev) ∨ ((∀ y ∈ xs, y.key ≠ k) ∧ e = .returned (.tuple #[.agg #[.string ⟨#[]⟩, .slice none 0 0], .bool false]))) ∧ Below w.heap.size w w'
set_option maxHeartbeats 4000000 in
set_option maxRecDepth 100000 in
theorem getbr_calls (v : Value) (xs : List Bn) (k : ByteArray) (w : World) (hv : Sl brE (fun _ => True) w v xs) (hl : ∀ e ∈ xs, SmB e) :
    Calls Tryz.prog 114 #[v, .string k] w (Gtbr xs k w) := by
  have HV : Hid (Sl brE (fun _ => True) w v xs) := hv
  have HL : Hid (∀ e ∈ xs, SmB e) := hl
  obtain ⟨a, c, rfl, _⟩ := hv.shape
  clear hv hl
  go_enter Tryz.func114, Tryz.ntmps114
  go_wp2_with fail
  have HA : Hid (Below w.heap.size w (w.alloc (.cells #[.string ⟨#[]⟩, .slice none 0 0] 39))) := bel1 _ _
  have HO : (w.alloc (.cells #[.string ⟨#[]⟩, .slice none 0 0] 39)).heap[w.heap.size]? = _ := heap_alloc_last w _
  generalize w.alloc (.cells #[.string ⟨#[]⟩, .slice none 0 0] 39) = w1 at HA HO ⊢
  have HO1 : Hid (w1.heap[w.heap.size]? = _) := HO
  refine (findbr_calls _ _ xs k w1 (HV.out.below HA.out)).mono ?_
  rintro e w2 ⟨⟨i, x, hx, hk, hf, rfl⟩ | ⟨hno, rfl⟩, rfl⟩
  · obtain ⟨a', c', he, h1, h2, h3⟩ := HV.out.below HA.out
    cases he
    obtain ⟨B, o, vb, rfl, _, k0, k1, hvb⟩ := h3.br i x hx
    have hlt := (List.getElem?_eq_some_iff.1 hx).1
    have hil : (i : Int) < (xs.length : Int) := by omega
    obtain ⟨pv, cv, rfl, _⟩ := hvb.shape
    have HX : Hid (Fst (fun x : Bn => x.key) xs k i x) := ⟨hx, hk, hf⟩
    subst hk
    have CC : Hid (Calls Tryz.prog 82 _ w2 _) := cloneBr_calls x _ w2 hvb (HL.out x (List.mem_of_getElem? hx))
    clear hvb h1 h2 h3 hx hf HO
    go_wp2_with fail
    refine CC.out.mono ?_
    rintro e w3 ⟨⟨v2, rfl, hv2⟩, hb2⟩
    obtain ⟨p2, c2, rfl, _⟩ := hv2.shape
    have r1 := row_below hb2 HO1.out
    have HR : Hid (w3.heap[w.heap.size]? = _) := r1
    have z0 := row_cell r1 (j := 0) rfl
    have z1 := row_cell r1 (j := 1) rfl
    have f1 := row_frozen r1
    have HB3 : Hid (Below w.heap.size w w3) := bel2 HA.out hb2
    have HV2 : Hid (Sl evE (fun B => w2.heap.size ≤ B) w3 _ x.ev) := hv2
    have HL1 : Hid (w.heap.size < w2.heap.size) := lt_of_row HO1.out
    clear hv2 hb2 r1
    go_wp2_with fail
    refine bodyPost_ret (retBr_tmp Tryz.results114 _ rfl (set2 (set2 HR.out _ _) _ _)) rfl ?_
    have hz := HL1.out
    refine ⟨.inl ⟨i, x, _, HX.out, rfl, ?_⟩, ?_⟩
    · exact (HV2.out.keep fun B hB _ => ⟨(set_obr _ _ _ _ _ (fun e => by have hB' : w2.heap.size ≤ B := hB; omega)).trans (set_obr _ _ _ _ _ (fun e => by have hB' : w2.heap.size ≤ B := hB; omega)), by have hB' : w2.heap.size ≤ B := hB; show w.heap.size ≤ B; omega⟩)
    · repeat refine below_set ?_ (Nat.le_refl _)
      exact HB3.out
  · have r1 := HO1.out
    have z0 := row_cell r1 (j := 0) rfl
    have z1 := row_cell r1 (j := 1) rfl
    have f1 := row_frozen r1
    clear r1 HO
    go_wp2_with fail
    refine bodyPost_ret (retBr_tmp Tryz.results114 _ rfl (set2 HO1.out _ _)) rfl ?_
    refine ⟨.inr ⟨hno, rfl⟩, ?_⟩
    repeat refine below_set ?_ (Nat.le_refl _)
    exact HA.out
end Go.Proofs.YtkaaddahegkmgaaGreat
