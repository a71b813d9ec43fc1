/- The contracts of put. -/
import Derived.Test.YtkaaddahegkmgaaGreatRK
namespace Go.Proofs.YtkaaddahegkmgaaGreat
open Go.ChangeShapes Go.WideShapes Go.ChangeAt Go.RowKit
/-- A list into which x is put: in the place of the first one of its key, or, where none has it, somewhere. -/
def Pt {α : Type} (key : α → ByteArray) (x : α) (xs ys : List α) : Prop :=
  (∃ (i : Nat) (y : α), Fst key xs (key x) i y ∧ ys = xs.set i x) ∨ ((∀ y ∈ xs, key y ≠ key x) ∧ ∃ i, i ≤ xs.length ∧ ys = xs.take i ++ x :: xs.drop i)
/-- What put answers. -/
def PutP {α : Type} (E : El α) (key : α → ByteArray) (lo : Nat) (Q : Nat → Prop) (w : World) (u : Value) (xs : List α) (x : α) (e : Ending) (w' : World) : Prop :=
  ∃ u' ys, e = .returned u' ∧ Gr E lo Q w' u' ys ∧ Pt key x xs ys ∧ Below lo w w' ∧ (∀ B, B < w.heap.size → u.ownBlock ≠ some B → w'.heap[B]? = w.heap[B]?) ∧ (u'.ownBlock = u.ownBlock ∨ ∃ B, u'.ownBlock = some B ∧ w.heap.size ≤ B)
theorem gr_ones {α : Type} {E : El α} {P : Nat → Prop} {w : World} {xs : List α} {cells : List Value} (hl : cells.length = xs.length * E.K) (hc : ∀ (i : Nat) x, xs[i]? = some x → ∃ cs, (∀ r z, cs[r]? = some z → cells[i * E.K + r]? = some z) ∧ E.I P w cs x) : ∀ z ∈ cells, z.oneCell' = true := by
  intro z hz
  obtain ⟨p, hp, rfl⟩ := List.getElem_of_mem hz
  rw [hl] at hp
  have hK : 0 < E.K := by
    rcases Nat.eq_zero_or_pos E.K with h | h
    · rw [h, Nat.mul_zero] at hp; omega
    · exact h
  have hi : p / E.K < xs.length := Nat.div_lt_of_lt_mul (by rw [Nat.mul_comm]; exact hp)
  obtain ⟨cs, e0, hI⟩ := hc (p / E.K) _ (List.getElem?_eq_getElem hi)
  have hr : p % E.K < cs.length := by rw [E.len hI]; exact Nat.mod_lt _ hK
  have h1 := e0 (p % E.K) _ (List.getElem?_eq_getElem hr)
  have h2 : p / E.K * E.K + p % E.K = p := by rw [Nat.mul_comm]; exact Nat.div_add_mod _ _
  rw [h2, List.getElem?_eq_getElem (by omega)] at h1
  injection h1 with h1
  rw [h1]
  exact E.one hI _ (List.getElem_mem hr)
theorem set_orowG (w : World) (g B o1 o2 o3 : Nat) (a b c : Value) (h : B ≠ g) : (((w.setCell ⟨g, o1, none⟩ a).setCell ⟨g, o2, none⟩ b).setCell ⟨g, o3, none⟩ c).heap[B]? = w.heap[B]? := ((Below.heap_setCell _ _ _ _ h).trans (Below.heap_setCell _ _ _ _ h)).trans (Below.heap_setCell _ _ _ _ h)
theorem set_obrG (w : World) (g B o1 o2 : Nat) (a b : Value) (h : B ≠ g) : ((w.setCell ⟨g, o1, none⟩ a).setCell ⟨g, o2, none⟩ b).heap[B]? = w.heap[B]? := (Below.heap_setCell _ _ _ _ h).trans (Below.heap_setCell _ _ _ _ h)
set_option maxHeartbeats 8000000 in
set_option maxRecDepth 100000 in
theorem putrow_calls (lo : Nat) (Q : Nat → Prop) (u v : Value) (xs : List Rw) (x : Rw) (w : World) (hG : Gr rowE lo Q w u xs) (hv : HB (fun B => Q B ∧ u.ownBlock ≠ some B) w v x.row) (hn : xs.length ≤ 500) (hlo : lo ≤ w.heap.size) :
    Calls Tryz.prog 67 #[u, .agg #[.string x.key, .int .i64 x.ver, v]] w (PutP rowE (fun x : Rw => x.key) lo Q w u xs x) := by
  obtain ⟨pv, cv, rfl, _⟩ := hv.shape
  obtain ⟨pu, cu, rfl, hcu1, hcu2⟩ := hG.shape
  have HG : Hid (Gr rowE lo Q w (.slice pu xs.length cu) xs) := hG
  have HV : Hid (HB (fun B => Q B ∧ (Value.slice pu xs.length cu).ownBlock ≠ some B) w (.slice pv x.row.length cv) x.row) := hv
  have HN : Hid (xs.length ≤ 500) := hn
  have HLO : Hid (lo ≤ w.heap.size) := hlo
  clear hG hv hn hlo
  go_enter Tryz.func67, Tryz.ntmps67
  have K0 : Hid (Calls Tryz.prog 74 #[.pointer (some ⟨w.heap.size, 0, none⟩)] (w.alloc (.cells #[.string x.key, .int .i64 x.ver, .slice pv x.row.length cv] 47)) _) := keyRow_calls _ _ 0 x.key (cell_new w _ _ 0)
  go_wp2_with fail
  refine K0.out.mono ?_
  rintro e w0 ⟨rfl, rfl⟩
  go_wp2_with fail
  have HA : Hid (Below w.heap.size w ((w.alloc (.cells #[.string x.key, .int .i64 x.ver, .slice pv x.row.length cv] 47)).alloc (.cells #[.string x.key] 9))) := bel2 (bel1 _ _) (bel1 _ _)
  have HO := old2 w (.cells #[.string x.key, .int .i64 x.ver, .slice pv x.row.length cv] 47) (.cells #[.string x.key] 9)
  have HO2 := new2 w (.cells #[.string x.key, .int .i64 x.ver, .slice pv x.row.length cv] 47) (.cells #[.string x.key] 9)
  generalize (w.alloc (.cells #[.string x.key, .int .i64 x.ver, .slice pv x.row.length cv] 47)).alloc (.cells #[.string x.key] 9) = w1 at HA HO HO2 ⊢
  have b0 := row_cell HO (j := 0) rfl
  have b1 := row_cell HO (j := 1) rfl
  have b2 := row_cell HO (j := 2) rfl
  have bk := row_cell HO2 (j := 0) rfl
  have G1 := HG.out.below HA.out
  have S1 : Sl rowE (fun _ => True) w1 (.slice pu xs.length cu) xs := G1.sl (fun _ _ => trivial)
  refine (findrow_calls _ _ xs x.key w1 S1).mono ?_
  rintro e w2 ⟨⟨i, y, hy, hk, hf, rfl⟩ | ⟨hno, rfl⟩, rfl⟩
  · have hlt := (List.getElem?_eq_some_iff.1 hy).1
    have hil : (i : Int) < (xs.length : Int) := by omega
    obtain ⟨cells, ho, hc⟩ := G1
    obtain ⟨_, ⟨_, h0⟩ | ⟨g, cap, cur, hu, hB, hg, _⟩⟩ := ho
    · omega
    cases hu
    obtain ⟨a', c', he, _, _, h3⟩ := S1
    cases he
    obtain ⟨B, o, vb, ha, _, k0, k1, k2, _⟩ := h3.row i y hy
    cases ha
    rw [Nat.zero_add] at k0 k1 k2
    have fg := row_frozen hg
    have HGG : Hid (Gr rowE lo Q w2 (.slice (some ⟨g, 0, none⟩) xs.length cu) xs) := HG.out.below HA.out
    have HB' : Hid (lo ≤ g) := hB
    have HP : Hid (Pt (fun x : Rw => x.key) x xs (xs.set i x)) := .inl ⟨i, y, ⟨hy, hk, hf⟩, rfl⟩
    have HLt : Hid (i < xs.length) := hlt
    have HS2 : Hid (w.heap.size ≤ w2.heap.size) := HA.out.size
    clear h3 hc hg hB hy hf hcu1 hcu2
    go_wp2_with fail
    go_ret
    refine ⟨_, _, rfl, gr_set_row HGG.out HLt.out ((HV.out.below HA.out).all fun B hB => ⟨hB.1, fun e => hB.2 (by rw [e]; rfl)⟩), HP.out, ?_, fun B hl hB => ?_, .inl rfl⟩
    · repeat refine below_set ?_ HB'.out
      exact HA.out.mono HLO.out
    · have hBg : B ≠ g := fun e => hB (by rw [e]; rfl)
      exact (set_orowG w2 g B _ _ _ _ _ _ hBg).trans (HA.out.block B hl)
  · have HNO : Hid (∀ y ∈ xs, y.key ≠ x.key) := hno
    have IC : Hid (Calls Tryz.prog 76 _ w2 _) := indexrow_calls (fun _ => True) pu cu (w.heap.size + 1) xs x.key w2 (by have := HN.out; omega) (by obtain ⟨a', c', he, _, _, h3⟩ := S1; cases he; exact h3) bk
    have HOx : Hid (w2.heap[w.heap.size]? = _) := HO
    clear G1 S1 hno HO HO2 bk hcu1 hcu2
    go_wp2_with fail
    refine IC.out.mono ?_
    rintro e w3 ⟨⟨i, rfl, hi⟩, hb2x⟩
    have d0 := cell_below b0 hb2x
    have d1 := cell_below b1 hb2x
    have d2 := cell_below b2 hb2x
    have HBx : Hid (Below w.heap.size w w3) := bel2 HA.out hb2x
    have HI : Hid (∀ j : Nat, j ≤ xs.length → Calls Tryz.prog 98 #[.slice pu xs.length cu, .int .i64 (j : Int), .slice (some ⟨w3.heap.size, 0, none⟩) 1 1] (w3.alloc (.cells #[.string x.key, .int .i64 x.ver, .slice pv x.row.length cv] 47)) (PutP rowE (fun x : Rw => x.key) lo Q w (.slice pu xs.length cu) xs x)) := fun j hj => by
      have hB4 := bel2 HBx.out (bel1 w3 (.cells #[.string x.key, .int .i64 x.ver, .slice pv x.row.length cv] 47))
      have G4 := HG.out.below hB4
      obtain ⟨cells, ho, hc⟩ := G4
      have hx4 : rowE.I (fun B => Q B ∧ (Value.slice pu xs.length cu).ownBlock ≠ some B) (w3.alloc (.cells #[.string x.key, .int .i64 x.ver, .slice pv x.row.length cv] 47)) [.string x.key, .int .i64 x.ver, .slice pv x.row.length cv] x := ⟨_, rfl, HV.out.below hB4⟩
      have hlu := HG.out.lt
      have hs3 := HBx.out.size
      refine (InsR.insert_calls lo _ xs.length j w3.heap.size cells [.string x.key, .int .i64 x.ver, .slice pv x.row.length cv] _ ho hj HN.out (heap_alloc_last w3 _) rfl (rowE.one hx4) (gr_ones ho.1 hc) (fun e => by have := hlu _ e; omega) (by have := HLO.out; simp; omega)).mono ?_
      rintro e w5 ⟨v5, rfl, h5, hb5, hk5, hv5⟩
      refine ⟨v5, _, rfl, Gr.ins ho hc hj hx4 h5 hk5 hv5, .inr ⟨HNO.out, j, hj, rfl⟩, (hB4.mono HLO.out).trans hb5, fun B hl hB => (hk5 B (Nat.lt_of_lt_of_le hl hB4.size) hB).trans (hB4.block B hl), ?_⟩
      rcases hv5 with e | e
      · exact .inl e
      · exact .inr ⟨_, e, hB4.size⟩
    clear hb2x
    rcases hi with rfl | ⟨j, rfl, hj⟩
    · have H5 := HI.out xs.length (Nat.le_refl _)
      clear HI
      have H6 : Hid (Calls Tryz.prog 98 _ _ _) := H5
      clear H5
      go_wp2_with fail
      refine H6.out.mono ?_
      rintro e w5 ⟨u5, xs5, rfl, hrest⟩
      have HR : Hid (_ ∧ _) := hrest
      clear hrest
      obtain ⟨p5, c5, rfl, _⟩ := HR.out.1.shape
      go_wp2_with fail
      go_ret
      exact ⟨_, xs5, rfl, HR.out⟩
    · have H5 := HI.out j (Nat.le_of_lt hj)
      clear HI
      have H6 : Hid (Calls Tryz.prog 98 _ _ _) := H5
      clear H5 hj
      have hj0 : ¬ ((j : Int) < 0) := by omega
      go_wp2_with fail
      refine H6.out.mono ?_
      rintro e w5 ⟨u5, xs5, rfl, hrest⟩
      have HR : Hid (_ ∧ _) := hrest
      clear hrest
      obtain ⟨p5, c5, rfl, _⟩ := HR.out.1.shape
      go_wp2_with fail
      go_ret
      exact ⟨_, xs5, rfl, HR.out⟩
set_option maxHeartbeats 8000000 in
set_option maxRecDepth 100000 in
theorem putbr_calls (lo : Nat) (Q : Nat → Prop) (u v : Value) (xs : List Bn) (x : Bn) (w : World) (hG : Gr brE lo Q w u xs) (hv : Sl evE (fun B => Q B ∧ u.ownBlock ≠ some B) w v x.ev) (hn : xs.length ≤ 500) (hlo : lo ≤ w.heap.size) :
    Calls Tryz.prog 66 #[u, .agg #[.string x.key, v]] w (PutP brE (fun x : Bn => x.key) lo Q w u xs x) := by
  obtain ⟨pv, cv, rfl, _⟩ := hv.shape
  obtain ⟨pu, cu, rfl, hcu1, hcu2⟩ := hG.shape
  have HG : Hid (Gr brE lo Q w (.slice pu xs.length cu) xs) := hG
  have HV : Hid (Sl evE (fun B => Q B ∧ (Value.slice pu xs.length cu).ownBlock ≠ some B) w (.slice pv x.ev.length cv) x.ev) := hv
  have HN : Hid (xs.length ≤ 500) := hn
  have HLO : Hid (lo ≤ w.heap.size) := hlo
  clear hG hv hn hlo
  go_enter Tryz.func66, Tryz.ntmps66
  have K0 : Hid (Calls Tryz.prog 75 #[.pointer (some ⟨w.heap.size, 0, none⟩)] (w.alloc (.cells #[.string x.key, .slice pv x.ev.length cv] 39)) _) := keyBr_calls _ _ 0 x.key (cell_new w _ _ 0)
  go_wp2_with fail
  refine K0.out.mono ?_
  rintro e w0 ⟨rfl, rfl⟩
  go_wp2_with fail
  have HA : Hid (Below w.heap.size w ((w.alloc (.cells #[.string x.key, .slice pv x.ev.length cv] 39)).alloc (.cells #[.string x.key] 9))) := bel2 (bel1 _ _) (bel1 _ _)
  have HO := old2 w (.cells #[.string x.key, .slice pv x.ev.length cv] 39) (.cells #[.string x.key] 9)
  have HO2 := new2 w (.cells #[.string x.key, .slice pv x.ev.length cv] 39) (.cells #[.string x.key] 9)
  generalize (w.alloc (.cells #[.string x.key, .slice pv x.ev.length cv] 39)).alloc (.cells #[.string x.key] 9) = w1 at HA HO HO2 ⊢
  have b0 := row_cell HO (j := 0) rfl
  have b1 := row_cell HO (j := 1) rfl
  have bk := row_cell HO2 (j := 0) rfl
  have G1 := HG.out.below HA.out
  have S1 : Sl brE (fun _ => True) w1 (.slice pu xs.length cu) xs := G1.sl (fun _ _ => trivial)
  refine (findbr_calls _ _ xs x.key w1 S1).mono ?_
  rintro e w2 ⟨⟨i, y, hy, hk, hf, rfl⟩ | ⟨hno, rfl⟩, rfl⟩
  · have hlt := (List.getElem?_eq_some_iff.1 hy).1
    have hil : (i : Int) < (xs.length : Int) := by omega
    obtain ⟨cells, ho, hc⟩ := G1
    obtain ⟨_, ⟨_, h0⟩ | ⟨g, cap, cur, hu, hB, hg, _⟩⟩ := ho
    · omega
    cases hu
    obtain ⟨a', c', he, _, _, h3⟩ := S1
    cases he
    obtain ⟨B, o, vb, ha, _, k0, k1, _⟩ := h3.br i y hy
    cases ha
    rw [Nat.zero_add] at k0 k1
    have fg := row_frozen hg
    have HGG : Hid (Gr brE lo Q w2 (.slice (some ⟨g, 0, none⟩) xs.length cu) xs) := HG.out.below HA.out
    have HB' : Hid (lo ≤ g) := hB
    have HP : Hid (Pt (fun x : Bn => x.key) x xs (xs.set i x)) := .inl ⟨i, y, ⟨hy, hk, hf⟩, rfl⟩
    have HLt : Hid (i < xs.length) := hlt
    have HS2 : Hid (w.heap.size ≤ w2.heap.size) := HA.out.size
    clear h3 hc hg hB hy hf hcu1 hcu2
    go_wp2_with fail
    go_ret
    refine ⟨_, _, rfl, gr_set_br HGG.out HLt.out ((HV.out.below HA.out).all' fun B hB => ⟨hB.1, fun e => hB.2 (by rw [e]; rfl)⟩), HP.out, ?_, fun B hl hB => ?_, .inl rfl⟩
    · repeat refine below_set ?_ HB'.out
      exact HA.out.mono HLO.out
    · have hBg : B ≠ g := fun e => hB (by rw [e]; rfl)
      exact (set_obrG w2 g B _ _ _ _ hBg).trans (HA.out.block B hl)
  · have HNO : Hid (∀ y ∈ xs, y.key ≠ x.key) := hno
    have IC : Hid (Calls Tryz.prog 77 _ w2 _) := indexbr_calls (fun _ => True) pu cu (w.heap.size + 1) xs x.key w2 (by have := HN.out; omega) (by obtain ⟨a', c', he, _, _, h3⟩ := S1; cases he; exact h3) bk
    have HOx : Hid (w2.heap[w.heap.size]? = _) := HO
    clear G1 S1 hno HO HO2 bk hcu1 hcu2
    go_wp2_with fail
    refine IC.out.mono ?_
    rintro e w3 ⟨⟨i, rfl, hi⟩, hb2x⟩
    have d0 := cell_below b0 hb2x
    have d1 := cell_below b1 hb2x
    have HBx : Hid (Below w.heap.size w w3) := bel2 HA.out hb2x
    have HI : Hid (∀ j : Nat, j ≤ xs.length → Calls Tryz.prog 96 #[.slice pu xs.length cu, .int .i64 (j : Int), .slice (some ⟨w3.heap.size, 0, none⟩) 1 1] (w3.alloc (.cells #[.string x.key, .slice pv x.ev.length cv] 39)) (PutP brE (fun x : Bn => x.key) lo Q w (.slice pu xs.length cu) xs x)) := fun j hj => by
      have hB4 := bel2 HBx.out (bel1 w3 (.cells #[.string x.key, .slice pv x.ev.length cv] 39))
      have G4 := HG.out.below hB4
      obtain ⟨cells, ho, hc⟩ := G4
      have hx4 : brE.I (fun B => Q B ∧ (Value.slice pu xs.length cu).ownBlock ≠ some B) (w3.alloc (.cells #[.string x.key, .slice pv x.ev.length cv] 39)) [.string x.key, .slice pv x.ev.length cv] x := ⟨_, rfl, HV.out.below hB4⟩
      have hlu := HG.out.lt
      have hs3 := HBx.out.size
      refine (InsB.insert_calls lo _ xs.length j w3.heap.size cells [.string x.key, .slice pv x.ev.length cv] _ ho hj HN.out (heap_alloc_last w3 _) rfl (brE.one hx4) (gr_ones ho.1 hc) (fun e => by have := hlu _ e; omega) (by have := HLO.out; simp; omega)).mono ?_
      rintro e w5 ⟨v5, rfl, h5, hb5, hk5, hv5⟩
      refine ⟨v5, _, rfl, Gr.ins ho hc hj hx4 h5 hk5 hv5, .inr ⟨HNO.out, j, hj, rfl⟩, (hB4.mono HLO.out).trans hb5, fun B hl hB => (hk5 B (Nat.lt_of_lt_of_le hl hB4.size) hB).trans (hB4.block B hl), ?_⟩
      rcases hv5 with e | e
      · exact .inl e
      · exact .inr ⟨_, e, hB4.size⟩
    clear hb2x
    rcases hi with rfl | ⟨j, rfl, hj⟩
    · have H5 := HI.out xs.length (Nat.le_refl _)
      clear HI
      have H6 : Hid (Calls Tryz.prog 96 _ _ _) := H5
      clear H5
      go_wp2_with fail
      refine H6.out.mono ?_
      rintro e w5 ⟨u5, xs5, rfl, hrest⟩
      have HR : Hid (_ ∧ _) := hrest
      clear hrest
      obtain ⟨p5, c5, rfl, _⟩ := HR.out.1.shape
      go_wp2_with fail
      go_ret
      exact ⟨_, xs5, rfl, HR.out⟩
    · have H5 := HI.out j (Nat.le_of_lt hj)
      clear HI
      have H6 : Hid (Calls Tryz.prog 96 _ _ _) := H5
      clear H5 hj
      have hj0 : ¬ ((j : Int) < 0) := by omega
      go_wp2_with fail
      refine H6.out.mono ?_
      rintro e w5 ⟨u5, xs5, rfl, hrest⟩
      have HR : Hid (_ ∧ _) := hrest
      clear hrest
      obtain ⟨p5, c5, rfl, _⟩ := HR.out.1.shape
      go_wp2_with fail
      go_ret
      exact ⟨_, xs5, rfl, HR.out⟩
end Go.Proofs.YtkaaddahegkmgaaGreat
