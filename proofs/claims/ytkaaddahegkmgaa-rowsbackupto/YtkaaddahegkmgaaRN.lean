/- The contracts of ahead and of written. -/
import Derived.Test.YtkaaddahegkmgaaRM
namespace Go.Proofs.Ytkaaddahegkmgaa
open Go.ChangeShapes Go.WideShapes Go.ChangeAt Go.RowKit
theorem Sl.cut {P : Nat → Prop} {w : World} {p : Option Addr} {c k : Nat} {l : List (List UInt8)} (h : Sl evE P w (.slice p l.length c) l) (hk : k ≤ l.length) : Sl evE P w (.slice p k c) (l.take k) := by
  obtain ⟨a, c', he, h1, h2, h3⟩ := h
  cases he
  have hl : (l.take k).length = k := by rw [List.length_take]; omega
  refine ⟨p, c, by rw [hl], by omega, h2, fun i x hx => ?_⟩
  have hlt : i < k := by have := (List.getElem?_eq_some_iff.1 hx).1; omega
  rw [List.getElem?_take_of_lt hlt] at hx
  exact h3 i x hx
/-- What ahead answers. -/
def AhP (brs : List Bn) (k : ByteArray) (w : World) (e : Ending) (w' : World) : Prop :=
  ((∃ l v', e = .returned (.tuple #[v', .bool true]) ∧ Sl evE (fun B => w.heap.size ≤ B) w' v' l ∧ l.length ≤ 100000 ∧ (∀ i x, Fst (fun x : Bn => x.key) brs k i x → x.ev.length ≤ l.length) ∧ ∀ e ∈ l, e.length ≤ 70368744177664) ∨ (∃ p n c, n ≤ 100000 ∧ e = .returned (.tuple #[.slice p n c, .bool false]))) ∧ Below w.heap.size w w'
theorem fst_one {α : Type} {key : α → ByteArray} {xs : List α} {k : ByteArray} {i j : Nat} {x y : α} (h : Fst key xs k i x) (g : Fst key xs k j y) : x = y := by
  rcases Nat.lt_trichotomy i j with hij | hij | hij
  · exact absurd h.2.1 (g.2.2 i x hij h.1)
  · subst hij
    have := h.1.symm.trans g.1
    injection this
  · exact absurd g.2.1 (h.2.2 j y hij g.1)
theorem fst_mem {α : Type} {key : α → ByteArray} {xs : List α} {k : ByteArray} {i : Nat} {x : α} (h : Fst key xs k i x) : x ∈ xs := List.mem_of_getElem? h.1
theorem z26 (w : World) : (Go.sizeOf 26).run Try.prog w = .ok 1 w := by kernel_rfl
theorem elem40 : Try.prog.elem 40 = 26 := by simp [Program.elem, Try.underlying40]
theorem addr0 (a : Addr) : a.add 0 = a := by
  obtain ⟨b, o, s⟩ := a
  unfold Addr.add
  split <;> simp_all
theorem sl_head40 (p : Option Addr) (L c n : Nat) (hn : n ≤ L) (hc : L ≤ c) (w : World) : (Instr.slice 40 (.slice p L c) none (some (.int .i64 (n : Int))) none).run Try.prog w = .ok (.slice p n c) w := by
  rw [run_slice_h w 40 p L c (by rw [elem40]; exact Try.underlying40) .i64 _ (by omega) (by omega), elem40, z26]
  cases p <;> simp [Result.andThen, sliced, addr0]
set_option maxHeartbeats 8000000 in
set_option maxRecDepth 100000 in
theorem ahead_calls (v : Value) (r : Db) (t : Wt) (ep : Option Addr) (en ec : Nat) (w : World) (hv : IsR (fun _ => True) w v r) (hs : SmD r) (hk : 0 ≤ t.kp) :
    Calls Try.prog 83 #[v, .agg #[.string t.br, .string t.fk, .int .i64 t.kp, .int .i64 t.ta, .slice ep en ec]] w (AhP r.brs t.br w) := by
  obtain ⟨br, fk, kp, ta, ev⟩ := t
  dsimp only at hk ⊢
  have HV : Hid (IsR (fun _ => True) w v r) := hv
  have HS : Hid (SmD r) := hs
  obtain ⟨pu, cu, pb, cb, rfl, hu, hb⟩ := hv.shape
  have HU : Hid (Sl brE (fun _ => True) w (.slice pb r.brs.length cb) r.brs) := hb
  clear hu hb hs hv
  go_enter Try.func83, Try.ntmps83
  go_wp2_with fail
  have HA : Hid (Below w.heap.size w ((w.alloc (.cells #[.slice pu r.rows.length cu, .slice pb r.brs.length cb] 25)).alloc (.cells #[.string br, .string fk, .int .i64 kp, .int .i64 ta, .slice ep en ec] 47))) := bel2 (bel1 _ _) (bel1 _ _)
  have HO := old2 w (.cells #[.slice pu r.rows.length cu, .slice pb r.brs.length cb] 25) (.cells #[.string br, .string fk, .int .i64 kp, .int .i64 ta, .slice ep en ec] 47)
  have HO2 := new2 w (.cells #[.slice pu r.rows.length cu, .slice pb r.brs.length cb] 25) (.cells #[.string br, .string fk, .int .i64 kp, .int .i64 ta, .slice ep en ec] 47)
  generalize (w.alloc (.cells #[.slice pu r.rows.length cu, .slice pb r.brs.length cb] 25)).alloc (.cells #[.string br, .string fk, .int .i64 kp, .int .i64 ta, .slice ep en ec] 47) = w1 at HA HO HO2 ⊢
  refine (Events_calls _ r br w1 (HV.out.below HA.out) HS.out).mono ?_
  rintro e w2 he
  have hb2 := he.2
  have r1 := row_below hb2 HO
  have r2 := row_below hb2 HO2
  have a0 := row_cell r1 (j := 0) rfl
  have a1 := row_cell r1 (j := 1) rfl
  have c0 := row_cell r2 (j := 0) rfl
  have c1 := row_cell r2 (j := 1) rfl
  have c2 := row_cell r2 (j := 2) rfl
  have c3 := row_cell r2 (j := 3) rfl
  have HB2 : Hid (Below w.heap.size w w2) := bel2 HA.out hb2
  have HE2 : Hid (∀ W, Below w2.heap.size w2 W → Calls Try.prog 14 _ W _) := fun W hW => Events_calls _ r fk W (HV.out.below (bel2 HB2.out hW)) HS.out
  have HF : Hid (fk.size = 0 ∨ fk.size ≠ 0) := by rcases Nat.eq_zero_or_pos fk.size with h | h; exact .inl h; exact .inr (by omega)
  have HSZ : Hid (w.heap.size ≤ w1.heap.size) := HA.out.size
  have own : ∃ ob l po co, e = .returned (.tuple #[.slice po l.length co, .bool ob]) ∧ Sl evE (fun B => w.heap.size ≤ B) w2 (.slice po l.length co) l ∧ l.length ≤ 100000 ∧ (∀ i x, Fst (fun x : Bn => x.key) r.brs br i x → x.ev.length ≤ l.length) ∧ (ob = false → ∀ y ∈ r.brs, y.key ≠ br) ∧ ∀ e ∈ l, e.length ≤ 70368744177664 := by
    rcases he.1 with ⟨i, x, v', hx, rfl, hv'⟩ | ⟨hno, rfl⟩
    · obtain ⟨p', c', rfl, _⟩ := hv'.shape
      exact ⟨true, x.ev, _, _, rfl, hv'.all' fun B hB => Nat.le_trans HSZ.out hB, (HS.out.b1 x (fst_mem hx)).1, fun j y hy => by rw [fst_one hx hy]; exact Nat.le_refl _, (fun h => by cases h), (HS.out.b1 x (fst_mem hx)).2⟩
    · exact ⟨false, [], none, 0, rfl, Sl.nil _ _, Nat.zero_le _, fun j y hy => absurd hy.2.1 (hno y (fst_mem hy)), fun _ => hno, fun e he => by cases he⟩
  obtain ⟨ob, l, po, co, rfl, hl, hl1, hl2, hob, hl4⟩ := own
  have HL4 : Hid (∀ e ∈ l, e.length ≤ 70368744177664) := hl4
  have HL : Hid (Sl evE (fun B => w.heap.size ≤ B) w2 (.slice po l.length co) l) := hl
  have HL1 : Hid (l.length ≤ 100000) := hl1
  have HL2 : Hid (∀ i x, Fst (fun x : Bn => x.key) r.brs br i x → x.ev.length ≤ l.length) := hl2
  have HOB : Hid (ob = false → ∀ y ∈ r.brs, y.key ≠ br) := hob
  clear he hb2 r1 r2 HO HO2 hl hl1 hl2 hob hl4
  rcases HF.out with hf | hf
  · obtain rfl : fk = ⟨#[]⟩ := by
      cases fk with
      | mk d => simp only [ByteArray.size] at hf; rw [Array.eq_empty_of_size_eq_zero hf]
    clear hf
    go_upto_region 3 with fail
    go_quiet (fail)
    go_wp2_with fail
    refine bodyPost_ret (results_tmp2 Try.results83 _) rfl ⟨?_, HB2.out.trans ((belN _ _).mono HB2.out.size)⟩
    cases hq : ((l.length : Int) == ta) with
    | true => exact .inl ⟨l, _, by rw [← hq]; rfl, HL.out.below (belN _ _), HL1.out, HL2.out, HL4.out⟩
    | false => exact .inr ⟨_, _, _, HL1.out, by rw [← hq]; rfl⟩
  · have hse : fk.toList.isEmpty = false := by
      cases he : fk.toList with
      | nil => exact absurd (by rw [tl_nil he]; rfl) hf
      | cons _ _ => rfl
    go_wp2_with fail
    refine (HE2.out w2 (Below.refl _ w2)).mono ?_
    rintro e w3 he
    have hb3 := he.2
    have own : ∃ ob l po co, e = .returned (.tuple #[.slice po l.length co, .bool ob]) ∧ Sl evE (fun B => w.heap.size ≤ B) w3 (.slice po l.length co) l ∧ l.length ≤ 100000 ∧ l.length ≤ co ∧ ∀ e ∈ l, e.length ≤ 70368744177664 := by
      rcases he.1 with ⟨i, x, v', hx, rfl, hv'⟩ | ⟨hno, rfl⟩
      · obtain ⟨p', c', rfl, hc', _⟩ := hv'.shape
        exact ⟨true, x.ev, _, _, rfl, hv'.all' fun B hB => Nat.le_trans HB2.out.size hB, (HS.out.b1 x (fst_mem hx)).1, hc', (HS.out.b1 x (fst_mem hx)).2⟩
      · exact ⟨false, [], none, 0, rfl, Sl.nil _ _, Nat.zero_le _, Nat.le_refl _, fun e he => by cases he⟩
    obtain ⟨ob2, l2, p2, k2, rfl, hl, hl1, hl3, hl4⟩ := own
    have M4 : Hid (∀ e ∈ l2, e.length ≤ 70368744177664) := hl4
    have M : Hid (Sl evE (fun B => w.heap.size ≤ B) w3 (.slice p2 l2.length k2) l2) := hl
    have M1 : Hid (l2.length ≤ 100000) := hl1
    have M3 : Hid (l2.length ≤ k2) := hl3
    have HB3 : Hid (Below w.heap.size w w3) := bel2 HB2.out hb3
    have d2 := cell_below c2 hb3
    obtain ⟨kn, rfl⟩ : ∃ kn : Nat, kp = (kn : Int) := ⟨kp.toNat, by omega⟩
    clear he hb3 hl hl1 hl3 hl4 hk c0 c1 c2 c3 a0 a1
    cases ob with
    | true =>
      go_wp2_with fail
      refine bodyPost_ret (results_tmp2 Try.results83 _) rfl ⟨.inr ⟨none, 0, 0, Nat.zero_le _, rfl⟩, HB3.out⟩
    | false =>
      cases ob2 with
      | false =>
        go_wp2_with fail
        refine bodyPost_ret (results_tmp2 Try.results83 _) rfl ⟨.inr ⟨none, 0, 0, Nat.zero_le _, rfl⟩, HB3.out⟩
      | true =>
        by_cases hlt : l2.length < kn
        · have hlti : (l2.length : Int) < (kn : Int) := by omega
          go_wp2_with fail
          refine bodyPost_ret (results_tmp2 Try.results83 _) rfl ⟨.inr ⟨none, 0, 0, Nat.zero_le _, rfl⟩, HB3.out⟩
        · have hlti : ¬ (l2.length : Int) < (kn : Int) := by omega
          have hsl := sl_head40 p2 l2.length k2 kn (by omega) M3.out
          go_wp2_with (simp only)
          refine bodyPost_ret (results_tmp2 Try.results83 _) rfl ⟨.inl ⟨l2.take kn, _, rfl, M.out.cut (by omega), ?_, fun i x hx => absurd hx.2.1 (HOB.out (by trivial) x (fst_mem hx)), fun e he => M4.out e (List.mem_of_mem_take he)⟩, HB3.out⟩
          rw [List.length_take]
          have := M1.out
          omega
/-- What written answers. -/
def WrP (brs : List Bn) (t : Wt) (w : World) (e : Ending) (w' : World) : Prop :=
  ((∃ l v', e = .returned (.tuple #[v', .int .i64 0]) ∧ Sl evE (fun B => w.heap.size ≤ B) w' v' l ∧ l.length ≤ 100000 ∧ t.ev.length ≤ l.length ∧ (∀ i x, Fst (fun x : Bn => x.key) brs t.br i x → x.ev.length ≤ l.length) ∧ ∀ e ∈ l, e.length ≤ 70368744177664) ∨ (∃ c : Int, c ≠ 0 ∧ e = .returned (.tuple #[.slice none 0 0, .int .i64 c]))) ∧ Below w.heap.size w w'
set_option maxHeartbeats 8000000 in
set_option maxRecDepth 100000 in
theorem written_calls (v : Value) (r : Db) (t : Wt) (e : Value) (w : World) (hv : IsR (fun _ => True) w v r) (hs : SmD r) (hk : 0 ≤ t.kp) (he : Sl evE (fun _ => True) w e t.ev) (hn : t.ev.length ≤ 1000) (hl : ∀ x ∈ t.ev, x.length ≤ 70368744177664) :
    Calls Try.prog 50 #[v, .agg #[.string t.br, .string t.fk, .int .i64 t.kp, .int .i64 t.ta, e]] w (WrP r.brs t w) := by
  obtain ⟨br, fk, kp, ta, ev⟩ := t
  dsimp only at hk he hn hl ⊢
  obtain ⟨ep, ec, rfl, _⟩ := he.shape
  have HV : Hid (IsR (fun _ => True) w v r) := hv
  have HS : Hid (SmD r) := hs
  have HE : Hid (Sl evE (fun _ => True) w (.slice ep ev.length ec) ev) := he
  have HN : Hid (ev.length ≤ 1000) := hn
  have HL : Hid (∀ x ∈ ev, x.length ≤ 70368744177664) := hl
  obtain ⟨pu, cu, pb, cb, rfl, hu, hb⟩ := hv.shape
  clear hu hb hs hv he hl
  go_enter Try.func50, Try.ntmps50
  go_wp2_with fail
  have HA : Hid (Below w.heap.size w ((w.alloc (.cells #[.slice pu r.rows.length cu, .slice pb r.brs.length cb] 25)).alloc (.cells #[.string br, .string fk, .int .i64 kp, .int .i64 ta, .slice ep ev.length ec] 47))) := bel2 (bel1 _ _) (bel1 _ _)
  have HO2 := new2 w (.cells #[.slice pu r.rows.length cu, .slice pb r.brs.length cb] 25) (.cells #[.string br, .string fk, .int .i64 kp, .int .i64 ta, .slice ep ev.length ec] 47)
  generalize (w.alloc (.cells #[.slice pu r.rows.length cu, .slice pb r.brs.length cb] 25)).alloc (.cells #[.string br, .string fk, .int .i64 kp, .int .i64 ta, .slice ep ev.length ec] 47) = w1 at HA HO2 ⊢
  refine (ahead_calls _ r ⟨br, fk, kp, ta, ev⟩ ep ev.length ec w1 (HV.out.below HA.out) HS.out hk).mono ?_
  rintro e w2 ⟨⟨l, v2, rfl, hl, hl1, hl2, hl4⟩ | ⟨p, n, c, hn2, rfl⟩, hb2⟩
  · obtain ⟨p2, c2, rfl, _⟩ := hl.shape
    have HB2 : Hid (Below w.heap.size w w2) := bel2 HA.out hb2
    have L0 : Hid (Sl evE (fun B => w.heap.size ≤ B) w2 (.slice p2 l.length c2) l) := hl.all' fun B hB => Nat.le_trans HA.out.size hB
    have L1 : Hid (l.length ≤ 100000) := hl1
    have L2 : Hid (∀ i x, Fst (fun x : Bn => x.key) r.brs br i x → x.ev.length ≤ l.length) := hl2
    have L4 : Hid (∀ e ∈ l, e.length ≤ 70368744177664) := hl4
    have c4 := row_cell (row_below hb2 HO2) (j := 4) rfl
    clear hl hl1 hl2 hl4 hb2 HO2
    by_cases h120 : (120 : Int) < (l.length : Int) + (ev.length : Int)
    · have hw : wrap64 ((l.length : Int) + (ev.length : Int)) = (l.length : Int) + (ev.length : Int) := by have := L1.out; unfold wrap64; omega
      go_wp2_with fail
      refine bodyPost_ret (results_tmp2 Try.results50 _) rfl ⟨.inr ⟨1, by decide, rfl⟩, HB2.out⟩
    · have hw : wrap64 ((l.length : Int) + (ev.length : Int)) = (l.length : Int) + (ev.length : Int) := by have := L1.out; unfold wrap64; omega
      have CC : Hid (Calls Try.prog 85 _ w2 _) := cloneEvents_calls _ ev w2 (HE.out.below HB2.out) (by have := HN.out; omega) HL.out
      go_wp2_with fail
      refine CC.out.mono ?_
      rintro e w3 ⟨v3, rfl, hg3, hb3⟩
      obtain ⟨p3, c3, rfl, _⟩ := hg3.shape
      have S3 := hg3.sl (P := fun B => w.heap.size ≤ B) (fun B h => Nat.le_trans HB2.out.size (h.elim id id))
      have hb4 := bel1 w3 (.cells #[.slice p2 l.length c2, .slice p3 ev.length c3] 40)
      have QC : Hid (Calls Try.prog 84 #[.slice (some ⟨w3.heap.size, 0, none⟩) 2 2] (w3.alloc (.cells #[.slice p2 l.length c2, .slice p3 ev.length c3] 40)) _) :=
        concatE_calls (fun B => w.heap.size ≤ B) _ 2 _ _ l ev _ (cell_new w3 _ _ 0) (cell_new w3 _ _ 1) ((L0.out.below hb3).below hb4) (S3.below hb4) (by have := L1.out; have := HN.out; omega)
      have HB3 : Hid (Below w.heap.size w w3) := bel2 HB2.out hb3
      clear hg3 hb3 S3 hb4 CC
      go_wp2_with fail
      refine QC.out.mono ?_
      rintro e w5 ⟨⟨v5, rfl, hg5⟩, hb5⟩
      have S5 := hg5.sl (P := fun B => w.heap.size ≤ B) (fun B h => h.elim (fun h => h.1) (fun h => by have := HB3.out.size; simp at h; omega))
      obtain ⟨p5, c5, hv5, _⟩ := hg5.shape
      rw [List.length_append] at hv5
      subst hv5
      have HS5 : Hid (Sl evE (fun B => w.heap.size ≤ B) w5 _ (l ++ ev)) := S5
      have HB5 : Hid (Below w.heap.size w w5) := bel2 (bel2 HB3.out (bel1 _ _)) hb5
      clear hg5 hb5 S5
      go_wp2_with fail
      refine bodyPost_ret (results_tmp2 Try.results50 _) rfl ⟨.inl ⟨l ++ ev, _, rfl, HS5.out, ?_, ?_, fun i x hx => ?_, fun e he => ?_⟩, HB5.out⟩
      · rw [List.length_append]; omega
      · rw [List.length_append]; exact Nat.le_add_left _ _
      · rw [List.length_append]; exact Nat.le_trans (L2.out i x hx) (Nat.le_add_right _ _)
      · rcases List.mem_append.1 he with h | h
        · exact L4.out e h
        · exact HL.out e h
  · have HB2 : Hid (Below w.heap.size w w2) := bel2 HA.out hb2
    clear hb2 HO2
    go_wp2_with fail
    refine bodyPost_ret (results_tmp2 Try.results50 _) rfl ⟨.inr ⟨11, by decide, rfl⟩, HB2.out⟩
end Go.Proofs.Ytkaaddahegkmgaa
