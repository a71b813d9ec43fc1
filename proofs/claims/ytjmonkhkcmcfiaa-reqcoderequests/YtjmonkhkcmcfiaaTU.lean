/- The reference's Request. -/
import Derived.Test.YtjmonkhkcmcfiaaTC
import Derived.Test.YtjmonkhkcmcfiaaTY
import Derived.Test.YtjmonkhkcmcfiaaTM
import Derived.Deep.RegionHeld3
namespace Go.Proofs.Ytjmonkhkcmcfiaa
open Go.ChangeShapes Go.WideShapes Go.ChangeAt Go.RowKit
def NumsAt (w : World) (a : Option Addr) (zs : List Int) : Prop := ∀ (i : Nat) z, zs[i]? = some z → ∃ B o, a = some ⟨B, o, none⟩ ∧ w.cell? ⟨B, o + i, none⟩ = some (.int .i64 z)
def TxtsAt (w : World) (a : Option Addr) (ts : List ByteArray) : Prop := ∀ (i : Nat) s, ts[i]? = some s → ∃ B o, a = some ⟨B, o, none⟩ ∧ w.cell? ⟨B, o + i, none⟩ = some (.string s)
theorem NumsAt.below {w w' : World} {a : Option Addr} {zs : List Int} (h : NumsAt w a zs) (hb : Below w.heap.size w w') : NumsAt w' a zs := fun i z hz => by
  obtain ⟨B, o, ha, hc⟩ := h i z hz
  exact ⟨B, o, ha, cellG hc hb⟩
theorem TxtsAt.below {w w' : World} {a : Option Addr} {ts : List ByteArray} (h : TxtsAt w a ts) (hb : Below w.heap.size w w') : TxtsAt w' a ts := fun i z hz => by
  obtain ⟨B, o, ha, hc⟩ := h i z hz
  exact ⟨B, o, ha, cellG hc hb⟩
theorem kind_calls (n : Int) (w : World) : Calls Try.prog 19 #[.int .i64 n] w fun e w' => e = .returned (.bool (decide (0 ≤ n ∧ n ≤ 255))) ∧ w' = w := by
  by_cases h0 : 0 ≤ n
  · by_cases h1 : n ≤ 255
    · have e : decide (0 ≤ n ∧ n ≤ 255) = true := decide_eq_true ⟨h0, h1⟩
      have d0 : decide ((0 : Int) ≤ n) = true := decide_eq_true h0
      have d1 : decide (n ≤ 255) = true := decide_eq_true h1
      rw [e]
      clear e h0 h1
      go_enter Try.func19, Try.ntmps19
      go_wp2_with fail
      go_ret
      exact ⟨by simp, rfl⟩
    · have e : decide (0 ≤ n ∧ n ≤ 255) = false := decide_eq_false (fun h => h1 h.2)
      have d0 : decide ((0 : Int) ≤ n) = true := decide_eq_true h0
      have d1 : decide (n ≤ 255) = false := decide_eq_false h1
      rw [e]
      clear e h0 h1
      go_enter Try.func19, Try.ntmps19
      go_wp2_with fail
      go_ret
      exact ⟨by simp, rfl⟩
  · have e : decide (0 ≤ n ∧ n ≤ 255) = false := decide_eq_false (fun h => h0 h.1)
    have d0 : decide ((0 : Int) ≤ n) = false := decide_eq_false h0
    rw [e]
    clear e h0
    go_enter Try.func19, Try.ntmps19
    go_wp2_with fail
    go_ret
    exact ⟨by simp, rfl⟩
theorem all_take {α : Type} {p : α → Prop} {l : List α} {j : Nat} (hj : j < l.length) (h : ∀ z ∈ l.take j, p z) (hp : p l[j]) : ∀ z ∈ l.take (j + 1), p z := by
  intro z hz
  rw [List.take_add_one, List.getElem?_eq_getElem hj] at hz
  simp only [Option.toList_some, List.mem_append, List.mem_singleton] at hz
  rcases hz with hz | rfl
  · exact h z hz
  · exact hp
set_option maxHeartbeats 4000000 in
set_option maxRecDepth 100000 in
theorem fine_calls (n : Nat) (a : Option Addr) (N c : Nat) (zs : List Int) (ta : Option Addr) (M tc : Nat) (ts : List ByteArray) (k x b : Int) (s : ByteArray) (la : Option Addr) (lm lc : Nat) (t : Tv) (w : World) (hN : zs.length = N) (hM : ts.length = M) (hN9 : N ≤ 9) (hM9 : M ≤ 9) (hz : NumsAt w a zs) (ht : TxtsAt w ta ts) (hI : Is w n (.agg #[.int .i64 k, .int .i64 x, .int .u64 b, .string s, .slice la lm lc]) t) :
    Calls Try.prog 20 #[.slice a N c, .slice ta M tc, .agg #[.int .i64 k, .int .i64 x, .int .u64 b, .string s, .slice la lm lc]] w (SmP w ((∀ z ∈ zs, 0 ≤ z ∧ z ≤ 4611686018427387904) ∧ (∀ s ∈ ts, s.size ≤ 200) ∧ May n t)) := by
  obtain ⟨W0, hW0⟩ : ∃ W0, W0 = w.alloc (.cells #[.int .i64 k, .int .i64 x, .int .u64 b, .string s, .slice la lm lc] 25) := ⟨_, rfl⟩
  have HW0 : Hid (W0 = _) := hW0
  have b0 : Below w.heap.size w W0 := by rw [hW0]; exact bel1 _ _
  have B0 : Hid (Below w.heap.size w W0) := b0
  have RW : Hid (W0.heap[w.heap.size]? = some (.cells #[.int .i64 k, .int .i64 x, .int .u64 b, .string s, .slice la lm lc] 25 (0, 0))) := by rw [hW0]; exact heap_alloc_new w _
  have HZ : Hid (NumsAt W0 a zs) := hz.below b0
  have HT : Hid (TxtsAt W0 ta ts) := ht.below b0
  have HC : Hid (Calls Try.prog 49 #[.agg #[.int .i64 k, .int .i64 x, .int .u64 b, .string s, .slice la lm lc]] W0 (VkP W0 (May n t))) := rcheck_calls n _ t W0 (hI.below b0)
  have HN : Hid (zs.length = N ∧ N ≤ 9) := ⟨hN, hN9⟩
  have HM : Hid (ts.length = M ∧ M ≤ 9) := ⟨hM, hM9⟩
  clear hW0 b0 hz ht hI hN hM hN9 hM9
  go_enter Try.func20, Try.ntmps20
  go_upto_region 1 with fail
  rw [← HW0.out]
  go_wp2_with fail
  go_loopw [7] (fun i wr => ∃ j : Nat, j ≤ N ∧ i = .int .i64 (j : Int) ∧ Hid (W0 = wr) ∧ Hid (∀ z ∈ zs.take j, 0 ≤ z ∧ z ≤ 4611686018427387904)) (fun i _ => N - (intOf i).toNat)
  case atStart => exact ⟨0, Nat.zero_le _, rfl, rfl, by show ∀ z ∈ _, _; simp⟩
  case round =>
    obtain ⟨j, hj, rfl, HE0, HA⟩ := hrel
    have hE0 := HE0.out
    subst hE0
    by_cases hlt : j < N
    · have hjz : j < zs.length := by rw [HN.out.1]; exact hlt
      obtain ⟨z, hzz⟩ : ∃ z, z = zs[j] := ⟨_, rfl⟩
      obtain ⟨B, o, rfl, x0⟩ := HZ.out j _ (List.getElem?_eq_getElem hjz)
      rw [← hzz] at x0
      have HJ : Hid (∃ h : j < zs.length, z = zs[j]) := ⟨hjz, hzz⟩
      have hjl : (j : Int) < (N : Int) := by omega
      have HW1 : Hid (wrap64 ((j : Int) + 1) = ((j + 1 : Nat) : Int)) := wr1 hlt (by have := HN.out.2; omega)
      clear hzz hjz
      by_cases h0 : 0 ≤ z
      · have d0 : decide (z < 0) = false := decide_eq_false (by omega)
        by_cases h1 : z ≤ 4611686018427387904
        · have d1 : decide ((4611686018427387904 : Int) < z) = false := decide_eq_false (by omega)
          have HP : Hid (0 ≤ z ∧ z ≤ 4611686018427387904) := ⟨h0, h1⟩
          clear h0 h1
          go_wp2_with fail
          refine ⟨⟨j + 1, hlt, by rw [HW1.out], (by first | exact rfl | exact trivial), ?_⟩, meas hlt HW1.out⟩
          obtain ⟨h, rfl⟩ := HJ.out
          exact all_take (p := fun z => 0 ≤ z ∧ z ≤ 4611686018427387904) h HA.out HP.out
        · have d1 : decide ((4611686018427387904 : Int) < z) = true := decide_eq_true (by omega)
          have HP : Hid (¬ (0 ≤ z ∧ z ≤ 4611686018427387904)) := fun h => h1 h.2
          clear h0 h1
          go_wp2_with fail
          go_ret
          refine ⟨⟨false, rfl, ⟨fun h => (by cases h), fun h => ?_⟩⟩, B0.out⟩
          obtain ⟨hh, rfl⟩ := HJ.out
          exact (HP.out (h.1 _ (List.getElem_mem hh))).elim
      · have d0 : decide (z < 0) = true := decide_eq_true (by omega)
        have HP : Hid (¬ (0 ≤ z ∧ z ≤ 4611686018427387904)) := fun h => h0 h.1
        clear h0
        go_wp2_with fail
        go_ret
        refine ⟨⟨false, rfl, ⟨fun h => (by cases h), fun h => ?_⟩⟩, B0.out⟩
        obtain ⟨hh, rfl⟩ := HJ.out
        exact (HP.out (h.1 _ (List.getElem_mem hh))).elim
    · obtain rfl : j = N := by omega
      have HA2 : Hid (∀ z ∈ zs, 0 ≤ z ∧ z ≤ 4611686018427387904) := by have := HA.out; rwa [← HN.out.1, List.take_length] at this
      go_wp2_with fail
      go_loopw [8] (fun i wr => ∃ j : Nat, j ≤ M ∧ i = .int .i64 (j : Int) ∧ Hid (W0 = wr) ∧ Hid (∀ s ∈ ts.take j, s.size ≤ 200)) (fun i _ => M - (intOf i).toNat)
      case atStart => exact ⟨0, Nat.zero_le _, rfl, rfl, by show ∀ z ∈ _, _; simp⟩
      case round =>
        obtain ⟨i, hi, rfl, HE1, HT2⟩ := hrel
        have hE1 := HE1.out
        subst hE1
        by_cases hlt : i < M
        · have hjz : i < ts.length := by rw [HM.out.1]; exact hlt
          obtain ⟨u, huu⟩ : ∃ u, u = ts[i] := ⟨_, rfl⟩
          obtain ⟨B, o, rfl, x0⟩ := HT.out i _ (List.getElem?_eq_getElem hjz)
          rw [← huu] at x0
          have HJ : Hid (∃ h : i < ts.length, u = ts[i]) := ⟨hjz, huu⟩
          have hjl : (i : Int) < (M : Int) := by omega
          have HW1 : Hid (wrap64 ((i : Int) + 1) = ((i + 1 : Nat) : Int)) := wr1 hlt (by have := HM.out.2; omega)
          clear huu hjz
          by_cases h0 : u.size ≤ 200
          · have d0 : decide ((200 : Int) < (u.size : Int)) = false := decide_eq_false (by omega)
            have d1 : decide (200 < u.size) = false := decide_eq_false (by omega)
            have HP : Hid (u.size ≤ 200) := h0
            clear h0
            go_wp2_with fail
            refine ⟨⟨i + 1, hlt, by rw [HW1.out], (by first | exact rfl | exact trivial), ?_⟩, meas hlt HW1.out⟩
            obtain ⟨h, rfl⟩ := HJ.out
            exact all_take (p := fun s : ByteArray => s.size ≤ 200) h HT2.out HP.out
          · have d0 : decide ((200 : Int) < (u.size : Int)) = true := decide_eq_true (by omega)
            have d1 : decide (200 < u.size) = true := decide_eq_true (by omega)
            have HP : Hid (¬ u.size ≤ 200) := h0
            clear h0
            go_wp2_with fail
            go_ret
            refine ⟨⟨false, rfl, ⟨fun h => (by cases h), fun h => ?_⟩⟩, B0.out⟩
            obtain ⟨hh, rfl⟩ := HJ.out
            exact (HP.out (h.2.1 _ (List.getElem_mem hh))).elim
        · obtain rfl : i = M := by omega
          have HT3 : Hid (∀ s ∈ ts, s.size ≤ 200) := by have := HT2.out; rwa [← HM.out.1, List.take_length] at this
          have y0 := row_cell (j := 0) RW.out (v := .int .i64 k) rfl
          have y1 := row_cell (j := 1) RW.out (v := .int .i64 x) rfl
          have y2 := row_cell (j := 2) RW.out (v := .int .u64 b) rfl
          have y3 := row_cell (j := 3) RW.out (v := .string s) rfl
          have y4 := row_cell (j := 4) RW.out (v := .slice la lm lc) rfl
          go_wp2_with fail
          refine HC.out.mono ?_
          rintro e w5 ⟨⟨r, rfl, hr1, hr0⟩, hb5⟩
          have B5 : Hid (Below w.heap.size w w5) := bel2 B0.out hb5
          by_cases hm : May n t
          · have HM5 : Hid (May n t) := hm
            have hr := hr1 hm
            subst hr
            clear hr1 hr0 hb5 hm
            go_wp2_with fail
            go_ret
            exact ⟨⟨true, rfl, ⟨fun _ => ⟨HA2.out, HT3.out, HM5.out⟩, fun _ => rfl⟩⟩, B5.out⟩
          · have HM5 : Hid (¬ May n t) := hm
            have hr := hr0 hm
            subst hr
            clear hr1 hr0 hb5 hm
            go_wp2_with fail
            go_ret
            exact ⟨⟨false, rfl, ⟨fun h => (by cases h), fun h => (HM5.out h.2.2).elim⟩⟩, B5.out⟩
end Go.Proofs.Ytjmonkhkcmcfiaa
namespace Go.Proofs.Ytjmonkhkcmcfiaa
open Go.ChangeShapes Go.WideShapes Go.ChangeAt Go.RowKit
/-- What the reference's Request leaves: the bytes, or why there are none. -/
def CyP (w : World) (r : Except Int (List UInt8)) (e : Ending) (w' : World) : Prop :=
  Below w.heap.size w w' ∧
  match r with
  | .ok m => ∃ v, e = .returned (.tuple #[v, .int .i64 0]) ∧ Lib.HoldsBytes w' v m
  | .error c => e = .returned (.tuple #[.slice none 0 0, .int .i64 c])
theorem cy_error {w w' : World} (hb : Below w.heap.size w w') (c : Int) : CyP w (.error c) (.returned (.tuple #[.slice none 0 0, .int .i64 c])) w' := ⟨hb, rfl⟩
theorem cy_ok {w w' : World} (hb : Below w.heap.size w w') {v : Value} {m : List UInt8} (h : Lib.HoldsBytes w' v m) : CyP w (.ok m) (.returned (.tuple #[v, .int .i64 0])) w' := ⟨hb, v, rfl, h⟩
noncomputable def fC (n : Nat) (d : Int × ByteArray × Tv × Int) : Option (List UInt8) := cB n d.1 d.2.1 d.2.2.1 d.2.2.2
noncomputable def fA (n : Nat) (d : Int × Tv) : Option (List UInt8) := aB n d.1 d.2
def hd5 (rk : Int) (tf tq tn : ByteArray) : List UInt8 := ((([] ++ enc rk.toNat) ++ enc tf.size ++ tf.data.toList) ++ enc tq.size ++ tq.data.toList) ++ enc tn.size ++ tn.data.toList
/-- All but the lists. -/
def hd (n : Nat) (rk : Int) (tf tq tn : ByteArray) (tv : Tv) (ru nu wa pf : Int) (pc : Nat) (pm : Int) : List UInt8 := (((((((hd5 rk tf tq tn ++ bytesT n tv) ++ enc ru.toNat) ++ enc nu.toNat) ++ enc wa.toNat) ++ enc pf.toNat) ++ be pc 8) ++ enc pm.toNat)
/-- What may be asked of all but the lists' elements. -/
def hdOk (n : Nat) (rk : Int) (tf tq tn : ByteArray) (tv : Tv) (ru nu wa pf : Int) (_pc : Nat) (pm : Int) (cds : List (Int × ByteArray × Tv × Int)) (ads : List (Int × Tv)) : Prop := (0 ≤ rk ∧ rk ≤ 255) ∧ ((∀ z ∈ [ru, nu, wa, pf, pm], 0 ≤ z ∧ z ≤ 4611686018427387904) ∧ (∀ s ∈ [tf, tq, tn], s.size ≤ 200) ∧ May n tv) ∧ cds.length ≤ 12 ∧ ads.length ≤ 8
theorem nB_some {x most : Int} (h : 0 ≤ x ∧ x ≤ most) : nB x most = some (enc x.toNat) := by unfold nB; rw [if_pos h]
theorem nB_none {x most : Int} (h : ¬ (0 ≤ x ∧ x ≤ most)) : nB x most = none := by unfold nB; rw [if_neg h]
theorem tB_some {s : ByteArray} (h : s.size ≤ 200) : tB s = some (enc s.size ++ s.data.toList) := by unfold tB; rw [if_pos h]
theorem tB_none {s : ByteArray} (h : ¬ s.size ≤ 200) : tB s = none := by unfold tB; rw [if_neg h]
theorem vB_some {n : Nat} {t : Tv} (h : May n t) : vB n t = some (bytesT n t) := by unfold vB; exact if_pos h
theorem vB_none {n : Nat} {t : Tv} (h : ¬ May n t) : vB n t = none := by unfold vB; exact if_neg h
theorem sq_mk {a b : List UInt8} : sq (some a) (some b) = some (a ++ b) := rfl
theorem sq_none1 {b : Option (List UInt8)} : sq none b = none := by cases b <;> rfl
theorem sq_none2 {a : Option (List UInt8)} : sq a none = none := by cases a <;> rfl
theorem rB_yes {n : Nat} (rk : Int) (tf tq tn : ByteArray) (tv : Tv) (ru nu wa pf : Int) (pc : Nat) (pm : Int) (cds : List (Int × ByteArray × Tv × Int)) (ads : List (Int × Tv)) (h : hdOk n rk tf tq tn tv ru nu wa pf pc pm cds ads) {C A : List UInt8} (hC : allB (fC n) cds = some C) (hA : allB (fA n) ads = some A) :
    rB n rk tf tq tn tv ru nu wa pf pc pm cds ads = some ((hd n rk tf tq tn tv ru nu wa pf pc pm ++ enc cds.length ++ C) ++ enc ads.length ++ A) := by
  obtain ⟨h1, ⟨h2, h3, h4⟩, h5, h6⟩ := h
  have z1 := h2 ru (by simp)
  have z2 := h2 nu (by simp)
  have z3 := h2 wa (by simp)
  have z4 := h2 pf (by simp)
  have z5 := h2 pm (by simp)
  have s1 := h3 tf (by simp)
  have s2 := h3 tq (by simp)
  have s3 := h3 tn (by simp)
  have lc : lB (fC n) 12 cds = some (enc cds.length ++ C) := by unfold lB; rw [nB_some (by omega), hC, Int.toNat_natCast, sq_mk]
  have la : lB (fA n) 8 ads = some (enc ads.length ++ A) := by unfold lB; rw [nB_some (by omega), hA, Int.toNat_natCast, sq_mk]
  unfold rB pB
  rw [nB_some h1, tB_some s1, tB_some s2, tB_some s3, vB_some h4, nB_some z1, nB_some z2, nB_some z3, nB_some z4, nB_some z5]
  have lc2 : lB (fun d : Int × ByteArray × Tv × Int => cB n d.1 d.2.1 d.2.2.1 d.2.2.2) 12 cds = some (enc cds.length ++ C) := lc
  have la2 : lB (fun d : Int × Tv => aB n d.1 d.2) 8 ads = some (enc ads.length ++ A) := la
  rw [lc2, la2]
  simp only [sq_mk]
  unfold hd hd5
  simp only [List.append_assoc, List.nil_append]
theorem rB_no {n : Nat} (rk : Int) (tf tq tn : ByteArray) (tv : Tv) (ru nu wa pf : Int) (pc : Nat) (pm : Int) (cds : List (Int × ByteArray × Tv × Int)) (ads : List (Int × Tv)) (h : ¬ hdOk n rk tf tq tn tv ru nu wa pf pc pm cds ads) : rB n rk tf tq tn tv ru nu wa pf pc pm cds ads = none := by
  by_cases h1 : 0 ≤ rk ∧ rk ≤ 255
  · by_cases s1 : tf.size ≤ 200
    · by_cases s2 : tq.size ≤ 200
      · by_cases s3 : tn.size ≤ 200
        · by_cases h4 : May n tv
          · by_cases z1 : 0 ≤ ru ∧ ru ≤ 4611686018427387904
            · by_cases z2 : 0 ≤ nu ∧ nu ≤ 4611686018427387904
              · by_cases z3 : 0 ≤ wa ∧ wa ≤ 4611686018427387904
                · by_cases z4 : 0 ≤ pf ∧ pf ≤ 4611686018427387904
                  · by_cases z5 : 0 ≤ pm ∧ pm ≤ 4611686018427387904
                    · by_cases h5 : cds.length ≤ 12
                      · by_cases h6 : ads.length ≤ 8
                        · refine absurd ⟨h1, ⟨?_, ?_, h4⟩, h5, h6⟩ h
                          · intro z hz
                            simp only [List.mem_cons, List.not_mem_nil, or_false] at hz
                            rcases hz with rfl | rfl | rfl | rfl | rfl <;> assumption
                          · intro z hz
                            simp only [List.mem_cons, List.not_mem_nil, or_false] at hz
                            rcases hz with rfl | rfl | rfl <;> assumption
                        · have e : lB (fun d : Int × Tv => aB n d.1 d.2) 8 ads = none := by unfold lB; rw [nB_none (by omega)]; exact sq_none1
                          unfold rB; rw [e]; simp only [sq_none2]
                      · have e : lB (fun d : Int × ByteArray × Tv × Int => cB n d.1 d.2.1 d.2.2.1 d.2.2.2) 12 cds = none := by unfold lB; rw [nB_none (by omega)]; exact sq_none1
                        unfold rB; rw [e]; simp only [sq_none2, sq_none1]
                    · unfold rB pB; rw [nB_none z5]; simp only [sq_none2, sq_none1]
                  · unfold rB pB; rw [nB_none z4]; simp only [sq_none2, sq_none1]
                · unfold rB; rw [nB_none z3]; simp only [sq_none2, sq_none1]
              · unfold rB; rw [nB_none z2]; simp only [sq_none2, sq_none1]
            · unfold rB; rw [nB_none z1]; simp only [sq_none2, sq_none1]
          · unfold rB; rw [vB_none h4]; simp only [sq_none2, sq_none1]
        · unfold rB; rw [tB_none s3]; simp only [sq_none2, sq_none1]
      · unfold rB; rw [tB_none s2]; simp only [sq_none2, sq_none1]
    · unfold rB; rw [tB_none s1]; simp only [sq_none2, sq_none1]
  · unfold rB; rw [nB_none h1]; simp only [sq_none1]
theorem rB_noC {n : Nat} (rk : Int) (tf tq tn : ByteArray) (tv : Tv) (ru nu wa pf : Int) (pc : Nat) (pm : Int) (cds : List (Int × ByteArray × Tv × Int)) (ads : List (Int × Tv)) {d : Int × ByteArray × Tv × Int} (hd : d ∈ cds) (h : fC n d = none) : rB n rk tf tq tn tv ru nu wa pf pc pm cds ads = none := by
  have e : lB (fun d : Int × ByteArray × Tv × Int => cB n d.1 d.2.1 d.2.2.1 d.2.2.2) 12 cds = none := by
    unfold lB
    rw [allB_none (f := fun d : Int × ByteArray × Tv × Int => cB n d.1 d.2.1 d.2.2.1 d.2.2.2) h hd]
    exact sq_none2
  unfold rB; rw [e]; simp only [sq_none2, sq_none1]
theorem rB_noA {n : Nat} (rk : Int) (tf tq tn : ByteArray) (tv : Tv) (ru nu wa pf : Int) (pc : Nat) (pm : Int) (cds : List (Int × ByteArray × Tv × Int)) (ads : List (Int × Tv)) {d : Int × Tv} (hd : d ∈ ads) (h : fA n d = none) : rB n rk tf tq tn tv ru nu wa pf pc pm cds ads = none := by
  have e : lB (fun d : Int × Tv => aB n d.1 d.2) 8 ads = none := by
    unfold lB
    rw [allB_none (f := fun d : Int × Tv => aB n d.1 d.2) h hd]
    exact sq_none2
  unfold rB; rw [e]; simp only [sq_none2]
theorem fC_some {n : Nat} {k : Int} {s : ByteArray} {t : Tv} {dl : Int} (h1 : 0 ≤ k ∧ k ≤ 255) (h2 : (∀ z ∈ [dl], 0 ≤ z ∧ z ≤ 4611686018427387904) ∧ (∀ u ∈ [s], u.size ≤ 200) ∧ May n t) : fC n (k, s, t, dl) = some (enc k.toNat ++ (enc s.size ++ s.data.toList ++ (bytesT n t ++ enc dl.toNat))) := by
  unfold fC cB
  rw [nB_some h1, tB_some (h2.2.1 s (by simp)), vB_some h2.2.2, nB_some (h2.1 dl (by simp))]
  simp only [sq_mk]
theorem fC_none1 {n : Nat} {k : Int} {s : ByteArray} {t : Tv} {dl : Int} (h1 : ¬ (0 ≤ k ∧ k ≤ 255)) : fC n (k, s, t, dl) = none := by
  unfold fC cB
  rw [nB_none h1]
  exact sq_none1
theorem fC_none2 {n : Nat} {k : Int} {s : ByteArray} {t : Tv} {dl : Int} (h2 : ¬ ((∀ z ∈ [dl], 0 ≤ z ∧ z ≤ 4611686018427387904) ∧ (∀ u ∈ [s], u.size ≤ 200) ∧ May n t)) : fC n (k, s, t, dl) = none := by
  unfold fC cB
  by_cases a : 0 ≤ dl ∧ dl ≤ 4611686018427387904
  · by_cases b : s.size ≤ 200
    · by_cases c : May n t
      · exact absurd ⟨by simpa using a, by simpa using b, c⟩ h2
      · rw [vB_none c]; simp only [sq_none2, sq_none1]
    · rw [tB_none b]; simp only [sq_none2, sq_none1]
  · rw [nB_none a]; simp only [sq_none2]
theorem fA_some {n : Nat} {k : Int} {t : Tv} (h2 : (∀ z ∈ [k], 0 ≤ z ∧ z ≤ 4611686018427387904) ∧ (∀ u ∈ ([] : List ByteArray), u.size ≤ 200) ∧ May n t) : fA n (k, t) = some (enc k.toNat ++ bytesT n t) := by
  unfold fA aB
  rw [nB_some (h2.1 k (by simp)), vB_some h2.2.2]
  exact sq_mk
theorem fA_none {n : Nat} {k : Int} {t : Tv} (h2 : ¬ ((∀ z ∈ [k], 0 ≤ z ∧ z ≤ 4611686018427387904) ∧ (∀ u ∈ ([] : List ByteArray), u.size ≤ 200) ∧ May n t)) : fA n (k, t) = none := by
  unfold fA aB
  by_cases a : 0 ≤ k ∧ k ≤ 4611686018427387904
  · by_cases c : May n t
    · exact absurd ⟨by simpa using a, by simp, c⟩ h2
    · rw [vB_none c]; exact sq_none2
  · rw [nB_none a]; exact sq_none1
theorem fC_len {n : Nat} (d : Int × ByteArray × Tv × Int) (m : List UInt8) (h : fC n d = some m) : m.length ≤ 1227 := cB_len h
theorem fA_len {n : Nat} (d : Int × Tv) (m : List UInt8) (h : fA n d = some m) : m.length ≤ 1009 := aB_len h
theorem hd_len {n : Nat} (rk : Int) (tf tq tn : ByteArray) (tv : Tv) (ru nu wa pf : Int) (pc : Nat) (pm : Int) (cds : List (Int × ByteArray × Tv × Int)) (ads : List (Int × Tv)) (h : hdOk n rk tf tq tn tv ru nu wa pf pc pm cds ads) : (hd n rk tf tq tn tv ru nu wa pf pc pm).length ≤ 3000 := by
  obtain ⟨h1, ⟨h2, h3, h4⟩, h5, h6⟩ := h
  have z1 := h2 ru (by simp)
  have z2 := h2 nu (by simp)
  have z3 := h2 wa (by simp)
  have z4 := h2 pf (by simp)
  have z5 := h2 pm (by simp)
  have s1 := h3 tf (by simp)
  have s2 := h3 tq (by simp)
  have s3 := h3 tn (by simp)
  have e0 := enc_length rk.toNat (by omega)
  have e1 := enc_length ru.toNat (by omega)
  have e2 := enc_length nu.toNat (by omega)
  have e3 := enc_length wa.toNat (by omega)
  have e4 := enc_length pf.toNat (by omega)
  have e5 := enc_length pm.toNat (by omega)
  have e6 := enc_length tf.size (by omega)
  have e7 := enc_length tq.size (by omega)
  have e8 := enc_length tn.size (by omega)
  have d1 := str_len tf
  have d2 := str_len tq
  have d3 := str_len tn
  have b1 := be_length pc 8
  have v1 := h4.2
  unfold hd hd5
  simp only [List.length_append, List.length_nil]
  omega
end Go.Proofs.Ytjmonkhkcmcfiaa
namespace Go.Proofs.Ytjmonkhkcmcfiaa
open Go.ChangeShapes Go.WideShapes Go.ChangeAt Go.RowKit
set_option maxHeartbeats 8000000 in
set_option maxRecDepth 100000 in
theorem rreq_calls (n : Nat) (rk : Int) (tf tq tn : ByteArray) (vk vx vb : Int) (vs : ByteArray) (va : Option Addr) (vm vc : Nat) (tv : Tv) (ru nu wa pf : Int) (pc : Nat) (pm : Int) (ca : Option Addr) (cc : Nat) (aa : Option Addr) (ac : Nat) (cds : List (Int × ByteArray × Tv × Int)) (ads : List (Int × Tv)) (w : World) (hv : Is w n (.agg #[.int .i64 vk, .int .i64 vx, .int .u64 vb, .string vs, .slice va vm vc]) tv) (hc : LsG 8 ElC w n ca cds) (ha : LsG 6 ElA w n aa ads) (hpc : pc < 18446744073709551616) :
    Calls Try.prog 8 #[.agg #[.int .i64 rk, .string tf, .string tq, .string tn, .int .i64 vk, .int .i64 vx, .int .u64 vb, .string vs, .slice va vm vc, .int .i64 ru, .int .i64 nu, .int .i64 wa, .int .i64 pf, .int .u64 (pc : Int), .int .i64 pm, .slice ca cds.length cc, .slice aa ads.length ac]] w (CyP w (qR (rB n rk tf tq tn tv ru nu wa pf pc pm cds ads))) := by
  obtain ⟨W0, hW0⟩ : ∃ W0, W0 = w.alloc (.cells #[.int .i64 rk, .string tf, .string tq, .string tn, .int .i64 vk, .int .i64 vx, .int .u64 vb, .string vs, .slice va vm vc, .int .i64 ru, .int .i64 nu, .int .i64 wa, .int .i64 pf, .int .u64 (pc : Int), .int .i64 pm, .slice ca cds.length cc, .slice aa ads.length ac] 31) := ⟨_, rfl⟩
  have HW0 : Hid (W0 = _) := hW0
  have b0 : Below w.heap.size w W0 := by rw [hW0]; exact bel1 _ _
  have B0 : Hid (Below w.heap.size w W0) := b0
  have RW : Hid (W0.heap[w.heap.size]? = some (.cells #[.int .i64 rk, .string tf, .string tq, .string tn, .int .i64 vk, .int .i64 vx, .int .u64 vb, .string vs, .slice va vm vc, .int .i64 ru, .int .i64 nu, .int .i64 wa, .int .i64 pf, .int .u64 (pc : Int), .int .i64 pm, .slice ca cds.length cc, .slice aa ads.length ac] 31 (0, 0))) := by rw [hW0]; exact heap_alloc_new w _
  have Z0 : Hid (w.heap.size < W0.heap.size) := (Array.getElem?_eq_some_iff.1 RW.out).1
  have HV : Hid (Is W0 n (.agg #[.int .i64 vk, .int .i64 vx, .int .u64 vb, .string vs, .slice va vm vc]) tv) := hv.below b0
  have HC : Hid (LsG 8 ElC W0 n ca cds) := hc.below elC b0
  have HA : Hid (LsG 6 ElA W0 n aa ads) := ha.below elA b0
  obtain ⟨QR, hQR⟩ : ∃ QR, QR = qR (rB n rk tf tq tn tv ru nu wa pf pc pm cds ads) := ⟨_, rfl⟩
  rw [← hQR]
  have NO : Hid (¬ hdOk n rk tf tq tn tv ru nu wa pf pc pm cds ads → QR = .error 1) := fun h => by rw [hQR, rB_no _ _ _ _ _ _ _ _ _ _ _ _ _ h]; rfl
  have NOC : Hid (∀ d ∈ cds, fC n d = none → QR = .error 1) := fun d hd h => by rw [hQR, rB_noC _ _ _ _ _ _ _ _ _ _ _ _ _ hd h]; rfl
  have NOA : Hid (∀ d ∈ ads, fA n d = none → QR = .error 1) := fun d hd h => by rw [hQR, rB_noA _ _ _ _ _ _ _ _ _ _ _ _ _ hd h]; rfl
  have YES : Hid (hdOk n rk tf tq tn tv ru nu wa pf pc pm cds ads → ∀ C A, allB (fC n) cds = some C → allB (fA n) ads = some A → QR = qR (some ((hd n rk tf tq tn tv ru nu wa pf pc pm ++ enc cds.length ++ C) ++ enc ads.length ++ A))) := fun h C A hC hA => by rw [hQR, rB_yes _ _ _ _ _ _ _ _ _ _ _ _ _ h hC hA]
  have HPC : Hid (pc < 18446744073709551616) := hpc
  have HOK : Hid (hdOk n rk tf tq tn tv ru nu wa pf pc pm cds ads ↔ _) := Iff.rfl
  unfold hdOk at HOK
  clear hW0 hv hc ha hpc b0 hQR
  go_enter Try.func8, Try.ntmps8
  go_upto_region 1 with fail
  rw [← HW0.out]
  have x0 := row_cell (j := 0) RW.out (v := .int .i64 rk) rfl
  have x9 := row_cell (j := 9) RW.out (v := .int .i64 ru) rfl
  have x10 := row_cell (j := 10) RW.out (v := .int .i64 nu) rfl
  have x11 := row_cell (j := 11) RW.out (v := .int .i64 wa) rfl
  have x12 := row_cell (j := 12) RW.out (v := .int .i64 pf) rfl
  have x14 := row_cell (j := 14) RW.out (v := .int .i64 pm) rfl
  have x1 := row_cell (j := 1) RW.out (v := .string tf) rfl
  have x2 := row_cell (j := 2) RW.out (v := .string tq) rfl
  have x3 := row_cell (j := 3) RW.out (v := .string tn) rfl
  have x4 := row_cell (j := 4) RW.out (v := .int .i64 vk) rfl
  have x5 := row_cell (j := 5) RW.out (v := .int .i64 vx) rfl
  have x6 := row_cell (j := 6) RW.out (v := .int .u64 vb) rfl
  have x7 := row_cell (j := 7) RW.out (v := .string vs) rfl
  have x8 := row_cell (j := 8) RW.out (v := .slice va vm vc) rfl
  have x15 := row_cell (j := 15) RW.out (v := .slice ca cds.length cc) rfl
  have x16 := row_cell (j := 16) RW.out (v := .slice aa ads.length ac) rfl
  go_wp2_with fail
  refine (kind_calls _ _).mono ?_
  rintro e w1 ⟨rfl, hw⟩
  have hw' := hw.symm
  subst hw'
  clear hw
  by_cases hk : 0 ≤ rk ∧ rk ≤ 255
  rotate_left
  · have HX : Hid (QR = .error 1) := NO.out (fun h => hk h.1)
    rw [decide_eq_false hk]
    clear hk
    go_wp2_with fail
    go_ret2
    rw [HX.out]
    exact cy_error B0.out 1
  rw [decide_eq_true hk]
  have HK : Hid (0 ≤ rk ∧ rk ≤ 255) := hk
  clear hk
  have y1 := cellG x1 (bel1 W0 (.cells #[.int .i64 ru, .int .i64 nu, .int .i64 wa, .int .i64 pf, .int .i64 pm] 3))
  have y2 := cellG x2 (bel1 W0 (.cells #[.int .i64 ru, .int .i64 nu, .int .i64 wa, .int .i64 pf, .int .i64 pm] 3))
  have y3 := cellG x3 (bel1 W0 (.cells #[.int .i64 ru, .int .i64 nu, .int .i64 wa, .int .i64 pf, .int .i64 pm] 3))
  have y4 := cellG x4 (bel2 (bel1 W0 (.cells #[.int .i64 ru, .int .i64 nu, .int .i64 wa, .int .i64 pf, .int .i64 pm] 3)) (bel1 (W0.alloc (.cells #[.int .i64 ru, .int .i64 nu, .int .i64 wa, .int .i64 pf, .int .i64 pm] 3)) (.cells #[.string tf, .string tq, .string tn] 9)))
  have y5 := cellG x5 (bel2 (bel1 W0 (.cells #[.int .i64 ru, .int .i64 nu, .int .i64 wa, .int .i64 pf, .int .i64 pm] 3)) (bel1 (W0.alloc (.cells #[.int .i64 ru, .int .i64 nu, .int .i64 wa, .int .i64 pf, .int .i64 pm] 3)) (.cells #[.string tf, .string tq, .string tn] 9)))
  have y6 := cellG x6 (bel2 (bel1 W0 (.cells #[.int .i64 ru, .int .i64 nu, .int .i64 wa, .int .i64 pf, .int .i64 pm] 3)) (bel1 (W0.alloc (.cells #[.int .i64 ru, .int .i64 nu, .int .i64 wa, .int .i64 pf, .int .i64 pm] 3)) (.cells #[.string tf, .string tq, .string tn] 9)))
  have y7 := cellG x7 (bel2 (bel1 W0 (.cells #[.int .i64 ru, .int .i64 nu, .int .i64 wa, .int .i64 pf, .int .i64 pm] 3)) (bel1 (W0.alloc (.cells #[.int .i64 ru, .int .i64 nu, .int .i64 wa, .int .i64 pf, .int .i64 pm] 3)) (.cells #[.string tf, .string tq, .string tn] 9)))
  have y8 := cellG x8 (bel2 (bel1 W0 (.cells #[.int .i64 ru, .int .i64 nu, .int .i64 wa, .int .i64 pf, .int .i64 pm] 3)) (bel1 (W0.alloc (.cells #[.int .i64 ru, .int .i64 nu, .int .i64 wa, .int .i64 pf, .int .i64 pm] 3)) (.cells #[.string tf, .string tq, .string tn] 9)))
  clear x1 x2 x3 x4 x5 x6 x7 x8
  go_wp2_with fail
  refine Calls.mono (fine_calls n _ 5 _ [ru, nu, wa, pf, pm] _ 3 _ [tf, tq, tn] _ _ _ _ _ _ _ tv _ rfl rfl (by decide) (by decide) ?_ ?_ ?_) ?_
  · intro i z hi
    match i, hi with
    | 0, hi => cases hi; exact ⟨_, _, rfl, by simp⟩
    | 1, hi => cases hi; exact ⟨_, _, rfl, by simp⟩
    | 2, hi => cases hi; exact ⟨_, _, rfl, by simp⟩
    | 3, hi => cases hi; exact ⟨_, _, rfl, by simp⟩
    | 4, hi => cases hi; exact ⟨_, _, rfl, by simp⟩
    | i + 5, hi => simp at hi
  · intro i z hi
    match i, hi with
    | 0, hi => cases hi; exact ⟨_, _, rfl, by simp⟩
    | 1, hi => cases hi; exact ⟨_, _, rfl, by simp⟩
    | 2, hi => cases hi; exact ⟨_, _, rfl, by simp⟩
    | i + 3, hi => simp at hi
  · exact HV.out.below (bel2 (bel1 _ _) (bel1 _ _))
  rintro e w2 ⟨⟨r2, rfl, hr2⟩, hb2⟩
  have B2 : Hid (Below W0.heap.size W0 w2) := bel2 (bel2 (bel1 _ _) (bel1 _ _)) hb2
  have BB2 : Hid (Below w.heap.size w w2) := bel2 B0.out B2.out
  have HR2 : Hid (r2 = true ↔ _) := hr2
  clear hb2 hr2 x0 x9 x10 x11 x12 x14 x15 x16 y1 y2 y3 y4 y5 y6 y7 y8
  have RW2 : Hid (w2.heap[w.heap.size]? = some (.cells #[.int .i64 rk, .string tf, .string tq, .string tn, .int .i64 vk, .int .i64 vx, .int .u64 vb, .string vs, .slice va vm vc, .int .i64 ru, .int .i64 nu, .int .i64 wa, .int .i64 pf, .int .u64 (pc : Int), .int .i64 pm, .slice ca cds.length cc, .slice aa ads.length ac] 31 (0, 0))) := (B2.out.block _ Z0.out).trans RW.out
  cases r2 with
  | false =>
    have HX : Hid (QR = .error 1) := NO.out (fun h => by cases HR2.out.2 h.2.1)
    go_wp2_with fail
    go_ret2
    rw [HX.out]
    exact cy_error BB2.out 1
  | true =>
    have HF : Hid _ := HR2.out.1 rfl
    have x15 := row_cell (j := 15) RW2.out (v := .slice ca cds.length cc) rfl
    have x16 := row_cell (j := 16) RW2.out (v := .slice aa ads.length ac) rfl
    by_cases hc : cds.length ≤ 12
    rotate_left
    · have HX : Hid (QR = .error 1) := NO.out (fun h => hc h.2.2.1)
      have dc : decide ((12 : Int) < (cds.length : Int)) = true := decide_eq_true (by omega)
      have ec : decide (12 < cds.length) = true := decide_eq_true (by omega)
      go_wp2_with fail
      go_ret2
      rw [HX.out]
      exact cy_error BB2.out 1
    by_cases ha : ads.length ≤ 8
    rotate_left
    · have HX : Hid (QR = .error 1) := NO.out (fun h => ha h.2.2.2)
      have da : decide ((8 : Int) < (ads.length : Int)) = true := decide_eq_true (by omega)
      have ea : decide (8 < ads.length) = true := decide_eq_true (by omega)
      have dc : decide ((12 : Int) < (cds.length : Int)) = false := decide_eq_false (by omega)
      have ec : decide (12 < cds.length) = false := decide_eq_false (by omega)
      go_wp2_with fail
      go_ret2
      rw [HX.out]
      exact cy_error BB2.out 1
    have dc : decide ((12 : Int) < (cds.length : Int)) = false := decide_eq_false (by omega)
    have ec : decide (12 < cds.length) = false := decide_eq_false (by omega)
    have da : decide ((8 : Int) < (ads.length : Int)) = false := decide_eq_false (by omega)
    have ea : decide (8 < ads.length) = false := decide_eq_false (by omega)
    have OK : Hid (hdOk n rk tf tq tn tv ru nu wa pf pc pm cds ads) := ⟨HK.out, HF.out, hc, ha⟩
    have LN : Hid ((hd n rk tf tq tn tv ru nu wa pf pc pm).length ≤ 3000) := hd_len _ _ _ _ _ _ _ _ _ _ _ _ _ OK.out
    have HCA : Hid (cds.length ≤ 12 ∧ ads.length ≤ 8) := ⟨hc, ha⟩
    have HYE := YES.out OK.out
    have YE : Hid (∀ C A, allB (fC n) cds = some C → allB (fA n) ads = some A → QR = qR (some ((hd n rk tf tq tn tv ru nu wa pf pc pm ++ enc cds.length ++ C) ++ enc ads.length ++ A))) := HYE
    clear HYE NO YES hc ha
    have LNx := LN.out
    have YEx := YE.out
    obtain ⟨H0, hH0⟩ : ∃ H0, H0 = hd n rk tf tq tn tv ru nu wa pf pc pm := ⟨_, rfl⟩
    rw [← hH0] at LNx YEx
    unfold hd hd5 at hH0
    subst hH0
    have HF1 := HF.out
    have zr := HF1.1 ru (by simp)
    have zn := HF1.1 nu (by simp)
    have zw := HF1.1 wa (by simp)
    have zf := HF1.1 pf (by simp)
    have zm := HF1.1 pm (by simp)
    have sf := HF1.2.1 tf (by simp)
    have sq := HF1.2.1 tq (by simp)
    have sn := HF1.2.1 tn (by simp)
    have hk := HK.out
    have ln := LNx
    simp only [List.length_append] at ln
    have K1 : Hid (∀ W v, Lib.HoldsBytes W v ([] : List UInt8) → Calls Try.prog 22 #[v, .int .i64 rk] W (RB W (([] : List UInt8) ++ enc rk.toNat))) := fun W v hv => refNum_all v _ rk (by omega) W hv (by simp only [List.length_append, List.length_nil] at *; omega)
    have K2 : Hid (∀ W v, Lib.HoldsBytes W v (([] : List UInt8) ++ enc rk.toNat) → Calls Try.prog 21 #[v, .string tf] W (RB W ((([] : List UInt8) ++ enc rk.toNat) ++ enc tf.size ++ tf.data.toList))) := fun W v hv => refText_all v _ tf W hv (by simp only [List.length_append, List.length_nil] at *; omega) (by omega)
    have K3 : Hid (∀ W v, Lib.HoldsBytes W v ((([] : List UInt8) ++ enc rk.toNat) ++ enc tf.size ++ tf.data.toList) → Calls Try.prog 21 #[v, .string tq] W (RB W (((([] : List UInt8) ++ enc rk.toNat) ++ enc tf.size ++ tf.data.toList) ++ enc tq.size ++ tq.data.toList))) := fun W v hv => refText_all v _ tq W hv (by simp only [List.length_append, List.length_nil] at *; omega) (by omega)
    have K4 : Hid (∀ W v, Lib.HoldsBytes W v (((([] : List UInt8) ++ enc rk.toNat) ++ enc tf.size ++ tf.data.toList) ++ enc tq.size ++ tq.data.toList) → Calls Try.prog 21 #[v, .string tn] W (RB W ((((([] : List UInt8) ++ enc rk.toNat) ++ enc tf.size ++ tf.data.toList) ++ enc tq.size ++ tq.data.toList) ++ enc tn.size ++ tn.data.toList))) := fun W v hv => refText_all v _ tn W hv (by simp only [List.length_append, List.length_nil] at *; omega) (by omega)
    have K5 : Hid (∀ W v, Below W0.heap.size W0 W → Lib.HoldsBytes W v ((((([] : List UInt8) ++ enc rk.toNat) ++ enc tf.size ++ tf.data.toList) ++ enc tq.size ++ tq.data.toList) ++ enc tn.size ++ tn.data.toList) → Calls Try.prog 23 #[v, .agg #[.int .i64 vk, .int .i64 vx, .int .u64 vb, .string vs, .slice va vm vc]] W fun e w' => ∃ v', e = .returned v' ∧ Lib.HoldsBytes w' v' (((((([] : List UInt8) ++ enc rk.toNat) ++ enc tf.size ++ tf.data.toList) ++ enc tq.size ++ tq.data.toList) ++ enc tn.size ++ tn.data.toList) ++ bytesT n tv) ∧ Below W.heap.size W w') := fun W v hB hv => (rput_calls n _ tv v _ W (HV.out.below hB) hv (by simp only [List.length_append, List.length_nil] at *; omega)).mono fun e w' ⟨v', h1, h2, _, h4⟩ => ⟨v', h1, h2 HF1.2.2, h4⟩
    have K6 : Hid (∀ W v, Lib.HoldsBytes W v (((((([] : List UInt8) ++ enc rk.toNat) ++ enc tf.size ++ tf.data.toList) ++ enc tq.size ++ tq.data.toList) ++ enc tn.size ++ tn.data.toList) ++ bytesT n tv) → Calls Try.prog 22 #[v, .int .i64 ru] W (RB W ((((((([] : List UInt8) ++ enc rk.toNat) ++ enc tf.size ++ tf.data.toList) ++ enc tq.size ++ tq.data.toList) ++ enc tn.size ++ tn.data.toList) ++ bytesT n tv) ++ enc ru.toNat))) := fun W v hv => refNum_all v _ ru (by omega) W hv (by simp only [List.length_append, List.length_nil] at *; omega)
    have K7 : Hid (∀ W v, Lib.HoldsBytes W v ((((((([] : List UInt8) ++ enc rk.toNat) ++ enc tf.size ++ tf.data.toList) ++ enc tq.size ++ tq.data.toList) ++ enc tn.size ++ tn.data.toList) ++ bytesT n tv) ++ enc ru.toNat) → Calls Try.prog 22 #[v, .int .i64 nu] W (RB W (((((((([] : List UInt8) ++ enc rk.toNat) ++ enc tf.size ++ tf.data.toList) ++ enc tq.size ++ tq.data.toList) ++ enc tn.size ++ tn.data.toList) ++ bytesT n tv) ++ enc ru.toNat) ++ enc nu.toNat))) := fun W v hv => refNum_all v _ nu (by omega) W hv (by simp only [List.length_append, List.length_nil] at *; omega)
    have K8 : Hid (∀ W v, Lib.HoldsBytes W v (((((((([] : List UInt8) ++ enc rk.toNat) ++ enc tf.size ++ tf.data.toList) ++ enc tq.size ++ tq.data.toList) ++ enc tn.size ++ tn.data.toList) ++ bytesT n tv) ++ enc ru.toNat) ++ enc nu.toNat) → Calls Try.prog 22 #[v, .int .i64 wa] W (RB W ((((((((([] : List UInt8) ++ enc rk.toNat) ++ enc tf.size ++ tf.data.toList) ++ enc tq.size ++ tq.data.toList) ++ enc tn.size ++ tn.data.toList) ++ bytesT n tv) ++ enc ru.toNat) ++ enc nu.toNat) ++ enc wa.toNat))) := fun W v hv => refNum_all v _ wa (by omega) W hv (by simp only [List.length_append, List.length_nil] at *; omega)
    have K9 : Hid (∀ W v, Lib.HoldsBytes W v ((((((((([] : List UInt8) ++ enc rk.toNat) ++ enc tf.size ++ tf.data.toList) ++ enc tq.size ++ tq.data.toList) ++ enc tn.size ++ tn.data.toList) ++ bytesT n tv) ++ enc ru.toNat) ++ enc nu.toNat) ++ enc wa.toNat) → Calls Try.prog 22 #[v, .int .i64 pf] W (RB W (((((((((([] : List UInt8) ++ enc rk.toNat) ++ enc tf.size ++ tf.data.toList) ++ enc tq.size ++ tq.data.toList) ++ enc tn.size ++ tn.data.toList) ++ bytesT n tv) ++ enc ru.toNat) ++ enc nu.toNat) ++ enc wa.toNat) ++ enc pf.toNat))) := fun W v hv => refNum_all v _ pf (by omega) W hv (by simp only [List.length_append, List.length_nil] at *; omega)
    have K10 : Hid (∀ W v, Lib.HoldsBytes W v (((((((((([] : List UInt8) ++ enc rk.toNat) ++ enc tf.size ++ tf.data.toList) ++ enc tq.size ++ tq.data.toList) ++ enc tn.size ++ tn.data.toList) ++ bytesT n tv) ++ enc ru.toNat) ++ enc nu.toNat) ++ enc wa.toNat) ++ enc pf.toNat) → Calls Try.prog 24 #[v, .int .u64 (pc : Int)] W (RB W ((((((((((([] : List UInt8) ++ enc rk.toNat) ++ enc tf.size ++ tf.data.toList) ++ enc tq.size ++ tq.data.toList) ++ enc tn.size ++ tn.data.toList) ++ bytesT n tv) ++ enc ru.toNat) ++ enc nu.toNat) ++ enc wa.toNat) ++ enc pf.toNat) ++ be pc 8))) := fun W v hv => refBits_all v _ pc HPC.out W hv (by simp only [List.length_append, List.length_nil] at *; omega)
    have K11 : Hid (∀ W v, Lib.HoldsBytes W v ((((((((((([] : List UInt8) ++ enc rk.toNat) ++ enc tf.size ++ tf.data.toList) ++ enc tq.size ++ tq.data.toList) ++ enc tn.size ++ tn.data.toList) ++ bytesT n tv) ++ enc ru.toNat) ++ enc nu.toNat) ++ enc wa.toNat) ++ enc pf.toNat) ++ be pc 8) → Calls Try.prog 22 #[v, .int .i64 pm] W (RB W (((((((((((([] : List UInt8) ++ enc rk.toNat) ++ enc tf.size ++ tf.data.toList) ++ enc tq.size ++ tq.data.toList) ++ enc tn.size ++ tn.data.toList) ++ bytesT n tv) ++ enc ru.toNat) ++ enc nu.toNat) ++ enc wa.toNat) ++ enc pf.toNat) ++ be pc 8) ++ enc pm.toNat))) := fun W v hv => refNum_all v _ pm (by omega) W hv (by simp only [List.length_append, List.length_nil] at *; omega)
    have KL : Hid (∀ W v, Lib.HoldsBytes W v (((((((((((([] : List UInt8) ++ enc rk.toNat) ++ enc tf.size ++ tf.data.toList) ++ enc tq.size ++ tq.data.toList) ++ enc tn.size ++ tn.data.toList) ++ bytesT n tv) ++ enc ru.toNat) ++ enc nu.toNat) ++ enc wa.toNat) ++ enc pf.toNat) ++ be pc 8) ++ enc pm.toNat) → Calls Try.prog 22 #[v, .int .i64 (cds.length : Int)] W (RB W ((((((((((((([] : List UInt8) ++ enc rk.toNat) ++ enc tf.size ++ tf.data.toList) ++ enc tq.size ++ tq.data.toList) ++ enc tn.size ++ tn.data.toList) ++ bytesT n tv) ++ enc ru.toNat) ++ enc nu.toNat) ++ enc wa.toNat) ++ enc pf.toNat) ++ be pc 8) ++ enc pm.toNat) ++ enc cds.length))) := fun W v hv => by
      have := refNum_all v _ (cds.length : Int) (by have := HCA.out.1; omega) W hv (by simp only [List.length_append, List.length_nil] at *; omega)
      rwa [Int.toNat_natCast] at this
    generalize (((((((((((([] : List UInt8) ++ enc rk.toNat) ++ enc tf.size ++ tf.data.toList) ++ enc tq.size ++ tq.data.toList) ++ enc tn.size ++ tn.data.toList) ++ bytesT n tv) ++ enc ru.toNat) ++ enc nu.toNat) ++ enc wa.toNat) ++ enc pf.toNat) ++ be pc 8) ++ enc pm.toNat) = L11 at K11 KL LNx YEx
    generalize ((((((((((([] : List UInt8) ++ enc rk.toNat) ++ enc tf.size ++ tf.data.toList) ++ enc tq.size ++ tq.data.toList) ++ enc tn.size ++ tn.data.toList) ++ bytesT n tv) ++ enc ru.toNat) ++ enc nu.toNat) ++ enc wa.toNat) ++ enc pf.toNat) ++ be pc 8) = L10 at K10 K11
    generalize (((((((((([] : List UInt8) ++ enc rk.toNat) ++ enc tf.size ++ tf.data.toList) ++ enc tq.size ++ tq.data.toList) ++ enc tn.size ++ tn.data.toList) ++ bytesT n tv) ++ enc ru.toNat) ++ enc nu.toNat) ++ enc wa.toNat) ++ enc pf.toNat) = L9 at K9 K10
    generalize ((((((((([] : List UInt8) ++ enc rk.toNat) ++ enc tf.size ++ tf.data.toList) ++ enc tq.size ++ tq.data.toList) ++ enc tn.size ++ tn.data.toList) ++ bytesT n tv) ++ enc ru.toNat) ++ enc nu.toNat) ++ enc wa.toNat) = L8 at K8 K9
    generalize (((((((([] : List UInt8) ++ enc rk.toNat) ++ enc tf.size ++ tf.data.toList) ++ enc tq.size ++ tq.data.toList) ++ enc tn.size ++ tn.data.toList) ++ bytesT n tv) ++ enc ru.toNat) ++ enc nu.toNat) = L7 at K7 K8
    generalize ((((((([] : List UInt8) ++ enc rk.toNat) ++ enc tf.size ++ tf.data.toList) ++ enc tq.size ++ tq.data.toList) ++ enc tn.size ++ tn.data.toList) ++ bytesT n tv) ++ enc ru.toNat) = L6 at K6 K7
    generalize (((((([] : List UInt8) ++ enc rk.toNat) ++ enc tf.size ++ tf.data.toList) ++ enc tq.size ++ tq.data.toList) ++ enc tn.size ++ tn.data.toList) ++ bytesT n tv) = L5 at K5 K6
    generalize ((((([] : List UInt8) ++ enc rk.toNat) ++ enc tf.size ++ tf.data.toList) ++ enc tq.size ++ tq.data.toList) ++ enc tn.size ++ tn.data.toList) = L4 at K4 K5
    generalize (((([] : List UInt8) ++ enc rk.toNat) ++ enc tf.size ++ tf.data.toList) ++ enc tq.size ++ tq.data.toList) = L3 at K3 K4
    generalize ((([] : List UInt8) ++ enc rk.toNat) ++ enc tf.size ++ tf.data.toList) = L2 at K2 K3
    generalize (([] : List UInt8) ++ enc rk.toNat) = L1 at K1 K2
    have LN2 : Hid (L11.length ≤ 3000) := LNx
    have YE2 : Hid (∀ C A, allB (fC n) cds = some C → allB (fA n) ads = some A → QR = qR (some ((L11 ++ enc cds.length ++ C) ++ enc ads.length ++ A))) := YEx
    clear LN YE LNx YEx HF1 zr zn zw zf zm sf sq sn hk ln HF HR2
    have c0_w2 := row_cell (j := 0) RW2.out (v := .int .i64 rk) rfl
    have c1_w2 := row_cell (j := 1) RW2.out (v := .string tf) rfl
    have c2_w2 := row_cell (j := 2) RW2.out (v := .string tq) rfl
    have c3_w2 := row_cell (j := 3) RW2.out (v := .string tn) rfl
    go_wp2_with fail
    go_region_held3 (fun w' => w'.cell? ⟨w.heap.size, 0, none⟩ = some (.int .i64 rk) ∧ w'.cell? ⟨w.heap.size, 1, none⟩ = some (.string tf) ∧ w'.cell? ⟨w.heap.size, 2, none⟩ = some (.string tq) ∧ w'.cell? ⟨w.heap.size, 3, none⟩ = some (.string tn)) (go_keep) (first
      | (go_at_call_of 22 (Value.int IntKind.i64 rk); refine (K1.out _ _ (holds_nil _)).mono ?_; rintro e w3 ⟨v3, rfl, o3, hb3⟩; have HB3 : Hid (Lib.HoldsBytes w3 v3 L1) := own_holds o3; have Bg3 : Hid (Below W0.heap.size W0 w3) := bel2 B2.out (show Below w2.heap.size w2 w3 from (by first | exact hb3 | exact bel2 (Below.refl _ w2).drew hb3)); have c0_w3 := cellG c0_w2 (show Below w2.heap.size w2 w3 from (by first | exact hb3 | exact bel2 (Below.refl _ w2).drew hb3)); have c1_w3 := cellG c1_w2 (show Below w2.heap.size w2 w3 from (by first | exact hb3 | exact bel2 (Below.refl _ w2).drew hb3)); have c2_w3 := cellG c2_w2 (show Below w2.heap.size w2 w3 from (by first | exact hb3 | exact bel2 (Below.refl _ w2).drew hb3)); have c3_w3 := cellG c3_w2 (show Below w2.heap.size w2 w3 from (by first | exact hb3 | exact bel2 (Below.refl _ w2).drew hb3)); clear hb3 o3)
      | (go_at_call_of 21 (Value.string tf); refine (K2.out _ _ HB3.out).mono ?_; rintro e w4 ⟨v4, rfl, o4, hb4⟩; have HB4 : Hid (Lib.HoldsBytes w4 v4 L2) := own_holds o4; have Bg4 : Hid (Below W0.heap.size W0 w4) := bel2 Bg3.out (show Below w3.heap.size w3 w4 from (by first | exact hb4 | exact bel2 (Below.refl _ w3).drew hb4)); have c0_w4 := cellG c0_w3 (show Below w3.heap.size w3 w4 from (by first | exact hb4 | exact bel2 (Below.refl _ w3).drew hb4)); have c1_w4 := cellG c1_w3 (show Below w3.heap.size w3 w4 from (by first | exact hb4 | exact bel2 (Below.refl _ w3).drew hb4)); have c2_w4 := cellG c2_w3 (show Below w3.heap.size w3 w4 from (by first | exact hb4 | exact bel2 (Below.refl _ w3).drew hb4)); have c3_w4 := cellG c3_w3 (show Below w3.heap.size w3 w4 from (by first | exact hb4 | exact bel2 (Below.refl _ w3).drew hb4)); clear hb4 o4)
      | (go_at_call_of 21 (Value.string tq); refine (K3.out _ _ HB4.out).mono ?_; rintro e w5 ⟨v5, rfl, o5, hb5⟩; have HB5 : Hid (Lib.HoldsBytes w5 v5 L3) := own_holds o5; have Bg5 : Hid (Below W0.heap.size W0 w5) := bel2 Bg4.out (show Below w4.heap.size w4 w5 from (by first | exact hb5 | exact bel2 (Below.refl _ w4).drew hb5)); have c0_w5 := cellG c0_w4 (show Below w4.heap.size w4 w5 from (by first | exact hb5 | exact bel2 (Below.refl _ w4).drew hb5)); have c1_w5 := cellG c1_w4 (show Below w4.heap.size w4 w5 from (by first | exact hb5 | exact bel2 (Below.refl _ w4).drew hb5)); have c2_w5 := cellG c2_w4 (show Below w4.heap.size w4 w5 from (by first | exact hb5 | exact bel2 (Below.refl _ w4).drew hb5)); have c3_w5 := cellG c3_w4 (show Below w4.heap.size w4 w5 from (by first | exact hb5 | exact bel2 (Below.refl _ w4).drew hb5)); clear hb5 o5)
      | (go_at_call_of 21 (Value.string tn); refine (K4.out _ _ HB5.out).mono ?_; rintro e w6 ⟨v6, rfl, o6, hb6⟩; have HB6 : Hid (Lib.HoldsBytes w6 v6 L4) := own_holds o6; have Bg6 : Hid (Below W0.heap.size W0 w6) := bel2 Bg5.out (show Below w5.heap.size w5 w6 from (by first | exact hb6 | exact bel2 (Below.refl _ w5).drew hb6)); have c0_w6 := cellG c0_w5 (show Below w5.heap.size w5 w6 from (by first | exact hb6 | exact bel2 (Below.refl _ w5).drew hb6)); have c1_w6 := cellG c1_w5 (show Below w5.heap.size w5 w6 from (by first | exact hb6 | exact bel2 (Below.refl _ w5).drew hb6)); have c2_w6 := cellG c2_w5 (show Below w5.heap.size w5 w6 from (by first | exact hb6 | exact bel2 (Below.refl _ w5).drew hb6)); have c3_w6 := cellG c3_w5 (show Below w5.heap.size w5 w6 from (by first | exact hb6 | exact bel2 (Below.refl _ w5).drew hb6)); clear hb6 o6))
    clear c0_w2 c0_w3 c0_w4 c0_w5 c0_w6 c1_w2 c1_w3 c1_w4 c1_w5 c1_w6 c2_w2 c2_w3 c2_w4 c2_w5 c2_w6 c3_w2 c3_w3 c3_w4 c3_w5 c3_w6
    have RW6 : Hid (w6.heap[w.heap.size]? = some (.cells #[.int .i64 rk, .string tf, .string tq, .string tn, .int .i64 vk, .int .i64 vx, .int .u64 vb, .string vs, .slice va vm vc, .int .i64 ru, .int .i64 nu, .int .i64 wa, .int .i64 pf, .int .u64 (pc : Int), .int .i64 pm, .slice ca cds.length cc, .slice aa ads.length ac] 31 (0, 0))) := (Bg6.out.block _ Z0.out).trans RW.out
    have c4_w6 := row_cell (j := 4) RW6.out (v := .int .i64 vk) rfl
    have c5_w6 := row_cell (j := 5) RW6.out (v := .int .i64 vx) rfl
    have c6_w6 := row_cell (j := 6) RW6.out (v := .int .u64 vb) rfl
    have c7_w6 := row_cell (j := 7) RW6.out (v := .string vs) rfl
    have c8_w6 := row_cell (j := 8) RW6.out (v := .slice va vm vc) rfl
    have c9_w6 := row_cell (j := 9) RW6.out (v := .int .i64 ru) rfl
    have c10_w6 := row_cell (j := 10) RW6.out (v := .int .i64 nu) rfl
    have c11_w6 := row_cell (j := 11) RW6.out (v := .int .i64 wa) rfl
    go_wp2_with fail
    go_region_held3 (fun w' => w'.cell? ⟨w.heap.size, 4, none⟩ = some (.int .i64 vk) ∧ w'.cell? ⟨w.heap.size, 5, none⟩ = some (.int .i64 vx) ∧ w'.cell? ⟨w.heap.size, 6, none⟩ = some (.int .u64 vb) ∧ w'.cell? ⟨w.heap.size, 7, none⟩ = some (.string vs) ∧ w'.cell? ⟨w.heap.size, 8, none⟩ = some (.slice va vm vc) ∧ w'.cell? ⟨w.heap.size, 9, none⟩ = some (.int .i64 ru) ∧ w'.cell? ⟨w.heap.size, 10, none⟩ = some (.int .i64 nu) ∧ w'.cell? ⟨w.heap.size, 11, none⟩ = some (.int .i64 wa)) (go_keep) (first
      | (go_at_call 23; refine (K5.out _ _ (by first | exact Bg6.out | exact Bg6.out.drew) (by first | exact HB6.out | exact holds_below HB6.out (Below.refl _ _).drew)).mono ?_; rintro e w7 ⟨v7, rfl, o7, hb7⟩; have HB7 : Hid (Lib.HoldsBytes w7 v7 L5) := o7; have Bg7 : Hid (Below W0.heap.size W0 w7) := bel2 Bg6.out (show Below w6.heap.size w6 w7 from (by first | exact hb7 | exact bel2 (Below.refl _ w6).drew hb7)); have c4_w7 := cellG c4_w6 (show Below w6.heap.size w6 w7 from (by first | exact hb7 | exact bel2 (Below.refl _ w6).drew hb7)); have c5_w7 := cellG c5_w6 (show Below w6.heap.size w6 w7 from (by first | exact hb7 | exact bel2 (Below.refl _ w6).drew hb7)); have c6_w7 := cellG c6_w6 (show Below w6.heap.size w6 w7 from (by first | exact hb7 | exact bel2 (Below.refl _ w6).drew hb7)); have c7_w7 := cellG c7_w6 (show Below w6.heap.size w6 w7 from (by first | exact hb7 | exact bel2 (Below.refl _ w6).drew hb7)); have c8_w7 := cellG c8_w6 (show Below w6.heap.size w6 w7 from (by first | exact hb7 | exact bel2 (Below.refl _ w6).drew hb7)); have c9_w7 := cellG c9_w6 (show Below w6.heap.size w6 w7 from (by first | exact hb7 | exact bel2 (Below.refl _ w6).drew hb7)); have c10_w7 := cellG c10_w6 (show Below w6.heap.size w6 w7 from (by first | exact hb7 | exact bel2 (Below.refl _ w6).drew hb7)); have c11_w7 := cellG c11_w6 (show Below w6.heap.size w6 w7 from (by first | exact hb7 | exact bel2 (Below.refl _ w6).drew hb7)); clear hb7 o7)
      | (go_at_call_of 22 (Value.int IntKind.i64 ru); refine (K6.out _ _ HB7.out).mono ?_; rintro e w8 ⟨v8, rfl, o8, hb8⟩; have HB8 : Hid (Lib.HoldsBytes w8 v8 L6) := own_holds o8; have Bg8 : Hid (Below W0.heap.size W0 w8) := bel2 Bg7.out (show Below w7.heap.size w7 w8 from (by first | exact hb8 | exact bel2 (Below.refl _ w7).drew hb8)); have c4_w8 := cellG c4_w7 (show Below w7.heap.size w7 w8 from (by first | exact hb8 | exact bel2 (Below.refl _ w7).drew hb8)); have c5_w8 := cellG c5_w7 (show Below w7.heap.size w7 w8 from (by first | exact hb8 | exact bel2 (Below.refl _ w7).drew hb8)); have c6_w8 := cellG c6_w7 (show Below w7.heap.size w7 w8 from (by first | exact hb8 | exact bel2 (Below.refl _ w7).drew hb8)); have c7_w8 := cellG c7_w7 (show Below w7.heap.size w7 w8 from (by first | exact hb8 | exact bel2 (Below.refl _ w7).drew hb8)); have c8_w8 := cellG c8_w7 (show Below w7.heap.size w7 w8 from (by first | exact hb8 | exact bel2 (Below.refl _ w7).drew hb8)); have c9_w8 := cellG c9_w7 (show Below w7.heap.size w7 w8 from (by first | exact hb8 | exact bel2 (Below.refl _ w7).drew hb8)); have c10_w8 := cellG c10_w7 (show Below w7.heap.size w7 w8 from (by first | exact hb8 | exact bel2 (Below.refl _ w7).drew hb8)); have c11_w8 := cellG c11_w7 (show Below w7.heap.size w7 w8 from (by first | exact hb8 | exact bel2 (Below.refl _ w7).drew hb8)); clear hb8 o8)
      | (go_at_call_of 22 (Value.int IntKind.i64 nu); refine (K7.out _ _ HB8.out).mono ?_; rintro e w9 ⟨v9, rfl, o9, hb9⟩; have HB9 : Hid (Lib.HoldsBytes w9 v9 L7) := own_holds o9; have Bg9 : Hid (Below W0.heap.size W0 w9) := bel2 Bg8.out (show Below w8.heap.size w8 w9 from (by first | exact hb9 | exact bel2 (Below.refl _ w8).drew hb9)); have c4_w9 := cellG c4_w8 (show Below w8.heap.size w8 w9 from (by first | exact hb9 | exact bel2 (Below.refl _ w8).drew hb9)); have c5_w9 := cellG c5_w8 (show Below w8.heap.size w8 w9 from (by first | exact hb9 | exact bel2 (Below.refl _ w8).drew hb9)); have c6_w9 := cellG c6_w8 (show Below w8.heap.size w8 w9 from (by first | exact hb9 | exact bel2 (Below.refl _ w8).drew hb9)); have c7_w9 := cellG c7_w8 (show Below w8.heap.size w8 w9 from (by first | exact hb9 | exact bel2 (Below.refl _ w8).drew hb9)); have c8_w9 := cellG c8_w8 (show Below w8.heap.size w8 w9 from (by first | exact hb9 | exact bel2 (Below.refl _ w8).drew hb9)); have c9_w9 := cellG c9_w8 (show Below w8.heap.size w8 w9 from (by first | exact hb9 | exact bel2 (Below.refl _ w8).drew hb9)); have c10_w9 := cellG c10_w8 (show Below w8.heap.size w8 w9 from (by first | exact hb9 | exact bel2 (Below.refl _ w8).drew hb9)); have c11_w9 := cellG c11_w8 (show Below w8.heap.size w8 w9 from (by first | exact hb9 | exact bel2 (Below.refl _ w8).drew hb9)); clear hb9 o9)
      | (go_at_call_of 22 (Value.int IntKind.i64 wa); refine (K8.out _ _ HB9.out).mono ?_; rintro e w10 ⟨v10, rfl, o10, hb10⟩; have HB10 : Hid (Lib.HoldsBytes w10 v10 L8) := own_holds o10; have Bg10 : Hid (Below W0.heap.size W0 w10) := bel2 Bg9.out (show Below w9.heap.size w9 w10 from (by first | exact hb10 | exact bel2 (Below.refl _ w9).drew hb10)); have c4_w10 := cellG c4_w9 (show Below w9.heap.size w9 w10 from (by first | exact hb10 | exact bel2 (Below.refl _ w9).drew hb10)); have c5_w10 := cellG c5_w9 (show Below w9.heap.size w9 w10 from (by first | exact hb10 | exact bel2 (Below.refl _ w9).drew hb10)); have c6_w10 := cellG c6_w9 (show Below w9.heap.size w9 w10 from (by first | exact hb10 | exact bel2 (Below.refl _ w9).drew hb10)); have c7_w10 := cellG c7_w9 (show Below w9.heap.size w9 w10 from (by first | exact hb10 | exact bel2 (Below.refl _ w9).drew hb10)); have c8_w10 := cellG c8_w9 (show Below w9.heap.size w9 w10 from (by first | exact hb10 | exact bel2 (Below.refl _ w9).drew hb10)); have c9_w10 := cellG c9_w9 (show Below w9.heap.size w9 w10 from (by first | exact hb10 | exact bel2 (Below.refl _ w9).drew hb10)); have c10_w10 := cellG c10_w9 (show Below w9.heap.size w9 w10 from (by first | exact hb10 | exact bel2 (Below.refl _ w9).drew hb10)); have c11_w10 := cellG c11_w9 (show Below w9.heap.size w9 w10 from (by first | exact hb10 | exact bel2 (Below.refl _ w9).drew hb10)); clear hb10 o10))
    clear c4_w6 c4_w7 c4_w8 c4_w9 c4_w10 c5_w6 c5_w7 c5_w8 c5_w9 c5_w10 c6_w6 c6_w7 c6_w8 c6_w9 c6_w10 c7_w6 c7_w7 c7_w8 c7_w9 c7_w10 c8_w6 c8_w7 c8_w8 c8_w9 c8_w10 c9_w6 c9_w7 c9_w8 c9_w9 c9_w10 c10_w6 c10_w7 c10_w8 c10_w9 c10_w10 c11_w6 c11_w7 c11_w8 c11_w9 c11_w10
    have RW10 : Hid (w10.heap[w.heap.size]? = some (.cells #[.int .i64 rk, .string tf, .string tq, .string tn, .int .i64 vk, .int .i64 vx, .int .u64 vb, .string vs, .slice va vm vc, .int .i64 ru, .int .i64 nu, .int .i64 wa, .int .i64 pf, .int .u64 (pc : Int), .int .i64 pm, .slice ca cds.length cc, .slice aa ads.length ac] 31 (0, 0))) := (Bg10.out.block _ Z0.out).trans RW.out
    have c12_w10 := row_cell (j := 12) RW10.out (v := .int .i64 pf) rfl
    have c13_w10 := row_cell (j := 13) RW10.out (v := .int .u64 (pc : Int)) rfl
    have c14_w10 := row_cell (j := 14) RW10.out (v := .int .i64 pm) rfl
    go_wp2_with fail
    go_region_held3 (fun w' => w'.cell? ⟨w.heap.size, 12, none⟩ = some (.int .i64 pf) ∧ w'.cell? ⟨w.heap.size, 13, none⟩ = some (.int .u64 (pc : Int)) ∧ w'.cell? ⟨w.heap.size, 14, none⟩ = some (.int .i64 pm)) (go_keep) (first
      | (go_at_call_of 22 (Value.int IntKind.i64 pf); refine (K9.out _ _ (by first | exact HB10.out | exact holds_below HB10.out (Below.refl _ _).drew)).mono ?_; rintro e w11 ⟨v11, rfl, o11, hb11⟩; have HB11 : Hid (Lib.HoldsBytes w11 v11 L9) := own_holds o11; have Bg11 : Hid (Below W0.heap.size W0 w11) := bel2 Bg10.out (show Below w10.heap.size w10 w11 from (by first | exact hb11 | exact bel2 (Below.refl _ w10).drew hb11)); have c12_w11 := cellG c12_w10 (show Below w10.heap.size w10 w11 from (by first | exact hb11 | exact bel2 (Below.refl _ w10).drew hb11)); have c13_w11 := cellG c13_w10 (show Below w10.heap.size w10 w11 from (by first | exact hb11 | exact bel2 (Below.refl _ w10).drew hb11)); have c14_w11 := cellG c14_w10 (show Below w10.heap.size w10 w11 from (by first | exact hb11 | exact bel2 (Below.refl _ w10).drew hb11)); clear hb11 o11)
      | (go_at_call 24; refine (K10.out _ _ HB11.out).mono ?_; rintro e w12 ⟨v12, rfl, o12, hb12⟩; have HB12 : Hid (Lib.HoldsBytes w12 v12 L10) := own_holds o12; have Bg12 : Hid (Below W0.heap.size W0 w12) := bel2 Bg11.out (show Below w11.heap.size w11 w12 from (by first | exact hb12 | exact bel2 (Below.refl _ w11).drew hb12)); have c12_w12 := cellG c12_w11 (show Below w11.heap.size w11 w12 from (by first | exact hb12 | exact bel2 (Below.refl _ w11).drew hb12)); have c13_w12 := cellG c13_w11 (show Below w11.heap.size w11 w12 from (by first | exact hb12 | exact bel2 (Below.refl _ w11).drew hb12)); have c14_w12 := cellG c14_w11 (show Below w11.heap.size w11 w12 from (by first | exact hb12 | exact bel2 (Below.refl _ w11).drew hb12)); clear hb12 o12)
      | (go_at_call_of 22 (Value.int IntKind.i64 pm); refine (K11.out _ _ HB12.out).mono ?_; rintro e w13 ⟨v13, rfl, o13, hb13⟩; have HB13 : Hid (Lib.HoldsBytes w13 v13 L11) := own_holds o13; have Bg13 : Hid (Below W0.heap.size W0 w13) := bel2 Bg12.out (show Below w12.heap.size w12 w13 from (by first | exact hb13 | exact bel2 (Below.refl _ w12).drew hb13)); have c12_w13 := cellG c12_w12 (show Below w12.heap.size w12 w13 from (by first | exact hb13 | exact bel2 (Below.refl _ w12).drew hb13)); have c13_w13 := cellG c13_w12 (show Below w12.heap.size w12 w13 from (by first | exact hb13 | exact bel2 (Below.refl _ w12).drew hb13)); have c14_w13 := cellG c14_w12 (show Below w12.heap.size w12 w13 from (by first | exact hb13 | exact bel2 (Below.refl _ w12).drew hb13)); clear hb13 o13))
    clear c12_w10 c12_w11 c12_w12 c12_w13 c13_w10 c13_w11 c13_w12 c13_w13 c14_w10 c14_w11 c14_w12 c14_w13
    have RW13 : Hid (w13.heap[w.heap.size]? = some (.cells #[.int .i64 rk, .string tf, .string tq, .string tn, .int .i64 vk, .int .i64 vx, .int .u64 vb, .string vs, .slice va vm vc, .int .i64 ru, .int .i64 nu, .int .i64 wa, .int .i64 pf, .int .u64 (pc : Int), .int .i64 pm, .slice ca cds.length cc, .slice aa ads.length ac] 31 (0, 0))) := (Bg13.out.block _ Z0.out).trans RW.out
    have c15 := row_cell (j := 15) RW13.out (v := .slice ca cds.length cc) rfl
    go_wp2_with fail
    clear c15
    refine (KL.out _ _ HB13.out).mono ?_
    rintro e w20 ⟨v20, rfl, o20, hb20⟩
    have HB20 : Hid (Lib.HoldsBytes w20 v20 (L11 ++ enc cds.length)) := own_holds o20
    have Bg20 : Hid (Below W0.heap.size W0 w20) := bel2 Bg13.out hb20
    have EL : Hid ((enc cds.length).length ≤ 9 ∧ (enc ads.length).length ≤ 9) := ⟨enc_length _ (by have := HCA.out.1; omega), enc_length _ (by have := HCA.out.2; omega)⟩
    clear o20 hb20 KL K1 K2 K3 K4 K5 K6 K7 K8 K9 K10 K11 HB3 Bg3 HB4 Bg4 HB5 Bg5 HB6 Bg6 RW6 HB7 Bg7 HB8 Bg8 HB9 Bg9 HB10 Bg10 RW10 HB11 Bg11 HB12 Bg12 HB13 Bg13 RW13
    go_wp2_with fail
    go_loopw [4, 5] (fun b i wr => ∃ (j : Nat) (C : List UInt8), j ≤ cds.length ∧ i = .int .i64 (j : Int) ∧ Hid (allB (fC n) (cds.take j) = some C) ∧ Hid (Lib.HoldsBytes wr b ((L11 ++ enc cds.length) ++ C)) ∧ Hid (Below W0.heap.size W0 wr)) (fun _ i _ => cds.length - (intOf i).toNat)
    case atStart => exact ⟨0, [], Nat.zero_le _, rfl, rfl, (by show Lib.HoldsBytes _ _ _; rw [List.append_nil]; exact HB20.out), Bg20⟩
    case round =>
      obtain ⟨j, C, hj, rfl, HAL, HBJ, HBW⟩ := hrel
      have HCL : Hid (C.length ≤ 20000) := by have := allB_len fC_len HAL.out; have h2 := HCA.out.1; rw [List.length_take] at this; show _ ≤ _; omega
      have RWr : Hid (wr.heap[w.heap.size]? = some (.cells #[.int .i64 rk, .string tf, .string tq, .string tn, .int .i64 vk, .int .i64 vx, .int .u64 vb, .string vs, .slice va vm vc, .int .i64 ru, .int .i64 nu, .int .i64 wa, .int .i64 pf, .int .u64 (pc : Int), .int .i64 pm, .slice ca cds.length cc, .slice aa ads.length ac] 31 (0, 0))) := (HBW.out.block _ Z0.out).trans RW.out
      have x15 := row_cell (j := 15) RWr.out (v := .slice ca cds.length cc) rfl
      by_cases hlt : j < cds.length
      · have hget := List.getElem?_eq_getElem hlt
        obtain ⟨⟨dk, dn, dt, dd⟩, hdd⟩ : ∃ d, d = cds[j] := ⟨_, rfl⟩
        rw [← hdd] at hget
        have HMem : Hid ((dk, dn, dt, dd) ∈ cds) := List.mem_of_getElem? hget
        have HTk : Hid (cds.take (j + 1) = cds.take j ++ [(dk, dn, dt, dd)]) := by show _ = _; rw [List.take_add_one, hget]; rfl
        obtain ⟨B, o, row, hca, h5, hel⟩ := HC.out j _ hget
        obtain ⟨ek, ex, eb, es, ea, em, ec, rfl, hi⟩ := hel
        dsimp only at hi h5
        have HI : Hid (Is W0 n (.agg #[.int .i64 ek, .int .i64 ex, .int .u64 eb, .string es, .slice ea em ec]) dt) := hi
        have HCAq : Hid (ca = some ⟨B, o, none⟩) := hca
        have e0 := cellG (h5 0 _ rfl) HBW.out
        have e1 := cellG (h5 1 _ rfl) HBW.out
        have e2 := cellG (h5 2 _ rfl) HBW.out
        have e3 := cellG (h5 3 _ rfl) HBW.out
        have e4 := cellG (h5 4 _ rfl) HBW.out
        have e5 := cellG (h5 5 _ rfl) HBW.out
        have e6 := cellG (h5 6 _ rfl) HBW.out
        have e7 := cellG (h5 7 _ rfl) HBW.out
        dsimp only [Nat.add_zero] at e0
        have hjl : (j : Int) < (cds.length : Int) := by omega
        have HW1 : Hid (wrap64 ((j : Int) + 1) = ((j + 1 : Nat) : Int)) := wr1 hlt (by have := HCA.out.1; omega)
        obtain ⟨A, hA⟩ : ∃ A, A = wr.alloc (.cells #[.int .i64 dk, .string dn, .int .i64 ek, .int .i64 ex, .int .u64 eb, .string es, .slice ea em ec, .int .i64 dd] 71) := ⟨_, rfl⟩
        have HA9 : Hid (A = wr.alloc (.cells #[.int .i64 dk, .string dn, .int .i64 ek, .int .i64 ex, .int .u64 eb, .string es, .slice ea em ec, .int .i64 dd] 71)) := hA
        have RA : Hid (A.heap[wr.heap.size]? = some (.cells #[.int .i64 dk, .string dn, .int .i64 ek, .int .i64 ex, .int .u64 eb, .string es, .slice ea em ec, .int .i64 dd] 71 (0, 0))) := by rw [hA]; exact heap_alloc_new wr _
        have BA : Hid (Below wr.heap.size wr A) := by rw [hA]; exact bel1 _ _
        have BA0 : Hid (Below W0.heap.size W0 A) := bel2 HBW.out BA.out
        have ZA : Hid (wr.heap.size < A.heap.size) := (Array.getElem?_eq_some_iff.1 RA.out).1
        clear hdd hget hi h5 hA
        rw [hca] at x15
        clear hca
        go_upto_region 11 with fail
        rw [← HA9.out]
        clear x15 e0 e1 e2 e3 e4 e5 e6 e7
        have y0 := row_cell (j := 0) RA.out (v := .int .i64 dk) rfl
        have y7 := row_cell (j := 7) RA.out (v := .int .i64 dd) rfl
        have y1 := cellG (row_cell (j := 1) RA.out (v := .string dn) rfl) (bel1 A (.cells #[.int .i64 dd] 3))
        have y2 := cellG (row_cell (j := 2) RA.out (v := .int .i64 ek) rfl) (bel2 (bel1 A (.cells #[.int .i64 dd] 3)) (bel1 (A.alloc (.cells #[.int .i64 dd] 3)) (.cells #[.string dn] 9)))
        have y3 := cellG (row_cell (j := 3) RA.out (v := .int .i64 ex) rfl) (bel2 (bel1 A (.cells #[.int .i64 dd] 3)) (bel1 (A.alloc (.cells #[.int .i64 dd] 3)) (.cells #[.string dn] 9)))
        have y4 := cellG (row_cell (j := 4) RA.out (v := .int .u64 eb) rfl) (bel2 (bel1 A (.cells #[.int .i64 dd] 3)) (bel1 (A.alloc (.cells #[.int .i64 dd] 3)) (.cells #[.string dn] 9)))
        have y5 := cellG (row_cell (j := 5) RA.out (v := .string es) rfl) (bel2 (bel1 A (.cells #[.int .i64 dd] 3)) (bel1 (A.alloc (.cells #[.int .i64 dd] 3)) (.cells #[.string dn] 9)))
        have y6 := cellG (row_cell (j := 6) RA.out (v := .slice ea em ec) rfl) (bel2 (bel1 A (.cells #[.int .i64 dd] 3)) (bel1 (A.alloc (.cells #[.int .i64 dd] 3)) (.cells #[.string dn] 9)))
        go_wp2_with fail
        refine (kind_calls _ _).mono ?_
        rintro e w21 ⟨rfl, hw⟩
        have hw' := hw.symm
        subst hw'
        clear hw
        by_cases hk : 0 ≤ dk ∧ dk ≤ 255
        rotate_left
        · have HX : Hid (QR = .error 1) := NOC.out _ HMem.out (fC_none1 hk)
          have BBA : Hid (Below w.heap.size w A) := bel2 B0.out BA0.out
          rw [decide_eq_false hk]
          clear hk
          go_wp2_with fail
          go_ret2
          rw [HX.out]
          exact cy_error BBA.out 1
        rw [decide_eq_true hk]
        have HK2 : Hid (0 ≤ dk ∧ dk ≤ 255) := hk
        clear hk
        go_wp2_with fail
        refine Calls.mono (fine_calls n _ 1 _ [dd] _ 1 _ [dn] _ _ _ _ _ _ _ dt _ rfl rfl (by decide) (by decide) ?_ ?_ ?_) ?_
        · intro i z hi
          match i, hi with
          | 0, hi => cases hi; exact ⟨_, _, rfl, by simp⟩
          | i + 1, hi => simp at hi
        · intro i z hi
          match i, hi with
          | 0, hi => cases hi; exact ⟨_, _, rfl, by simp⟩
          | i + 1, hi => simp at hi
        · exact HI.out.below (bel2 BA0.out (bel2 (bel1 _ _) (bel1 _ _)))
        rintro e w22 ⟨⟨r22, rfl, hr22⟩, hb22⟩
        have BA22 : Hid (Below A.heap.size A w22) := bel2 (bel2 (bel1 _ _) (bel1 _ _)) hb22
        have Bg22 : Hid (Below W0.heap.size W0 w22) := bel2 BA0.out BA22.out
        have BB22 : Hid (Below w.heap.size w w22) := bel2 B0.out Bg22.out
        have HR22 : Hid (r22 = true ↔ _) := hr22
        have RA22 : Hid (w22.heap[wr.heap.size]? = some (.cells #[.int .i64 dk, .string dn, .int .i64 ek, .int .i64 ex, .int .u64 eb, .string es, .slice ea em ec, .int .i64 dd] 71 (0, 0))) := (BA22.out.block _ ZA.out).trans RA.out
        have HB22 : Hid (Lib.HoldsBytes w22 _ ((L11 ++ enc cds.length) ++ C)) := holds_below HBJ.out (bel2 BA.out BA22.out)
        clear hb22 hr22 y0 y1 y2 y3 y4 y5 y6 y7
        cases r22 with
        | false =>
          have HX : Hid (QR = .error 1) := NOC.out _ HMem.out (fC_none2 (fun h => by cases HR22.out.2 h))
          go_wp2_with fail
          go_ret2
          rw [HX.out]
          exact cy_error BB22.out 1
        | true =>
          have HF2 : Hid _ := HR22.out.1 rfl
          have HFC : Hid (fC n (dk, dn, dt, dd) = some _) := fC_some HK2.out HF2.out
          have hf2 := HF2.out
          have zd := hf2.1 dd (by simp)
          have sd := hf2.2.1 dn (by simp)
          have hk2 := HK2.out
          have p0 : (((L11 ++ enc cds.length) ++ C)).length ≤ 30000 := by have h1 := LN2.out; have h2 := EL.out.1; have h3 := HCL.out; simp only [List.length_append]; omega
          have q1 : (enc dk.toNat).length ≤ 9 := enc_length _ (by omega)
          have q2 : (enc dn.size).length ≤ 9 := enc_length _ (by omega)
          have q3 := str_len dn
          have q4 : (bytesT n dt).length ≤ 1000 := hf2.2.2.2
          obtain ⟨P0, hP0⟩ : ∃ P, P = ((L11 ++ enc cds.length) ++ C) := ⟨_, rfl⟩
          have HP0 : Hid (P0 = _) := hP0
          rw [← hP0] at p0 HB22
          have J1 : Hid (∀ W v, Lib.HoldsBytes W v P0 → Calls Try.prog 22 #[v, .int .i64 dk] W (RB W (P0 ++ enc dk.toNat))) := fun W v hv => refNum_all v _ dk (by omega) W hv (by simp only at *; omega)
          have J2 : Hid (∀ W v, Lib.HoldsBytes W v (P0 ++ enc dk.toNat) → Calls Try.prog 21 #[v, .string dn] W (RB W ((P0 ++ enc dk.toNat) ++ enc dn.size ++ dn.data.toList))) := fun W v hv => refText_all v _ dn W hv (by simp only [List.length_append] at *; omega) (by omega)
          have J3 : Hid (∀ W v, Below W0.heap.size W0 W → Lib.HoldsBytes W v ((P0 ++ enc dk.toNat) ++ enc dn.size ++ dn.data.toList) → Calls Try.prog 23 #[v, .agg #[.int .i64 ek, .int .i64 ex, .int .u64 eb, .string es, .slice ea em ec]] W fun e w' => ∃ v', e = .returned v' ∧ Lib.HoldsBytes w' v' (((P0 ++ enc dk.toNat) ++ enc dn.size ++ dn.data.toList) ++ bytesT n dt) ∧ Below W.heap.size W w') := fun W v hB hv => (rput_calls n _ dt v _ W (HI.out.below hB) hv (by simp only [List.length_append] at *; omega)).mono fun e w' ⟨v', h1, h2, _, h4⟩ => ⟨v', h1, h2 hf2.2.2, h4⟩
          have J4 : Hid (∀ W v, Lib.HoldsBytes W v (((P0 ++ enc dk.toNat) ++ enc dn.size ++ dn.data.toList) ++ bytesT n dt) → Calls Try.prog 22 #[v, .int .i64 dd] W (RB W ((((P0 ++ enc dk.toNat) ++ enc dn.size ++ dn.data.toList) ++ bytesT n dt) ++ enc dd.toNat))) := fun W v hv => refNum_all v _ dd (by omega) W hv (by simp only [List.length_append] at *; omega)
          have HPE : Hid (((((P0 ++ enc dk.toNat) ++ enc dn.size ++ dn.data.toList) ++ bytesT n dt) ++ enc dd.toNat) = P0 ++ (enc dk.toNat ++ (enc dn.size ++ dn.data.toList ++ (bytesT n dt ++ enc dd.toNat)))) := by show _ = _; simp only [List.append_assoc]
          generalize ((((P0 ++ enc dk.toNat) ++ enc dn.size ++ dn.data.toList) ++ bytesT n dt) ++ enc dd.toNat) = P4 at J4 HPE
          generalize (((P0 ++ enc dk.toNat) ++ enc dn.size ++ dn.data.toList) ++ bytesT n dt) = P3 at J3 J4
          generalize ((P0 ++ enc dk.toNat) ++ enc dn.size ++ dn.data.toList) = P2 at J2 J3
          generalize (P0 ++ enc dk.toNat) = P1 at J1 J2
          clear hf2 zd sd hk2 p0 q1 q2 q3 q4 hP0 HF2 HR22 HK2
          have z0 := row_cell (j := 0) RA22.out (v := .int .i64 dk) rfl
          have z1 := row_cell (j := 1) RA22.out (v := .string dn) rfl
          have z2 := row_cell (j := 2) RA22.out (v := .int .i64 ek) rfl
          have z3 := row_cell (j := 3) RA22.out (v := .int .i64 ex) rfl
          have z4 := row_cell (j := 4) RA22.out (v := .int .u64 eb) rfl
          have z5 := row_cell (j := 5) RA22.out (v := .string es) rfl
          have z6 := row_cell (j := 6) RA22.out (v := .slice ea em ec) rfl
          have z7 := row_cell (j := 7) RA22.out (v := .int .i64 dd) rfl
          go_wp2_with fail
          go_region_held3 (fun w' => w'.cell? ⟨wr.heap.size, 0, none⟩ = some (.int .i64 dk) ∧ w'.cell? ⟨wr.heap.size, 1, none⟩ = some (.string dn) ∧ w'.cell? ⟨wr.heap.size, 2, none⟩ = some (.int .i64 ek) ∧ w'.cell? ⟨wr.heap.size, 3, none⟩ = some (.int .i64 ex) ∧ w'.cell? ⟨wr.heap.size, 4, none⟩ = some (.int .u64 eb) ∧ w'.cell? ⟨wr.heap.size, 5, none⟩ = some (.string es) ∧ w'.cell? ⟨wr.heap.size, 6, none⟩ = some (.slice ea em ec) ∧ w'.cell? ⟨wr.heap.size, 7, none⟩ = some (.int .i64 dd)) (go_keep) (first
            | (go_at_call_of 22 (Value.int IntKind.i64 dk); refine (J1.out _ _ (by first | exact HB22.out | exact holds_below HB22.out (Below.refl _ _).drew)).mono ?_; rintro e w23 ⟨v23, rfl, o23, hb23⟩; have HB23 : Hid (Lib.HoldsBytes w23 v23 P1) := own_holds o23; have Bg23 : Hid (Below W0.heap.size W0 w23) := bel2 Bg22.out (show Below w22.heap.size w22 w23 from (by first | exact hb23 | exact bel2 (Below.refl _ w22).drew hb23)); have z0_23 := cellG z0 (show Below w22.heap.size w22 w23 from (by first | exact hb23 | exact bel2 (Below.refl _ w22).drew hb23)); have z1_23 := cellG z1 (show Below w22.heap.size w22 w23 from (by first | exact hb23 | exact bel2 (Below.refl _ w22).drew hb23)); have z2_23 := cellG z2 (show Below w22.heap.size w22 w23 from (by first | exact hb23 | exact bel2 (Below.refl _ w22).drew hb23)); have z3_23 := cellG z3 (show Below w22.heap.size w22 w23 from (by first | exact hb23 | exact bel2 (Below.refl _ w22).drew hb23)); have z4_23 := cellG z4 (show Below w22.heap.size w22 w23 from (by first | exact hb23 | exact bel2 (Below.refl _ w22).drew hb23)); have z5_23 := cellG z5 (show Below w22.heap.size w22 w23 from (by first | exact hb23 | exact bel2 (Below.refl _ w22).drew hb23)); have z6_23 := cellG z6 (show Below w22.heap.size w22 w23 from (by first | exact hb23 | exact bel2 (Below.refl _ w22).drew hb23)); have z7_23 := cellG z7 (show Below w22.heap.size w22 w23 from (by first | exact hb23 | exact bel2 (Below.refl _ w22).drew hb23)); clear hb23 o23)
            | (go_at_call 21; refine (J2.out _ _ HB23.out).mono ?_; rintro e w24 ⟨v24, rfl, o24, hb24⟩; have HB24 : Hid (Lib.HoldsBytes w24 v24 P2) := own_holds o24; have Bg24 : Hid (Below W0.heap.size W0 w24) := bel2 Bg23.out (show Below w23.heap.size w23 w24 from (by first | exact hb24 | exact bel2 (Below.refl _ w23).drew hb24)); have z0_24 := cellG z0_23 (show Below w23.heap.size w23 w24 from (by first | exact hb24 | exact bel2 (Below.refl _ w23).drew hb24)); have z1_24 := cellG z1_23 (show Below w23.heap.size w23 w24 from (by first | exact hb24 | exact bel2 (Below.refl _ w23).drew hb24)); have z2_24 := cellG z2_23 (show Below w23.heap.size w23 w24 from (by first | exact hb24 | exact bel2 (Below.refl _ w23).drew hb24)); have z3_24 := cellG z3_23 (show Below w23.heap.size w23 w24 from (by first | exact hb24 | exact bel2 (Below.refl _ w23).drew hb24)); have z4_24 := cellG z4_23 (show Below w23.heap.size w23 w24 from (by first | exact hb24 | exact bel2 (Below.refl _ w23).drew hb24)); have z5_24 := cellG z5_23 (show Below w23.heap.size w23 w24 from (by first | exact hb24 | exact bel2 (Below.refl _ w23).drew hb24)); have z6_24 := cellG z6_23 (show Below w23.heap.size w23 w24 from (by first | exact hb24 | exact bel2 (Below.refl _ w23).drew hb24)); have z7_24 := cellG z7_23 (show Below w23.heap.size w23 w24 from (by first | exact hb24 | exact bel2 (Below.refl _ w23).drew hb24)); clear hb24 o24)
            | (go_at_call 23; refine (J3.out _ _ Bg24.out HB24.out).mono ?_; rintro e w25 ⟨v25, rfl, o25, hb25⟩; have HB25 : Hid (Lib.HoldsBytes w25 v25 P3) := o25; have Bg25 : Hid (Below W0.heap.size W0 w25) := bel2 Bg24.out (show Below w24.heap.size w24 w25 from (by first | exact hb25 | exact bel2 (Below.refl _ w24).drew hb25)); have z0_25 := cellG z0_24 (show Below w24.heap.size w24 w25 from (by first | exact hb25 | exact bel2 (Below.refl _ w24).drew hb25)); have z1_25 := cellG z1_24 (show Below w24.heap.size w24 w25 from (by first | exact hb25 | exact bel2 (Below.refl _ w24).drew hb25)); have z2_25 := cellG z2_24 (show Below w24.heap.size w24 w25 from (by first | exact hb25 | exact bel2 (Below.refl _ w24).drew hb25)); have z3_25 := cellG z3_24 (show Below w24.heap.size w24 w25 from (by first | exact hb25 | exact bel2 (Below.refl _ w24).drew hb25)); have z4_25 := cellG z4_24 (show Below w24.heap.size w24 w25 from (by first | exact hb25 | exact bel2 (Below.refl _ w24).drew hb25)); have z5_25 := cellG z5_24 (show Below w24.heap.size w24 w25 from (by first | exact hb25 | exact bel2 (Below.refl _ w24).drew hb25)); have z6_25 := cellG z6_24 (show Below w24.heap.size w24 w25 from (by first | exact hb25 | exact bel2 (Below.refl _ w24).drew hb25)); have z7_25 := cellG z7_24 (show Below w24.heap.size w24 w25 from (by first | exact hb25 | exact bel2 (Below.refl _ w24).drew hb25)); clear hb25 o25)
            | (go_at_call_of 22 (Value.int IntKind.i64 dd); refine (J4.out _ _ HB25.out).mono ?_; rintro e w26 ⟨v26, rfl, o26, hb26⟩; have HB26 : Hid (Lib.HoldsBytes w26 v26 P4) := own_holds o26; have Bg26 : Hid (Below W0.heap.size W0 w26) := bel2 Bg25.out (show Below w25.heap.size w25 w26 from (by first | exact hb26 | exact bel2 (Below.refl _ w25).drew hb26)); have z0_26 := cellG z0_25 (show Below w25.heap.size w25 w26 from (by first | exact hb26 | exact bel2 (Below.refl _ w25).drew hb26)); have z1_26 := cellG z1_25 (show Below w25.heap.size w25 w26 from (by first | exact hb26 | exact bel2 (Below.refl _ w25).drew hb26)); have z2_26 := cellG z2_25 (show Below w25.heap.size w25 w26 from (by first | exact hb26 | exact bel2 (Below.refl _ w25).drew hb26)); have z3_26 := cellG z3_25 (show Below w25.heap.size w25 w26 from (by first | exact hb26 | exact bel2 (Below.refl _ w25).drew hb26)); have z4_26 := cellG z4_25 (show Below w25.heap.size w25 w26 from (by first | exact hb26 | exact bel2 (Below.refl _ w25).drew hb26)); have z5_26 := cellG z5_25 (show Below w25.heap.size w25 w26 from (by first | exact hb26 | exact bel2 (Below.refl _ w25).drew hb26)); have z6_26 := cellG z6_25 (show Below w25.heap.size w25 w26 from (by first | exact hb26 | exact bel2 (Below.refl _ w25).drew hb26)); have z7_26 := cellG z7_25 (show Below w25.heap.size w25 w26 from (by first | exact hb26 | exact bel2 (Below.refl _ w25).drew hb26)); clear hb26 o26))
          all_goals clear z0 z1 z2 z3 z4 z5 z6 z7 z0_23 z0_24 z0_25 z0_26 z1_23 z1_24 z1_25 z1_26 z2_23 z2_24 z2_25 z2_26 z3_23 z3_24 z3_25 z3_26 z4_23 z4_24 z4_25 z4_26 z5_23 z5_24 z5_25 z5_26 z6_23 z6_24 z6_25 z6_26 z7_23 z7_24 z7_25 z7_26
          go_wp2_with fail
          refine ⟨⟨j + 1, _, hlt, by rw [HW1.out], (by show _ = _; rw [HTk.out]; exact allB_snoc (a := []) HFC.out HAL.out), ?_, Bg26⟩, meas hlt HW1.out⟩
          show Lib.HoldsBytes _ _ _
          have hh := HB26.out
          rw [HPE.out, HP0.out] at hh
          simp only [List.append_assoc] at hh ⊢
          exact hh
      · obtain rfl : j = cds.length := by omega
        have HAC : Hid (allB (fC n) cds = some C) := by have := HAL.out; rwa [List.take_length] at this
        obtain ⟨M, hM⟩ : ∃ M, M = ((L11 ++ enc cds.length) ++ C) ++ enc ads.length := ⟨_, rfl⟩
        have HMM : Hid (M = _) := hM
        have HML : Hid (M.length ≤ 30000) := by have h1 := LN2.out; have h2 := EL.out.1; have h4 := EL.out.2; have h3 := HCL.out; show _ ≤ _; rw [hM]; simp only [List.length_append]; omega
        have KA : Hid (∀ W v, Lib.HoldsBytes W v ((L11 ++ enc cds.length) ++ C) → Calls Try.prog 22 #[v, .int .i64 (ads.length : Int)] W (RB W M)) := fun W v hv => by
          have h1 := LN2.out
          have h2 := EL.out.1
          have h3 := HCL.out
          have := refNum_all v _ (ads.length : Int) (by have := HCA.out.2; omega) W hv (by simp only [List.length_append]; omega)
          rwa [Int.toNat_natCast, ← hM] at this
        have YM : Hid (∀ D, allB (fA n) ads = some D → QR = qR (some (M ++ D))) := fun D hD => by rw [hM]; exact YE2.out C D HAC.out hD
        have x16 := row_cell (j := 16) RWr.out (v := .slice aa ads.length ac) rfl
        clear hM hlt hj YE2 HMM
        go_wp2_with fail
        refine (KA.out _ _ HBJ.out).mono ?_
        rintro e w30 ⟨v30, rfl, o30, hb30⟩
        have HB30 : Hid (Lib.HoldsBytes w30 v30 M) := own_holds o30
        have Bg30 : Hid (Below W0.heap.size W0 w30) := bel2 HBW.out hb30
        clear o30 hb30 KA x15 x16 RWr HBW HBJ HAL HCL
        go_wp2_with fail
        go_loopw [4, 7] (fun b i wr => ∃ (j : Nat) (D : List UInt8), j ≤ ads.length ∧ i = .int .i64 (j : Int) ∧ Hid (allB (fA n) (ads.take j) = some D) ∧ Hid (Lib.HoldsBytes wr b (M ++ D)) ∧ Hid (Below W0.heap.size W0 wr)) (fun _ i _ => ads.length - (intOf i).toNat)
        case atStart => exact ⟨0, [], Nat.zero_le _, rfl, rfl, (by show Lib.HoldsBytes _ _ _; rw [List.append_nil]; exact HB30.out), Bg30⟩
        case round =>
          obtain ⟨k, D, hk9, rfl, HDL, HBK, HBX⟩ := hrel
          have HDN : Hid (D.length ≤ 20000) := by have := allB_len fA_len HDL.out; have h2 := HCA.out.2; rw [List.length_take] at this; show _ ≤ _; omega
          have RWs : Hid (wr.heap[w.heap.size]? = some (.cells #[.int .i64 rk, .string tf, .string tq, .string tn, .int .i64 vk, .int .i64 vx, .int .u64 vb, .string vs, .slice va vm vc, .int .i64 ru, .int .i64 nu, .int .i64 wa, .int .i64 pf, .int .u64 (pc : Int), .int .i64 pm, .slice ca cds.length cc, .slice aa ads.length ac] 31 (0, 0))) := (HBX.out.block _ Z0.out).trans RW.out
          have x16 := row_cell (j := 16) RWs.out (v := .slice aa ads.length ac) rfl
          by_cases hlt : k < ads.length
          · have hget := List.getElem?_eq_getElem hlt
            obtain ⟨⟨dk, dt⟩, hdd⟩ : ∃ d, d = ads[k] := ⟨_, rfl⟩
            rw [← hdd] at hget
            have HMem : Hid ((dk, dt) ∈ ads) := List.mem_of_getElem? hget
            have HTk : Hid (ads.take (k + 1) = ads.take k ++ [(dk, dt)]) := by show _ = _; rw [List.take_add_one, hget]; rfl
            obtain ⟨B, o, row, haa, h5, hel⟩ := HA.out k _ hget
            obtain ⟨ek, ex, eb, es, ea, em, ec, rfl, hi⟩ := hel
            dsimp only at hi h5
            have HI : Hid (Is W0 n (.agg #[.int .i64 ek, .int .i64 ex, .int .u64 eb, .string es, .slice ea em ec]) dt) := hi
            have e0 := cellG (h5 0 _ rfl) HBX.out
            have e1 := cellG (h5 1 _ rfl) HBX.out
            have e2 := cellG (h5 2 _ rfl) HBX.out
            have e3 := cellG (h5 3 _ rfl) HBX.out
            have e4 := cellG (h5 4 _ rfl) HBX.out
            have e5 := cellG (h5 5 _ rfl) HBX.out
            dsimp only [Nat.add_zero] at e0
            have hjl : (k : Int) < (ads.length : Int) := by omega
            have HW1 : Hid (wrap64 ((k : Int) + 1) = ((k + 1 : Nat) : Int)) := wr1 hlt (by have := HCA.out.2; omega)
            clear hdd hget hi h5
            rw [haa] at x16
            clear haa
            go_wp2_with fail
            go_region_held3 (fun w' => w'.cell? ⟨w.heap.size, 16, none⟩ = some (.slice (some ⟨B, o, none⟩) ads.length ac) ∧ w'.cell? ⟨B, o + k * 6, none⟩ = some (.int .i64 dk) ∧ w'.cell? ⟨B, o + k * 6 + 1, none⟩ = some (.int .i64 ek) ∧ w'.cell? ⟨B, o + k * 6 + 2, none⟩ = some (.int .i64 ex) ∧ w'.cell? ⟨B, o + k * 6 + 3, none⟩ = some (.int .u64 eb) ∧ w'.cell? ⟨B, o + k * 6 + 4, none⟩ = some (.string es) ∧ w'.cell? ⟨B, o + k * 6 + 5, none⟩ = some (.slice ea em ec)) (go_keep) (first
              | (go_at_call 20; refine Calls.mono (fine_calls n _ 1 _ [dk] none 0 0 [] _ _ _ _ _ _ _ dt _ rfl rfl (by decide) (by decide) (fun i z hi => by match i, hi with | 0, hi => cases hi; exact ⟨_, _, rfl, by simp⟩ | i + 1, hi => simp at hi) (fun i z hi => by simp at hi) (HI.out.below (bel2 HBX.out (by first | exact bel1 _ _ | exact bel2 (Below.refl _ _).drew (bel1 _ _))))) ?_; rintro e w31 ⟨⟨r31, rfl, hr31⟩, hb31⟩; have BX : Hid (Below wr.heap.size wr w31) := bel2 (by first | exact bel1 _ _ | exact bel2 (Below.refl _ _).drew (bel1 _ _)) hb31; have HR31 : Hid (r31 = true ↔ _) := hr31; have x16_31 := cellG x16 BX.out; have e0_31 := cellG e0 BX.out; have e1_31 := cellG e1 BX.out; have e2_31 := cellG e2 BX.out; have e3_31 := cellG e3 BX.out; have e4_31 := cellG e4 BX.out; have e5_31 := cellG e5 BX.out; clear hb31 hr31))
            all_goals clear x16 e0 e1 e2 e3 e4 e5
            all_goals have Bg31 : Hid (Below W0.heap.size W0 w31) := bel2 HBX.out BX.out
            all_goals have BB31 : Hid (Below w.heap.size w w31) := bel2 B0.out Bg31.out
            all_goals have HB31 : Hid (Lib.HoldsBytes w31 _ (M ++ D)) := holds_below HBK.out BX.out
            all_goals
              cases r31 with
              | false =>
                have HX : Hid (QR = .error 1) := NOA.out _ HMem.out (fA_none (fun h => by cases HR31.out.2 h))
                clear x16_31 e0_31 e1_31 e2_31 e3_31 e4_31 e5_31
                go_wp2_with fail
                go_ret2
                rw [HX.out]
                exact cy_error BB31.out 1
              | true =>
                have HF2 : Hid _ := HR31.out.1 rfl
                have HFA : Hid (fA n (dk, dt) = some _) := fA_some HF2.out
                have hf2 := HF2.out
                have zd := hf2.1 dk (by simp)
                have q1 : (enc dk.toNat).length ≤ 9 := enc_length _ (by omega)
                obtain ⟨P0, hP0⟩ : ∃ P, P = M ++ D := ⟨_, rfl⟩
                have p0 : P0.length ≤ 60000 := by have h1 := HML.out; have h2 := HDN.out; rw [hP0, List.length_append]; omega
                have HP0 : Hid (P0 = _) := hP0
                rw [← hP0] at HB31
                have J1 : Hid (∀ W v, Lib.HoldsBytes W v P0 → Calls Try.prog 22 #[v, .int .i64 dk] W (RB W (P0 ++ enc dk.toNat))) := fun W v hv => refNum_all v _ dk (by omega) W hv (by simp only at *; omega)
                have J2 : Hid (∀ W v, Below W0.heap.size W0 W → Lib.HoldsBytes W v (P0 ++ enc dk.toNat) → Calls Try.prog 23 #[v, .agg #[.int .i64 ek, .int .i64 ex, .int .u64 eb, .string es, .slice ea em ec]] W fun e w' => ∃ v', e = .returned v' ∧ Lib.HoldsBytes w' v' ((P0 ++ enc dk.toNat) ++ bytesT n dt) ∧ Below W.heap.size W w') := fun W v hB hv => (rput_calls n _ dt v _ W (HI.out.below hB) hv (by simp only [List.length_append] at *; omega)).mono fun e w' ⟨v', h1, h2, _, h4⟩ => ⟨v', h1, h2 hf2.2.2, h4⟩
                have HPE : Hid (((P0 ++ enc dk.toNat) ++ bytesT n dt) = P0 ++ (enc dk.toNat ++ bytesT n dt)) := by show _ = _; simp only [List.append_assoc]
                generalize ((P0 ++ enc dk.toNat) ++ bytesT n dt) = P2 at J2 HPE
                generalize (P0 ++ enc dk.toNat) = P1 at J1 J2
                clear hf2 zd q1 p0 hP0 HF2 HR31
                go_wp2_with fail
                go_region_held3 (fun w' => w'.cell? ⟨w.heap.size, 16, none⟩ = some (.slice (some ⟨B, o, none⟩) ads.length ac) ∧ w'.cell? ⟨B, o + k * 6, none⟩ = some (.int .i64 dk) ∧ w'.cell? ⟨B, o + k * 6 + 1, none⟩ = some (.int .i64 ek) ∧ w'.cell? ⟨B, o + k * 6 + 2, none⟩ = some (.int .i64 ex) ∧ w'.cell? ⟨B, o + k * 6 + 3, none⟩ = some (.int .u64 eb) ∧ w'.cell? ⟨B, o + k * 6 + 4, none⟩ = some (.string es) ∧ w'.cell? ⟨B, o + k * 6 + 5, none⟩ = some (.slice ea em ec)) (go_keep) (first
                  | (go_at_call 22; refine (J1.out _ _ (by first | exact HB31.out | exact holds_below HB31.out (Below.refl _ _).drew)).mono ?_; rintro e w32 ⟨v32, rfl, o32, hb32⟩; have HB32 : Hid (Lib.HoldsBytes w32 v32 P1) := own_holds o32; have Bg32 : Hid (Below W0.heap.size W0 w32) := bel2 Bg31.out (show Below w31.heap.size w31 w32 from (by first | exact hb32 | exact bel2 (Below.refl _ w31).drew hb32)); have x16_31_32 := cellG x16_31 (show Below w31.heap.size w31 w32 from (by first | exact hb32 | exact bel2 (Below.refl _ w31).drew hb32)); have e0_31_32 := cellG e0_31 (show Below w31.heap.size w31 w32 from (by first | exact hb32 | exact bel2 (Below.refl _ w31).drew hb32)); have e1_31_32 := cellG e1_31 (show Below w31.heap.size w31 w32 from (by first | exact hb32 | exact bel2 (Below.refl _ w31).drew hb32)); have e2_31_32 := cellG e2_31 (show Below w31.heap.size w31 w32 from (by first | exact hb32 | exact bel2 (Below.refl _ w31).drew hb32)); have e3_31_32 := cellG e3_31 (show Below w31.heap.size w31 w32 from (by first | exact hb32 | exact bel2 (Below.refl _ w31).drew hb32)); have e4_31_32 := cellG e4_31 (show Below w31.heap.size w31 w32 from (by first | exact hb32 | exact bel2 (Below.refl _ w31).drew hb32)); have e5_31_32 := cellG e5_31 (show Below w31.heap.size w31 w32 from (by first | exact hb32 | exact bel2 (Below.refl _ w31).drew hb32)); clear hb32 o32)
                  | (go_at_call 23; refine (J2.out _ _ Bg32.out HB32.out).mono ?_; rintro e w33 ⟨v33, rfl, o33, hb33⟩; have HB33 : Hid (Lib.HoldsBytes w33 v33 P2) := o33; have Bg33 : Hid (Below W0.heap.size W0 w33) := bel2 Bg32.out (show Below w32.heap.size w32 w33 from (by first | exact hb33 | exact bel2 (Below.refl _ w32).drew hb33)); have x16_31_33 := cellG x16_31_32 (show Below w32.heap.size w32 w33 from (by first | exact hb33 | exact bel2 (Below.refl _ w32).drew hb33)); have e0_31_33 := cellG e0_31_32 (show Below w32.heap.size w32 w33 from (by first | exact hb33 | exact bel2 (Below.refl _ w32).drew hb33)); have e1_31_33 := cellG e1_31_32 (show Below w32.heap.size w32 w33 from (by first | exact hb33 | exact bel2 (Below.refl _ w32).drew hb33)); have e2_31_33 := cellG e2_31_32 (show Below w32.heap.size w32 w33 from (by first | exact hb33 | exact bel2 (Below.refl _ w32).drew hb33)); have e3_31_33 := cellG e3_31_32 (show Below w32.heap.size w32 w33 from (by first | exact hb33 | exact bel2 (Below.refl _ w32).drew hb33)); have e4_31_33 := cellG e4_31_32 (show Below w32.heap.size w32 w33 from (by first | exact hb33 | exact bel2 (Below.refl _ w32).drew hb33)); have e5_31_33 := cellG e5_31_32 (show Below w32.heap.size w32 w33 from (by first | exact hb33 | exact bel2 (Below.refl _ w32).drew hb33)); clear hb33 o33))
                all_goals clear x16_31 e0_31 e1_31 e2_31 e3_31 e4_31 e5_31 x16_31_32 x16_31_33 e0_31_32 e0_31_33 e1_31_32 e1_31_33 e2_31_32 e2_31_33 e3_31_32 e3_31_33 e4_31_32 e4_31_33 e5_31_32 e5_31_33
                go_wp2_with fail
                refine ⟨⟨k + 1, _, hlt, by rw [HW1.out], (by show _ = _; rw [HTk.out]; exact allB_snoc (a := []) HFA.out HDL.out), ?_, Bg33⟩, meas hlt HW1.out⟩
                show Lib.HoldsBytes _ _ _
                have hh := HB33.out
                rw [HPE.out, HP0.out] at hh
                simp only [List.append_assoc] at hh ⊢
                exact hh
          · obtain rfl : k = ads.length := by omega
            have HAD : allB (fA n) ads = some D := by have := HDL.out; rwa [List.take_length] at this
            have HX : Hid (QR = qR (some (M ++ D))) := YM.out D HAD
            have BBX : Hid (Below w.heap.size w wr) := bel2 B0.out HBX.out
            obtain ⟨p, c, hvp, _⟩ := HBK.out
            obtain ⟨T, hT⟩ : ∃ T, T = (M ++ D).length := ⟨_, rfl⟩
            have HT : Hid (T = (M ++ D).length) := hT
            rw [← hT] at hvp
            subst hvp
            clear hT HAD
            by_cases h0 : T ≤ 16384
            · have d0 : decide ((16384 : Int) < (T : Int)) = false := decide_eq_false (by omega)
              have d1 : decide (16384 < T) = false := decide_eq_false (by omega)
              have HQ : Hid (QR = .ok (M ++ D)) := HX.out.trans (if_pos (by rw [← HT.out]; exact h0))
              clear h0
              go_wp2_with fail
              go_ret2
              rw [HQ.out]
              exact cy_ok BBX.out HBK.out
            · have d0 : decide ((16384 : Int) < (T : Int)) = true := decide_eq_true (by omega)
              have d1 : decide (16384 < T) = true := decide_eq_true (by omega)
              have HQ : Hid (QR = .error 5) := HX.out.trans (if_neg (by rw [← HT.out]; exact h0))
              clear h0
              go_wp2_with fail
              go_ret2
              rw [HQ.out]
              exact cy_error BBX.out 5
end Go.Proofs.Ytjmonkhkcmcfiaa
