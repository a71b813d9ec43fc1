/- The contract of Check. -/
import Derived.Test.YtkaaddahegkmgaaBE
import Derived.Laws.EntriesVeiled
namespace Go.Proofs.Ytkaaddahegkmgaa
open Go.ChangeShapes Go.WideShapes Go.ChangeAt Go.RowKit
/-- What Check's closures make of 'right'. -/
def sC : Ways Bool where
  N := fun r n most => hd r n 0 most
  T := fun r x least most => hd r (x.size : Int) least most
  B := fun r l least most => hd r (l.length : Int) least most
  C := fun r n most => hd r n 0 most
  gN := fun _ _ => True
  gT := fun _ _ => True
  gB := fun _ _ => True
theorem clo_check (lo gr gh : Nat) : Clo lo 76 77 78 79 (.pointer (some ⟨gh, 0, none⟩)) (JC lo gr gh) sC where
  below := fun _ _ _ h hb => h.below hb
  low := fun _ _ h => h.low
  num := fun st W a n most h _ hp => cnum_calls lo gr gh st W a n most h hp
  text := fun st W a x least most h _ hp => ctext_calls lo gr gh st W a x least most h hp
  bytes := fun st W a p n c l least most h _ hp hh => by
    obtain ⟨p', c', he, _⟩ := hh W (Fr.refl _ _)
    cases he
    exact cbytes_calls lo gr gh st W a p l.length c least most h hp
  count := fun st W n most fv h _ => ccount_calls lo gr gh st W n most fv h
theorem gw_check (st : Bool) (t : Wt) : GW sC st t := ⟨trivial, trivial, trivial, trivial, trivial, fun _ _ => trivial⟩
theorem gb_check (st : Bool) (b : Bt) : GB sC st b := ⟨trivial, trivial, trivial, trivial, fun _ _ => gw_check _ _⟩
theorem tl_inj {s t : ByteArray} (h : s.toList = t.toList) : s = t := by
  rw [Lib.toList_data, Lib.toList_data] at h
  cases s
  cases t
  simpa using h
theorem tl_nil {s : ByteArray} (h : s.toList = []) : s = ⟨#[]⟩ := by
  have h2 : s.toList = (⟨#[]⟩ : ByteArray).toList := by rw [h, Lib.toList_data]
  exact tl_inj h2
/-- Does a write tell of both? -/
def mixed (t : Wt) : Bool := if t.fk.size = 0 then t.kp != 0 else t.ta != 0
/-- May a batch be, as Check says it? -/
def mayB (b : Bt) : Bool := byB sC true b && !(b.ws.any mixed)
set_option maxHeartbeats 1000000 in
theorem mixed_calls (t : Wt) (e : Value) (w : World) : Calls Try.prog 82 #[.agg #[.string t.br, .string t.fk, .int .i64 t.kp, .int .i64 t.ta, e]] w fun x w' => x = .returned (.bool (mixed t)) ∧ Below w.heap.size w w' := by
  obtain ⟨br, fk, kp, ta, ev⟩ := t
  dsimp only
  unfold mixed
  dsimp only
  by_cases h0 : fk.size = 0
  · rw [if_pos h0]
    obtain rfl : fk = ⟨#[]⟩ := by
      cases fk with
      | mk d => simp only [ByteArray.size] at h0; rw [Array.eq_empty_of_size_eq_zero h0]
    clear h0
    go_enter Try.func82, Try.ntmps82
    go_wp2
    go_ret
    exact ⟨rfl, bel1 _ _⟩
  · rw [if_neg h0]
    have hs : fk.toList.isEmpty = false := by
      cases he : fk.toList with
      | nil => exact absurd (by rw [tl_nil he]; rfl) h0
      | cons _ _ => rfl
    go_enter Try.func82, Try.ntmps82
    go_wp2
    go_ret
    exact ⟨rfl, bel1 _ _⟩
set_option maxHeartbeats 1000000 in
theorem index_calls (a : Option Addr) (c : Nat) (ws : List Wt) (w : World) (hn : ws.length ≤ 9223372036854775807) (hw : WR w a ws) :
    Calls Try.prog 103 #[.slice a ws.length c, .func (.func 82) #[] #[]] w fun x w' => (∃ i : Int, x = .returned (.int .i64 i) ∧ (decide (0 ≤ i) = ws.any mixed)) ∧ Below w.heap.size w w' := by
  have HW : Hid (WR w a ws) := hw
  have HN : Hid (ws.length ≤ 9223372036854775807) := hn
  clear hw hn
  go_enter Try.func103, Try.ntmps103
  go_wp2_with fail
  go_loopw [8] (fun i wr => ∃ j : Nat, j ≤ ws.length ∧ i = .int .i64 (j : Int) ∧ Hid ((ws.take j).any mixed = false) ∧ Hid (Below w.heap.size w wr)) (fun i _ => ws.length - (intOf i).toNat)
  case atStart => exact ⟨0, Nat.zero_le _, rfl, rfl, Below.refl _ _⟩
  case round =>
    obtain ⟨j, hj, rfl, HE, HB⟩ := hrel
    by_cases hlt : j < ws.length
    · obtain ⟨B, o, e, rfl, h5, hl⟩ := HW.out j _ (List.getElem?_eq_getElem hlt)
      obtain ⟨e0, e1, e2, e3, e4⟩ := h5.below HB.out
      obtain ⟨ea, ec, rfl, _⟩ := hl.shape
      have HW : Hid (wrap64 ((j : Int) + 1) = ((j + 1 : Nat) : Int)) := wr1 hlt HN.out
      have hjl : (j : Int) < (ws.length : Int) := by omega
      have MC : Hid (Calls Try.prog 82 _ wr _) := mixed_calls ws[j] (.slice ea ws[j].ev.length ec) wr
      have HT : Hid ((ws.take (j + 1)).any mixed = ((ws.take j).any mixed || mixed ws[j])) := by
        show _ = _
        rw [List.take_add_one, List.getElem?_eq_getElem hlt, List.any_append]
        simp
      have HA : Hid (mixed ws[j] = true → ws.any mixed = true) := fun h => List.any_eq_true.2 ⟨_, List.getElem_mem hlt, h⟩
      clear h5 hl
      generalize mixed ws[j] = q at MC HT HA
      go_wp2_with fail
      refine MC.out.mono ?_
      rintro x w1 ⟨rfl, hb1⟩
      have HB1 : Hid (Below w.heap.size w w1) := bel2 HB.out hb1
      clear hb1
      cases q with
      | true =>
        go_wp2_with fail
        go_ret
        exact ⟨⟨_, rfl, by rw [HA.out (by trivial)]; exact decide_eq_true (by omega)⟩, HB1.out⟩
      | false =>
        go_wp2_with fail
        exact ⟨⟨j + 1, hlt, by rw [HW.out], (by show _ = _; rw [HT.out, HE.out]; rfl), HB1⟩, meas hlt HW.out⟩
    · obtain rfl : j = ws.length := by omega
      go_wp2_with fail
      go_ret
      refine ⟨⟨-1, rfl, ?_⟩, HB.out⟩
      have := HE.out
      rw [List.take_length] at this
      rw [this]
      rfl
set_option maxHeartbeats 1000000 in
theorem contains_calls (a : Option Addr) (c : Nat) (ws : List Wt) (w : World) (hn : ws.length ≤ 9223372036854775807) (hw : WR w a ws) :
    Calls Try.prog 81 #[.slice a ws.length c, .func (.func 82) #[] #[]] w fun x w' => x = .returned (.bool (ws.any mixed)) ∧ Below w.heap.size w w' := by
  have IC : Hid (Calls Try.prog 103 _ w _) := index_calls a c ws w hn hw
  generalize ws.any mixed = q at IC ⊢
  clear hn hw
  go_enter Try.func81, Try.ntmps81
  go_wp2_with fail
  refine IC.out.mono ?_
  rintro x w1 ⟨⟨i, rfl, hi⟩, hb1⟩
  have HB1 : Hid (Below w.heap.size w w1) := hb1
  clear hb1
  go_wp2_with fail
  go_ret
  exact ⟨rfl, HB1.out⟩
theorem jc_new (w : World) (cs : Array Value) : JC w.heap.size (w.heap.size + 1) (w.heap.size + 1 + 1) true (((w.alloc (.cells cs 29)).alloc (.cells #[.bool true] 4)).alloc (.cells #[.func (.func 75) #[] #[.pointer (some ⟨w.heap.size + 1, 0, none⟩)]] 109)) ∧ Bk (((w.alloc (.cells cs 29)).alloc (.cells #[.bool true] 4)).alloc (.cells #[.func (.func 75) #[] #[.pointer (some ⟨w.heap.size + 1, 0, none⟩)]] 109)) w.heap.size cs 29 ∧ Below w.heap.size w (((w.alloc (.cells cs 29)).alloc (.cells #[.bool true] 4)).alloc (.cells #[.func (.func 75) #[] #[.pointer (some ⟨w.heap.size + 1, 0, none⟩)]] 109)) := by
  have h1 : Bk ((w.alloc (.cells cs 29)).alloc (.cells #[.bool true] 4)) (w.heap.size + 1) #[.bool true] 4 := by
    have := Bk.new (w.alloc (.cells cs 29)) #[.bool true] 4
    simpa using this
  have h2 := Bk.new ((w.alloc (.cells cs 29)).alloc (.cells #[.bool true] 4)) #[.func (.func 75) #[] #[.pointer (some ⟨w.heap.size + 1, 0, none⟩)]] 109
  have hz : ((w.alloc (.cells cs 29)).alloc (.cells #[.bool true] 4)).heap.size = w.heap.size + 1 + 1 := by simp
  rw [hz] at h2
  refine ⟨⟨h1.below (bel1 _ _), h2, by omega, by simp; omega⟩, (Bk.new w cs 29).below (bel2 (bel1 _ _) (bel1 _ _)), bel2 (bel2 (bel1 _ _) (bel1 _ _)) (bel1 _ _)⟩
/-- What Check answers. -/
def ckE (b : Bt) : Int := if mayB b = true then 0 else 1
set_option maxHeartbeats 2000000 in
set_option maxRecDepth 100000 in
theorem check_calls (v : Value) (b : Bt) (w : World) (h : BIs w v b) : Calls Try.prog 49 #[v] w fun x w' => x = .returned (.int .i64 (ckE b)) ∧ Below w.heap.size w w' := by
  obtain ⟨rp, rn, rc, wa, wd, rfl, hr, hn, hw⟩ := h
  have HCO : Hid (∀ W, Below w.heap.size w W → Calls Try.prog 81 #[.slice wa b.ws.length wd, .func (.func 82) #[] #[]] W fun x w' => x = .returned (.bool (b.ws.any mixed)) ∧ Below W.heap.size W w') := fun W hB => contains_calls wa wd b.ws W hn (hw.below hB)
  have HBW : Hid (∀ W gr gh qb, Below w.heap.size w W → Bk W qb #[.string b.key, .int .i64 b.ex, .slice rp rn rc, .slice wa b.ws.length wd] 29 → JC w.heap.size gr gh true W → Calls Try.prog 80 #[.agg #[.func (.func 76) #[] #[.pointer (some ⟨gh, 0, none⟩)], .func (.func 77) #[] #[.pointer (some ⟨gh, 0, none⟩)], .func (.func 78) #[] #[.pointer (some ⟨gh, 0, none⟩)], .func (.func 79) #[] #[.pointer (some ⟨gh, 0, none⟩)]], .pointer (some ⟨qb, 0, none⟩)] W (CloP w.heap.size (JC w.heap.size gr gh) (byB sC true b) W)) := fun W gr gh qb hB hq hJ => batch_walkC w _ (clo_check w.heap.size gr gh) b rp rn rc wa wd hr hn hw W hB qb hq true hJ (gb_check _ _)
  have HM : Hid (mayB b = (byB sC true b && !(b.ws.any mixed))) := rfl
  obtain ⟨ER, hER⟩ : ∃ e, e = ckE b := ⟨_, rfl⟩
  rw [← hER]
  have HER : Hid (ER = if mayB b = true then 0 else 1) := hER
  clear hER
  generalize mayB b = mb at HM HER
  generalize byB sC true b = R at HBW HM
  generalize b.ws.any mixed = X at HCO HM
  clear hr hn hw
  go_enter Try.func49, Try.ntmps49
  go_wp2_with fail
  obtain ⟨j0, q0, bl0⟩ := jc_new w #[.string b.key, .int .i64 b.ex, .slice rp rn rc, .slice wa b.ws.length wd]
  refine (HBW.out _ (w.heap.size + 1) (w.heap.size + 1 + 1) w.heap.size bl0 q0 j0).mono ?_
  rintro e w1 ⟨rfl, hj, hf⟩
  have c0 : w1.cell? ⟨w.heap.size + 1, 0, none⟩ = some (Value.bool R) := hj.right.cell 0
  have c3 : w1.cell? ⟨w.heap.size, 3, none⟩ = some (Value.slice wa b.ws.length wd) := (hf.bk q0 (by decide)).cell 3
  have HB1 : Hid (Below w.heap.size w w1) := bl0.trans hf.1
  have CC : Hid (Calls Try.prog 81 _ w1 _) := HCO.out w1 HB1.out
  clear j0 q0 bl0 hj hf HBW HCO
  cases R with
  | false =>
    have hm : mb = false := HM.out
    subst hm
    obtain rfl : ER = 1 := HER.out
    go_wp2_with fail
    go_ret
    exact ⟨rfl, HB1.out⟩
  | true =>
    go_wp2_with fail
    refine CC.out.mono ?_
    rintro e w2 ⟨rfl, hb2⟩
    have HB2 : Hid (Below w.heap.size w w2) := bel2 HB1.out hb2
    clear hb2
    cases X with
    | false =>
      have hm : mb = true := HM.out
      subst hm
      obtain rfl : ER = 0 := HER.out
      go_wp2_with fail
      go_ret
      exact ⟨rfl, HB2.out⟩
    | true =>
      have hm : mb = false := HM.out
      subst hm
      obtain rfl : ER = 1 := HER.out
      go_wp2_with fail
      go_ret
      exact ⟨rfl, HB2.out⟩
end Go.Proofs.Ytkaaddahegkmgaa
