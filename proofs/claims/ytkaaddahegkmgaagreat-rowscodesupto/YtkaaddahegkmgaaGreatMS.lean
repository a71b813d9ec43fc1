/- SJ, SK, put together. -/
import Derived.Test.YtkaaddahegkmgaaGreatSH
import Derived.Test.YtkaaddahegkmgaaGreatSI
import Derived.Test.YtkaaddahegkmgaaGreatRR
import Derived.Test.YtkaaddahegkmgaaGreatSD
namespace Go.Proofs.YtkaaddahegkmgaaGreat
open Go.ChangeShapes Go.WideShapes Go.ChangeAt Go.RowKit
theorem en_zero {l : List UInt8} {e : Int} : en l e = 0 ↔ (l = [] ∧ e = 0) := by
  unfold en
  by_cases h : e = 0
  · subst h
    by_cases hl : l.length = 0
    · simp [List.eq_nil_of_length_eq_zero hl]
    · have hl2 : l ≠ [] := fun e => hl (by rw [e]; rfl)
      simp [hl2]
  · have h1 : (e == 0) = false := by simpa using h
    simp [h]
theorem set1a {w : World} {g t : Nat} {x y : Value} {fz : Nat × Nat} (h : w.heap[g]? = some (.cells #[x, y] t fz)) (a : Value) : (w.setCell ⟨g, 0, none⟩ a).heap[g]? = some (.cells #[a, y] t fz) := by
  simp [World.setCell, Array.getElem?_modify, h]
theorem set1b {w : World} {g t : Nat} {x y : Value} {fz : Nat × Nat} (h : w.heap[g]? = some (.cells #[x, y] t fz)) (a : Value) : (w.setCell ⟨g, 1, none⟩ a).heap[g]? = some (.cells #[x, a] t fz) := by
  simp [World.setCell, Array.getElem?_modify, h]
/-- What Decode answers. -/
def DcP (l : List UInt8) (w : World) (e : Ending) (w' : World) : Prop :=
  (∃ u b r' c, e = .returned (.tuple #[.agg #[u, b], .int .i64 c]) ∧ IsR (fun _ => True) w' (.agg #[u, b]) r' ∧ (c = 0 → rdD l = (r', [], 0)) ∧ (∀ r, rdD l = (r, [], 0) → CanD r → c = 0)) ∧ Below w.heap.size w w'
set_option maxHeartbeats 8000000 in
set_option maxRecDepth 100000 in
theorem decode_calls (v : Value) (l : List UInt8) (w : World) (hv : Lib.HoldsBytes w v l) (hl : l.length ≤ 281474976710656) : Calls Tryz.prog 6 #[v] w (DcP l w) := by
  obtain ⟨q1, hq1⟩ : ∃ q, rdN 10000 rdRw l 0 = q := ⟨_, rfl⟩
  obtain ⟨q2, hq2⟩ : ∃ q, rdN 10000 rdBn q1.2.1 q1.2.2 = q := ⟨_, rfl⟩
  have hrd : rdD l = (⟨q1.1, q2.1⟩, q2.2) := by
    unfold rdD
    dsimp only
    rw [hq1, hq2]
  unfold DcP
  rw [hrd]
  have HA : Hid (Below w.heap.size w ((w.alloc (.cells #[.slice none 0 0, .slice none 0 0] 25)).alloc (.cells #[.slice none 0 0, .slice none 0 0] 25))) := bel2 (bel1 _ _) (bel1 _ _)
  have O1 := old2 w (.cells #[.slice none 0 0, .slice none 0 0] 25) (.cells #[.slice none 0 0, .slice none 0 0] 25)
  have O2 := new2 w (.cells #[.slice none 0 0, .slice none 0 0] 25) (.cells #[.slice none 0 0, .slice none 0 0] 25)
  have OC : Hid (Calls Tryz.prog 15 #[v] ((w.alloc (.cells #[.slice none 0 0, .slice none 0 0] 25)).alloc (.cells #[.slice none 0 0, .slice none 0 0] 25)) _) := open_calls v l _ (holds_below hv HA.out) hl
  obtain ⟨l1, e1, hl1⟩ : ∃ l1 e1, q1.2 = (l1, e1) := ⟨_, _, rfl⟩
  obtain ⟨rows, hrows⟩ : ∃ r, q1.1 = r := ⟨_, rfl⟩
  obtain ⟨brs, hbrs⟩ : ∃ r, q2.1 = r := ⟨_, rfl⟩
  obtain ⟨l2, e2, hl2⟩ : ∃ l2 e2, q2.2 = (l2, e2) := ⟨_, _, rfl⟩
  have DA : Hid (∀ W g h, St W g h l 0 → h < W.heap.size → Calls Tryz.prog 16 #[.pointer (some ⟨g, 0, none⟩)] W fun x w' => ∃ v, x = .returned v ∧ Sl rowE (fun q => W.heap.size ≤ q) w' v rows ∧ St w' g h l1 e1 ∧ KB g W w') := fun W g h s hh => by
    have := decAllRow_calls g h l 0 W s hh
    rw [hq1, hl1, hrows] at this
    exact this
  have DB : Hid (∀ W g h, St W g h l1 e1 → h < W.heap.size → Calls Tryz.prog 17 #[.pointer (some ⟨g, 0, none⟩)] W fun x w' => ∃ v, x = .returned v ∧ Sl brE (fun q => W.heap.size ≤ q) w' v brs ∧ St w' g h l2 e2 ∧ KB g W w') := fun W g h s hh => by
    have := decAllBr_calls g h l1 e1 W s hh
    rw [hl1] at hq2
    rw [hq2, hl2, hbrs] at this
    exact this
  rw [hrows, hbrs, hl2]
  clear hv hrd hq1 hq2 hl1 hl2 hrows hbrs hl
  go_enter Tryz.func6, Tryz.ntmps6
  go_wp2_with fail
  generalize (w.alloc (.cells #[.slice none 0 0, .slice none 0 0] 25)).alloc (.cells #[.slice none 0 0, .slice none 0 0] 25) = w1 at HA O1 O2 OC ⊢
  refine OC.out.mono ?_
  rintro x w2 ⟨g, h, rfl, hh1, hh2, hh3, st2, hb2⟩
  have HZ1 : Hid (w.heap.size + 1 < w1.heap.size) := lt_of_row O2
  have HH : Hid (w1.heap.size ≤ h ∧ h < g) := ⟨hh1, hh2⟩
  have HG2 : Hid (g < w2.heap.size) := hh3
  have HB2 : Hid (Below w.heap.size w w2 ∧ w2.heap[w.heap.size]? = _ ∧ w2.heap[w.heap.size + 1]? = _) := ⟨bel2 HA.out hb2, row_below hb2 O1, row_below hb2 O2⟩
  have D1 : Hid (Calls Tryz.prog 16 _ w2 _) := DA.out w2 g h st2 (by omega)
  clear hh1 hh2 hh3 st2 hb2 O1 O2 OC DA HA
  go_wp2_with fail
  refine D1.out.mono ?_
  rintro x w3 ⟨V1, rfl, hs3, st3, kb3⟩
  obtain ⟨a1, k1, rfl, _⟩ := hs3.shape
  have hz3 := kb3.2.2.2.1
  have lt2 := lt_of_row HB2.out.2.2
  have p3 : w3.heap[w.heap.size]? = _ := (kb3.2.2.2.2 _ (by omega) (fun e => by have := HH.out; have := HZ1.out; omega)).trans HB2.out.2.1
  have x3 : w3.heap[w.heap.size + 1]? = _ := (kb3.2.2.2.2 _ lt2 (fun e => by have := HH.out; have := HZ1.out; omega)).trans HB2.out.2.2
  have hb3 : Below w.heap.size w w3 := HB2.out.1.trans (kb3.below (by have := HH.out; have := HZ1.out; omega) (by omega))
  have HB3 : Hid (Below w.heap.size w w3 ∧ w3.heap[w.heap.size]? = _ ∧ w3.heap[w.heap.size + 1]? = _ ∧ St w3 g h l1 e1 ∧ Sl rowE (fun q => w2.heap.size ≤ q) w3 (.slice a1 rows.length k1) rows ∧ w.heap.size + 1 < w2.heap.size ∧ w2.heap.size ≤ w3.heap.size) := ⟨hb3, p3, x3, st3, hs3, lt2, hz3⟩
  have y0 := row_cell x3 (j := 0) rfl
  have yf := row_frozen x3
  clear hs3 st3 kb3 hz3 lt2 p3 x3 hb3 D1 HB2
  go_wp2_with fail
  have hPg : w.heap.size + 1 ≠ g := fun e => by have := HH.out; have := HZ1.out; omega
  have hPh : w.heap.size + 1 ≠ h := fun e => by have := HH.out; have := HZ1.out; omega
  have HB4 : Hid (Below w.heap.size w (w3.setCell ⟨w.heap.size + 1, 0, none⟩ (.slice a1 rows.length k1)) ∧ (w3.setCell ⟨w.heap.size + 1, 0, none⟩ (.slice a1 rows.length k1)).heap[w.heap.size]? = _ ∧ (w3.setCell ⟨w.heap.size + 1, 0, none⟩ (.slice a1 rows.length k1)).heap[w.heap.size + 1]? = _ ∧ St (w3.setCell ⟨w.heap.size + 1, 0, none⟩ (.slice a1 rows.length k1)) g h l1 e1 ∧ Sl rowE (fun q => w2.heap.size ≤ q) (w3.setCell ⟨w.heap.size + 1, 0, none⟩ (.slice a1 rows.length k1)) (.slice a1 rows.length k1) rows ∧ w.heap.size + 1 < w2.heap.size ∧ w2.heap.size ≤ (w3.setCell ⟨w.heap.size + 1, 0, none⟩ (.slice a1 rows.length k1)).heap.size) :=
    ⟨below_set HB3.out.1 (by omega), (Below.heap_setCell _ _ _ _ (by simp)).trans HB3.out.2.1, set1a HB3.out.2.2.1 (.slice a1 rows.length k1), HB3.out.2.2.2.1.put hPg hPh, HB3.out.2.2.2.2.1.keep (fun q hq _ => ⟨Below.heap_setCell _ _ _ _ (fun e => by have := HB3.out.2.2.2.2.2.1; have e2 : q = w.heap.size + 1 := e; omega), hq⟩), HB3.out.2.2.2.2.2.1, by simp only [World.setCell, Array.size_modify]; exact HB3.out.2.2.2.2.2.2⟩
  have hhs : h < (w3.setCell ⟨w.heap.size + 1, 0, none⟩ (.slice a1 rows.length k1)).heap.size := by have := HB4.out.2.2.2.1.lt; have := HH.out; omega
  have D2 : Hid (Calls Tryz.prog 17 _ (w3.setCell ⟨w.heap.size + 1, 0, none⟩ (.slice a1 rows.length k1)) _) := DB.out _ g h HB4.out.2.2.2.1 hhs
  clear y0 yf hPg hPh HB3 DB hhs
  generalize w3.setCell ⟨w.heap.size + 1, 0, none⟩ (.slice a1 rows.length k1) = w4 at HB4 D2 ⊢
  refine D2.out.mono ?_
  rintro x w5 ⟨V2, rfl, hs5, st5, kb5⟩
  obtain ⟨a2, k2, rfl, _⟩ := hs5.shape
  have hz5 := kb5.2.2.2.1
  have hlow := HB4.out.2.2.2.2.2
  have p5 : w5.heap[w.heap.size]? = _ := (kb5.2.2.2.2 _ (by omega) (fun e => by have := HH.out; have := HZ1.out; omega)).trans HB4.out.2.1
  have x5 : w5.heap[w.heap.size + 1]? = _ := (kb5.2.2.2.2 _ (by omega) (fun e => by have := HH.out; have := HZ1.out; omega)).trans HB4.out.2.2.1
  have hb5 : Below w.heap.size w w5 := HB4.out.1.trans (kb5.below (by have := HH.out; have := HZ1.out; omega) (by omega))
  have HB5 : Hid (Below w.heap.size w w5 ∧ w5.heap[w.heap.size]? = _ ∧ w5.heap[w.heap.size + 1]? = _ ∧ St w5 g h l2 e2 ∧ Sl rowE (fun q => w2.heap.size ≤ q) w5 (.slice a1 rows.length k1) rows ∧ Sl brE (fun q => w4.heap.size ≤ q) w5 (.slice a2 brs.length k2) brs ∧ w.heap.size + 1 < w2.heap.size ∧ w2.heap.size ≤ w4.heap.size) :=
    ⟨hb5, p5, x5, st5, HB4.out.2.2.2.2.1.keep (fun q hq hl => ⟨kb5.2.2.2.2 q hl (fun e => by have := HG2.out; omega), hq⟩), hs5, hlow.1, hlow.2⟩
  have y0 := row_cell x5 (j := 1) rfl
  have yf := row_frozen x5
  clear hs5 st5 kb5 hz5 hlow p5 x5 hb5 D2 HB4
  go_wp2_with fail
  have hPg : w.heap.size + 1 ≠ g := fun e => by have := HH.out; have := HZ1.out; omega
  have hPh : w.heap.size + 1 ≠ h := fun e => by have := HH.out; have := HZ1.out; omega
  have HB6 : Hid (Below w.heap.size w (w5.setCell ⟨w.heap.size + 1, 1, none⟩ (.slice a2 brs.length k2)) ∧ (w5.setCell ⟨w.heap.size + 1, 1, none⟩ (.slice a2 brs.length k2)).heap[w.heap.size]? = _ ∧ (w5.setCell ⟨w.heap.size + 1, 1, none⟩ (.slice a2 brs.length k2)).heap[w.heap.size + 1]? = _ ∧ St (w5.setCell ⟨w.heap.size + 1, 1, none⟩ (.slice a2 brs.length k2)) g h l2 e2 ∧ IsR (fun q => w2.heap.size ≤ q) (w5.setCell ⟨w.heap.size + 1, 1, none⟩ (.slice a2 brs.length k2)) (.agg #[(.slice a1 rows.length k1), (.slice a2 brs.length k2)]) ⟨rows, brs⟩ ∧ w.heap.size + 1 < w2.heap.size) :=
    ⟨below_set HB5.out.1 (by omega), (Below.heap_setCell _ _ _ _ (by simp)).trans HB5.out.2.1, set1b HB5.out.2.2.1 _, HB5.out.2.2.2.1.put hPg hPh, ⟨_, _, rfl, HB5.out.2.2.2.2.1.keep (fun q hq _ => ⟨Below.heap_setCell _ _ _ _ (fun e => by have := HB5.out.2.2.2.2.2.2.1; have e2 : q = w.heap.size + 1 := e; omega), hq⟩), HB5.out.2.2.2.2.2.1.keep (fun q hq _ => ⟨Below.heap_setCell _ _ _ _ (fun e => by have := HB5.out.2.2.2.2.2.2; have e2 : q = w.heap.size + 1 := e; omega), by have := HB5.out.2.2.2.2.2.2; omega⟩)⟩, HB5.out.2.2.2.2.2.2.1⟩
  have E1 : Hid (Calls Tryz.prog 18 _ (w5.setCell ⟨w.heap.size + 1, 1, none⟩ (.slice a2 brs.length k2)) _) := end_st _ g h l2 e2 HB6.out.2.2.2.1
  clear y0 yf hPg hPh HB5
  generalize (w5.setCell ⟨w.heap.size + 1, 1, none⟩ (.slice a2 brs.length k2)) = w6 at HB6 E1 ⊢
  obtain ⟨c, hc⟩ : ∃ c, en l2 e2 = c := ⟨_, rfl⟩
  rw [hc] at E1
  have HC : Hid (c = 0 ↔ (l2 = [] ∧ e2 = 0)) := by rw [← hc]; exact en_zero
  clear hc
  refine E1.out.mono ?_
  rintro x w7 ⟨rfl, rfl⟩
  clear E1
  by_cases hc0 : c = 0
  · subst hc0
    have HE : Hid (l2 = [] ∧ e2 = 0) := HC.out.1 rfl
    have z0 := row_cell HB6.out.2.2.1 (j := 0) rfl
    have z1 := row_cell HB6.out.2.2.1 (j := 1) rfl
    have MC : Hid (Calls Tryz.prog 19 _ w7 _) := mayBe_calls _ ⟨rows, brs⟩ w7 (HB6.out.2.2.2.2.1.keep fun _ _ _ => ⟨rfl, trivial⟩)
    go_wp2_with fail
    refine MC.out.mono ?_
    rintro x w8 ⟨⟨b, rfl, hb⟩, hb8⟩
    have HM : Hid (CanD ⟨rows, brs⟩ → b = true) := hb
    have s8 := row_below hb8 HB6.out.2.1
    have x8 := row_below hb8 HB6.out.2.2.1
    have HB8 : Hid (Below w.heap.size w w8 ∧ w8.heap[w.heap.size]? = _ ∧ IsR (fun q => w2.heap.size ≤ q) w8 (.agg #[(.slice a1 rows.length k1), (.slice a2 brs.length k2)]) ⟨rows, brs⟩ ∧ w.heap.size + 1 < w2.heap.size) := ⟨bel2 HB6.out.1 hb8, s8, HB6.out.2.2.2.2.1.below hb8, HB6.out.2.2.2.2.2⟩
    have q0 := row_cell s8 (j := 0) rfl
    have q1 := row_cell s8 (j := 1) rfl
    have qf := row_frozen s8
    have z0 := row_cell x8 (j := 0) rfl
    have z1 := row_cell x8 (j := 1) rfl
    clear hb hb8 s8 x8 MC HB6
    cases b with
    | false =>
      clear z0 z1
      go_wp2_with fail
      refine bodyPost_ret (retDb_tmp Tryz.results6 _ rfl (set2 HB8.out.2.1 _ _)) rfl ?_
      refine ⟨⟨_, _, ⟨[], []⟩, 3, rfl, ⟨_, _, rfl, Sl.nil _ _, Sl.nil _ _⟩, (fun h => absurd h (by decide)), fun r h1 h2 => ?_⟩, below_set (below_set HB8.out.1 (by omega)) (by omega)⟩
      injection h1 with h3 _
      subst h3
      exact absurd (HM.out h2) (by decide)
    | true =>
      go_wp2_with fail
      refine bodyPost_ret (retDb_tmp Tryz.results6 _ rfl (set2 HB8.out.2.1 _ _)) rfl ?_
      refine ⟨⟨_, _, ⟨rows, brs⟩, 0, rfl, HB8.out.2.2.1.keep (fun q hq _ => ⟨set_other2 w8 _ _ (fun e => by have := HB8.out.2.2.2; omega), trivial⟩), (fun _ => ?_), fun _ _ _ => rfl⟩, below_set (below_set HB8.out.1 (by omega)) (by omega)⟩
      rw [HE.out.1, HE.out.2]
  · have hcb : (c == 0) = false := by simpa using hc0
    have q0 := row_cell HB6.out.2.1 (j := 0) rfl
    have q1 := row_cell HB6.out.2.1 (j := 1) rfl
    have qf := row_frozen HB6.out.2.1
    have HC0 : Hid (c ≠ 0) := hc0
    clear hc0
    go_wp2_with fail
    refine bodyPost_ret (retDb_tmp Tryz.results6 _ rfl (set2 HB6.out.2.1 _ _)) rfl ?_
    refine ⟨⟨_, _, ⟨[], []⟩, c, rfl, ⟨_, _, rfl, Sl.nil _ _, Sl.nil _ _⟩, (fun h => absurd h HC0.out), fun r h1 h2 => ?_⟩, below_set (below_set HB6.out.1 (by omega)) (by omega)⟩
    injection h1 with _ h3
    injection h3 with h4 h5
    exact absurd (HC.out.2 ⟨h4, h5⟩) HC0.out
end Go.Proofs.YtkaaddahegkmgaaGreat
namespace Go.Proofs.YtkaaddahegkmgaaGreat
open Go.ChangeShapes Go.WideShapes Go.ChangeAt Go.RowKit
/-- Whether a key may stand behind another. -/
def kOk (k last : ByteArray) (f : Bool) : Bool := (decide (1 ≤ k.size) && decide (k.size ≤ 64)) && (f || above k last)
theorem kOk_of {k last : ByteArray} {f : Bool} (h : kOk k last f = true) : 1 ≤ k.size ∧ k.size ≤ 64 ∧ (f = false → above k last = true) := by
  unfold kOk at h
  simp only [Bool.and_eq_true, decide_eq_true_eq, Bool.or_eq_true] at h
  refine ⟨h.1.1, h.1.2, fun hf => ?_⟩
  rcases h.2 with h2 | h2
  · rw [hf] at h2; cases h2
  · exact h2
set_option maxRecDepth 100000 in
theorem key_calls (k last : ByteArray) (f : Bool) (w : World) : Calls Tryz.prog 55 #[.string k, .string last, .bool f] w fun e w' => e = .returned (.bool (kOk k last f)) ∧ w' = w := by
  have hab : (!Op.bytesLess k.toList last.toList && !(k.toList == last.toList)) = above k last := rfl
  by_cases h1 : 1 ≤ k.size
  · have h1' : (1 : Int) ≤ (k.size : Int) := by omega
    by_cases h2 : k.size ≤ 64
    · have h2' : (k.size : Int) ≤ 64 := by omega
      have e1 : kOk k last true = true := by unfold kOk; rw [decide_eq_true h1, decide_eq_true h2]; rfl
      have e2 : kOk k last false = above k last := by unfold kOk; rw [decide_eq_true h1, decide_eq_true h2]; rfl
      cases f with
      | true =>
        rw [e1]
        go_enter Tryz.func55, Tryz.ntmps55
        go_wp2_with fail
        go_ret
        exact ⟨rfl, rfl⟩
      | false =>
        rw [e2]
        go_enter Tryz.func55, Tryz.ntmps55
        go_wp2_with fail
        go_ret
        exact ⟨rfl, rfl⟩
    · have h2' : ¬ (k.size : Int) ≤ 64 := by omega
      have e1 : kOk k last f = false := by unfold kOk; rw [decide_eq_true h1, decide_eq_false h2]; rfl
      rw [e1]
      go_enter Tryz.func55, Tryz.ntmps55
      go_wp2_with fail
      go_ret
      exact ⟨rfl, rfl⟩
  · have h1' : ¬ (1 : Int) ≤ (k.size : Int) := by omega
    have e1 : kOk k last f = false := by unfold kOk; rw [decide_eq_false h1]; rfl
    rw [e1]
    go_enter Tryz.func55, Tryz.ntmps55
    go_wp2_with fail
    go_ret
    exact ⟨rfl, rfl⟩
/-- The first j keys are such, and the last of them is k (of none: whatever). -/
structure UpTo (ks : List ByteArray) (j : Nat) (k : ByteArray) : Prop where
  pos : ∀ i x, i < j → ks[i]? = some x → 1 ≤ x.size
  up : ∀ i x y, i + 1 < j → ks[i]? = some x → ks[i + 1]? = some y → above y x = true
  last : ∀ i, j = i + 1 → ks[i]? = some k
theorem UpTo.zero (ks : List ByteArray) (k : ByteArray) : UpTo ks 0 k := ⟨fun _ _ h => absurd h (Nat.not_lt_zero _), fun _ _ _ h => absurd h (Nat.not_lt_zero _), fun _ h => by omega⟩
theorem UpTo.more {ks : List ByteArray} {j : Nat} {k y : ByteArray} (h : UpTo ks j k) (hy : ks[j]? = some y) (hk : kOk y k ((j : Int) == 0) = true) : UpTo ks (j + 1) y := by
  obtain ⟨h1, _, h3⟩ := kOk_of hk
  refine ⟨fun i x hi hx => ?_, fun i x z hi hx hz => ?_, fun i e => ?_⟩
  · by_cases he : i = j
    · subst he
      rw [hy] at hx
      cases hx
      exact h1
    · exact h.pos i x (by omega) hx
  · by_cases he : i + 1 = j
    · subst he
      rw [hy] at hz
      cases hz
      have hl := h.last i rfl
      rw [hl] at hx
      cases hx
      exact h3 (by simp; omega)
    · exact h.up i x z (by omega) hx hz
  · obtain rfl : i = j := by omega
    exact hy
theorem UpTo.rise {ks : List ByteArray} {k : ByteArray} (h : UpTo ks ks.length k) : RiseK ks := by
  refine ⟨fun x hx => ?_, fun i x y hx hy => h.up i x y (List.getElem?_eq_some_iff.1 hy).1 hx hy⟩
  obtain ⟨i, hi⟩ := List.getElem?_of_mem hx
  exact h.pos i x (List.getElem?_eq_some_iff.1 hi).1 hi
/-- What Can answers. -/
def CaP (r : Db) (w : World) (e : Ending) (w' : World) : Prop := (∃ b, e = .returned (.bool b) ∧ (b = true → CanD r)) ∧ Below w.heap.size w w'
theorem cap_no {r : Db} {w w' : World} (hb : Below w.heap.size w w') : CaP r w (.returned (.bool false)) w' := ⟨⟨false, rfl, fun h => (by cases h)⟩, hb⟩
set_option maxHeartbeats 16000000 in
set_option maxRecDepth 100000 in
theorem can_calls (v : Value) (r : Db) (w : World) (hv : IsR (fun _ => True) w v r) : Calls Tryz.prog 25 #[v] w (CaP r w) := by
  obtain ⟨pu, cu, pb, cb, rfl, hu, hb⟩ := hv.shape
  obtain ⟨_, _, e1, x1, x2, hls1⟩ := hu
  cases e1
  obtain ⟨_, _, e2, y1, y2, hls2⟩ := hb
  cases e2
  have HU : Hid (Ls rowE (fun _ => True) w pu r.rows) := hls1
  have HV : Hid (Ls brE (fun _ => True) w pb r.brs) := hls2
  obtain ⟨R, hR⟩ : ∃ R, R = r.rows.length := ⟨_, rfl⟩
  obtain ⟨K, hK⟩ : ∃ K, K = r.brs.length := ⟨_, rfl⟩
  have HRK : Hid (R = r.rows.length ∧ K = r.brs.length ∧ R ≤ 9223372036854775807 ∧ K ≤ 9223372036854775807) := ⟨hR, hK, by omega, by omega⟩
  rw [← hR, ← hK]
  have HA : Hid (Below w.heap.size w (w.alloc (.cells #[.slice pu R cu, .slice pb K cb] 25))) := bel1 _ _
  have O1 : (w.alloc (.cells #[.slice pu R cu, .slice pb K cb] 25)).heap[w.heap.size]? = some (.cells #[.slice pu R cu, .slice pb K cb] 25 (0, 0)) := heap_alloc_last _ _
  have a0 := cell_new w #[.slice pu R cu, .slice pb K cb] 25 0
  have a1 := cell_new w #[.slice pu R cu, .slice pb K cb] 25 1
  clear hls1 hls2 x1 x2 y1 y2 hv hR hK
  by_cases hb1 : R ≤ 10000
  · by_cases hb2 : K ≤ 10000
    · have c1 : ¬ (10000 : Int) < (R : Int) := by omega
      have c2 : ¬ (10000 : Int) < (K : Int) := by omega
      have HBB : Hid (R ≤ 10000 ∧ K ≤ 10000) := ⟨hb1, hb2⟩
      clear hb1 hb2
      go_enter Tryz.func25, Tryz.ntmps25
      go_wp2_with fail
      generalize w.alloc (.cells #[.slice pu R cu, .slice pb K cb] 25) = w1 at HA O1 a0 a1 ⊢
      have HO : Hid (w1.heap[w.heap.size]? = _) := O1
      clear O1 a0 a1 c1 c2
      go_loopw [3, 4, 5] (fun last i _ wr => ∃ (j : Nat) (k : ByteArray), j ≤ R ∧ i = .int .i64 (j : Int) ∧ last = .string k ∧ Hid (UpTo (r.rows.map fun x => x.key) j k) ∧ Hid (∀ i x, i < j → r.rows[i]? = some x → LimR x ∧ 1 ≤ x.ver) ∧ Hid (Below w1.heap.size w1 wr)) (fun _ i _ _ => R - (intOf i).toNat)
      case atStart => exact ⟨0, _, Nat.zero_le _, rfl, rfl, UpTo.zero _ _, fun _ _ h => absurd h (Nat.not_lt_zero _), Below.refl _ _⟩
      case round =>
        obtain ⟨j, k, hj, rfl, rfl, HP, HI, HB⟩ := hrel
        have a0 := row_cell (row_below HB.out HO.out) (j := 0) rfl
        by_cases hlt : j < R
        · have hjl : (j : Int) < (R : Int) := by omega
          obtain ⟨x, hx⟩ : ∃ y, r.rows[j]? = some y := ⟨_, List.getElem?_eq_getElem (by have := HRK.out.1; omega)⟩
          have HX : Hid (r.rows[j]? = some x) := hx
          have HY : Hid ((r.rows.map fun x => x.key)[j]? = some x.key) := by show _ = _; rw [List.getElem?_map, hx]; rfl
          have HBw : Hid (Below w.heap.size w wr) := bel2 HA.out HB.out
          obtain ⟨B, o, vb, rfl, _, k0, k1, k2, hvb⟩ := (HU.out.below HBw.out).row j x hx
          obtain ⟨pv, cv, rfl, _⟩ := hvb.shape
          have HW : Hid (wrap64 ((j : Int) + 1) = ((j + 1 : Nat) : Int)) := wr1 hlt HRK.out.2.2.1
          have hbn := bel1 wr (.cells #[.string x.key, .int .i64 x.ver, .slice pv x.row.length cv] 47)
          have HBn : Hid (Below w1.heap.size w1 (wr.alloc (.cells #[.string x.key, .int .i64 x.ver, .slice pv x.row.length cv] 47))) := bel2 HB.out hbn
          have n0 := cell_new wr #[.string x.key, .int .i64 x.ver, .slice pv x.row.length cv] 47 0
          have n1 := cell_new wr #[.string x.key, .int .i64 x.ver, .slice pv x.row.length cv] 47 1
          have n2 := cell_new wr #[.string x.key, .int .i64 x.ver, .slice pv x.row.length cv] 47 2
          have KC : Hid (Calls Tryz.prog 55 _ (wr.alloc (.cells #[.string x.key, .int .i64 x.ver, .slice pv x.row.length cv] 47)) _) := key_calls x.key k ((j : Int) == 0) _
          obtain ⟨L, hL⟩ : ∃ L, L = x.row.length := ⟨_, rfl⟩
          have HL : Hid (L = x.row.length) := hL
          rw [← hL] at n0 n1 n2 k2 HBn KC
          clear hx hvb hbn hj hL
          go_wp2_with fail
          refine KC.out.mono ?_
          rintro e w2 ⟨rfl, rfl⟩
          clear KC k0 k1 k2
          cases hk : kOk x.key k ((j : Int) == 0) with
          | false =>
            go_wp2_with fail
            go_ret
            exact cap_no (bel2 HA.out HBn.out)
          | true =>
            have HP2 : Hid (UpTo (r.rows.map fun x => x.key) (j + 1) x.key) := HP.out.more HY.out hk
            have HKO : Hid (x.key.size ≤ 64) := (kOk_of hk).2.1
            clear hk
            by_cases hv1 : x.ver < 1
            · go_wp2_with fail
              go_ret
              exact cap_no (bel2 HA.out HBn.out)
            · by_cases hv2 : 2147483648 < x.ver
              · go_wp2_with fail
                go_ret
                exact cap_no (bel2 HA.out HBn.out)
              · by_cases hv3 : (524288 : Int) < (L : Int)
                · go_wp2_with fail
                  go_ret
                  exact cap_no (bel2 HA.out HBn.out)
                · have HI2 : Hid (∀ i y, i < j + 1 → r.rows[i]? = some y → LimR y ∧ 1 ≤ y.ver) := fun i y hi hy => by
                    by_cases he : i = j
                    · subst he
                      rw [HX.out] at hy
                      cases hy
                      have hl := HL.out
                      have hk := HKO.out
                      rw [size_data] at hk
                      exact ⟨⟨hk, by omega, by omega, by omega⟩, by omega⟩
                    · exact HI.out i y (by omega) hy
                  go_wp2_with fail
                  exact ⟨⟨j + 1, _, hlt, by first | rfl | rw [HW.out], rfl, HP2, HI2, HBn⟩, meas hlt (by first | rfl | exact HW.out)⟩
        · obtain rfl : j = R := by omega
          go_wp2_with fail
          clear a0
          have HKR : Hid (RiseK (r.rows.map fun x => x.key)) := by
            have h := HP.out
            have hl : j = (r.rows.map fun x => x.key).length := by rw [List.length_map]; exact HRK.out.1
            rw [hl] at h
            exact h.rise
          have HRR : Hid (∀ x ∈ r.rows, LimR x ∧ 1 ≤ x.ver) := fun x hx => by
            obtain ⟨i, hi⟩ := List.getElem?_of_mem hx
            exact HI.out i x (by have := (List.getElem?_eq_some_iff.1 hi).1; have := HRK.out.1; omega) hi
          clear hj HP HI
          go_loopw [3, 6, 7, 8] (fun last i _ _ wr2 => ∃ (q : Nat) (k : ByteArray), q ≤ K ∧ i = .int .i64 (q : Int) ∧ last = .string k ∧ Hid (UpTo (r.brs.map fun x => x.key) q k) ∧ Hid (∀ i x, i < q → r.brs[i]? = some x → LimB x ∧ ∀ e ∈ x.ev, 1 ≤ e.length) ∧ Hid (Below w1.heap.size w1 wr2)) (fun _ i _ _ _ => K - (intOf i).toNat)
          case atStart => exact ⟨0, _, Nat.zero_le _, rfl, rfl, UpTo.zero _ _, fun _ _ h => absurd h (Nat.not_lt_zero _), HB⟩
          case round =>
            obtain ⟨q, kq, hq, rfl, rfl, HP, HI, HB2⟩ := hrel
            have a1 := row_cell (row_below HB2.out HO.out) (j := 1) rfl
            by_cases hlt2 : q < K
            · have hql : (q : Int) < (K : Int) := by omega
              obtain ⟨x, hx⟩ : ∃ y, r.brs[q]? = some y := ⟨_, List.getElem?_eq_getElem (by have := HRK.out.2.1; omega)⟩
              have HX : Hid (r.brs[q]? = some x) := hx
              have HY : Hid ((r.brs.map fun x => x.key)[q]? = some x.key) := by show _ = _; rw [List.getElem?_map, hx]; rfl
              have HBw : Hid (Below w.heap.size w wr) := bel2 HA.out HB2.out
              obtain ⟨B, o, vb, rfl, _, k0, k1, hvb⟩ := (HV.out.below HBw.out).br q x hx
              obtain ⟨pv, cv, rfl, hv1, hv2, hvl⟩ := hvb
              have HW : Hid (wrap64 ((q : Int) + 1) = ((q + 1 : Nat) : Int)) := wr1 hlt2 HRK.out.2.2.2
              obtain ⟨L, hL⟩ : ∃ L, L = x.ev.length := ⟨_, rfl⟩
              have HL : Hid (L = x.ev.length ∧ L ≤ 9223372036854775807) := ⟨hL, by omega⟩
              rw [← hL] at k1
              have hbn := bel1 wr (.cells #[.string x.key, .slice pv L cv] 39)
              have HBn : Hid (Below w1.heap.size w1 (wr.alloc (.cells #[.string x.key, .slice pv L cv] 39))) := bel2 HB2.out hbn
              have HEV : Hid (Ls evE (fun _ => True) (wr.alloc (.cells #[.string x.key, .slice pv L cv] 39)) pv x.ev) := hvl.below hbn
              have n0 := cell_new wr #[.string x.key, .slice pv L cv] 39 0
              have n1 := cell_new wr #[.string x.key, .slice pv L cv] 39 1
              have N1 : Hid (_ = _) := n1
              have N0 : Hid (_ = _) := n0
              have KC : Hid (Calls Tryz.prog 55 _ (wr.alloc (.cells #[.string x.key, .slice pv L cv] 39)) _) := key_calls x.key kq ((q : Int) == 0) _
              clear hx hvl hbn hq hL hv1 hv2
              go_wp2_with fail
              refine KC.out.mono ?_
              rintro e w2 ⟨rfl, rfl⟩
              clear KC k0 k1
              cases hk : kOk x.key kq ((q : Int) == 0) with
              | false =>
                go_wp2_with fail
                go_ret
                exact cap_no (bel2 HA.out HBn.out)
              | true =>
                have HP2 : Hid (UpTo (r.brs.map fun x => x.key) (q + 1) x.key) := HP.out.more HY.out hk
                have HKO : Hid (x.key.size ≤ 64) := (kOk_of hk).2.1
                clear hk
                by_cases hv1 : (120 : Int) < (L : Int)
                · go_wp2_with fail
                  go_ret
                  exact cap_no (bel2 HA.out HBn.out)
                · have HV1 : Hid (L ≤ 120) := by show _ ≤ _; omega
                  go_wp2_with fail
                  clear hv1 n0 n1 a1
                  generalize hG : wr.heap.size = G at HBn HEV N1 N0 ⊢
                  generalize wr.alloc (.cells #[.string x.key, .slice pv L cv] 39) = w3 at HBn HEV N1 N0 ⊢
                  clear hG
                  go_loopw [8] (fun i wr3 => ∃ m : Nat, m ≤ L ∧ i = .int .i64 (m : Int) ∧ wr3 = w3 ∧ Hid (∀ i e, i < m → x.ev[i]? = some e → 1 ≤ e.length ∧ e.length ≤ 4096)) (fun i _ => L - (intOf i).toNat)
                  case atStart => exact ⟨0, Nat.zero_le _, rfl, rfl, fun _ _ h => absurd h (Nat.not_lt_zero _)⟩
                  case round =>
                    obtain ⟨m, hm, rfl, rfl, HE⟩ := hrel
                    have n1 := N1.out
                    by_cases hlt3 : m < L
                    · have hml : (m : Int) < (L : Int) := by omega
                      obtain ⟨y, hy⟩ : ∃ y, x.ev[m]? = some y := ⟨_, List.getElem?_eq_getElem (by have := HL.out.1; omega)⟩
                      have HYY : Hid (x.ev[m]? = some y) := hy
                      obtain ⟨B', o', ve, rfl, _, e0, hve⟩ := HEV.out.ev m y hy
                      obtain ⟨pe, ce, rfl, _⟩ := hve.shape
                      have HW3 : Hid (wrap64 ((m : Int) + 1) = ((m + 1 : Nat) : Int)) := wr1 hlt3 HL.out.2
                      obtain ⟨M, hM⟩ : ∃ M, M = y.length := ⟨_, rfl⟩
                      have HM : Hid (M = y.length) := hM
                      rw [← hM] at e0
                      clear hy hve hm hM
                      by_cases hz1 : (M : Int) < 1
                      · go_wp2_with fail
                        go_ret
                        exact cap_no (bel2 HA.out HBn.out)
                      · by_cases hz2 : (4096 : Int) < (M : Int)
                        · go_wp2_with fail
                          go_ret
                          exact cap_no (bel2 HA.out HBn.out)
                        · have HE2 : Hid (∀ i e, i < m + 1 → x.ev[i]? = some e → 1 ≤ e.length ∧ e.length ≤ 4096) := fun i e hi he => by
                            by_cases hh : i = m
                            · subst hh
                              rw [HYY.out] at he
                              cases he
                              have := HM.out
                              omega
                            · exact HE.out i e (by omega) he
                          go_wp2_with fail
                          exact ⟨⟨m + 1, hlt3, by first | rfl | rw [HW3.out], by first | trivial | rfl, HE2⟩, meas hlt3 (by first | rfl | exact HW3.out)⟩
                    · obtain rfl : m = L := by omega
                      have m0 := N0.out
                      have n0 : Hid (∀ e ∈ x.ev, 1 ≤ e.length ∧ e.length ≤ 4096) := fun e he => by
                        obtain ⟨i, hi⟩ := List.getElem?_of_mem he
                        exact HE.out i e (by have := (List.getElem?_eq_some_iff.1 hi).1; have := HL.out.1; omega) hi
                      have HI2 : Hid (∀ i y, i < q + 1 → r.brs[i]? = some y → LimB y ∧ ∀ e ∈ y.ev, 1 ≤ e.length) := fun i y hi hy => by
                        by_cases he : i = q
                        · subst he
                          rw [HX.out] at hy
                          cases hy
                          have hk := HKO.out
                          rw [size_data] at hk
                          exact ⟨⟨hk, by rw [← HL.out.1]; exact HV1.out, fun e he => (n0.out e he).2⟩, fun e he => (n0.out e he).1⟩
                        · exact HI.out i y (by omega) hy
                      go_wp2_with fail
                      exact ⟨⟨q + 1, _, hlt2, by first | rfl | rw [HW.out], rfl, HP2, HI2, HBn⟩, meas hlt2 (by first | rfl | exact HW.out)⟩
            · obtain rfl : q = K := by omega
              go_wp2_with fail
              go_ret
              refine ⟨⟨true, rfl, fun _ => ?_⟩, bel2 HA.out HB2.out⟩
              have hk1 : UpTo (r.brs.map fun x => x.key) (r.brs.map fun x => x.key).length kq := by
                rw [List.length_map, ← HRK.out.2.1]
                exact HP.out
              have hall : ∀ x ∈ r.brs, LimB x ∧ ∀ e ∈ x.ev, 1 ≤ e.length := fun x hx => by
                obtain ⟨i, hi⟩ := List.getElem?_of_mem hx
                exact HI.out i x (by have := (List.getElem?_eq_some_iff.1 hi).1; have := HRK.out.2.1; omega) hi
              exact ⟨⟨by rw [← HRK.out.1]; exact HBB.out.1, fun x hx => (HRR.out x hx).1, by rw [← HRK.out.2.1]; exact HBB.out.2, fun x hx => (hall x hx).1⟩, HKR.out, hk1.rise, fun x hx => (HRR.out x hx).2, fun x hx => (hall x hx).2⟩
    · have c1 : ¬ (10000 : Int) < (R : Int) := by omega
      have c2 : (10000 : Int) < (K : Int) := by omega
      go_enter Tryz.func25, Tryz.ntmps25
      go_wp2_with fail
      go_ret
      exact cap_no HA.out
  · have c1 : (10000 : Int) < (R : Int) := by omega
    go_enter Tryz.func25, Tryz.ntmps25
    go_wp2_with fail
    go_ret
    exact cap_no HA.out
end Go.Proofs.YtkaaddahegkmgaaGreat
