/- The contract of Decode, and the walk of RowsBack. -/
import Derived.Test.YtkaaddahegkmgaaSX
import Derived.Test.YtkaaddahegkmgaaSY
import Derived.Test.YtkaaddahegkmgaaRR
import Derived.Test.YtkaaddahegkmgaaRV
import Derived.Test.YtkaaddahegkmgaaRT
import Derived.Test.YtkaaddahegkmgaaSW
import Derived.Deep.DeepCutAuto
namespace Go.Proofs.Ytkaaddahegkmgaa
open Go.ChangeShapes Go.WideShapes Go.ChangeAt Go.RowKit
theorem en_zero {l : List UInt8} {e : Int} : en l e = 0 ↔ (l = [] ∧ e = 0) := by
  unfold en
  by_cases h : e = 0
  · subst h
    by_cases hl : l.length = 0
    · simp [List.eq_nil_of_length_eq_zero hl]
    · have hl2 : l ≠ [] := fun e => hl (by rw [e]; rfl)
      simp [hl2]
  · have h1 : (e == 0) = false := by simpa using h
    simp [h]
theorem set1a {w : World} {g t : Nat} {x y : Value} {fz : Nat × Nat} (h : w.heap[g]? = some (.cells #[x, y] t fz)) (a : Value) : (w.setCell ⟨g, 0, none⟩ a).heap[g]? = some (.cells #[a, y] t fz) := by
  simp [World.setCell, Array.getElem?_modify, h]
theorem set1b {w : World} {g t : Nat} {x y : Value} {fz : Nat × Nat} (h : w.heap[g]? = some (.cells #[x, y] t fz)) (a : Value) : (w.setCell ⟨g, 1, none⟩ a).heap[g]? = some (.cells #[x, a] t fz) := by
  simp [World.setCell, Array.getElem?_modify, h]
/-- What Decode answers. -/
def DcP (l : List UInt8) (w : World) (e : Ending) (w' : World) : Prop :=
  (∃ u b r' c, e = .returned (.tuple #[.agg #[u, b], .int .i64 c]) ∧ IsR (fun _ => True) w' (.agg #[u, b]) r' ∧ (c = 0 → rdD l = (r', [], 0)) ∧ (∀ r, rdD l = (r, [], 0) → CanD r → c = 0)) ∧ Below w.heap.size w w'
set_option maxHeartbeats 8000000 in
set_option maxRecDepth 100000 in
theorem decode_calls (v : Value) (l : List UInt8) (w : World) (hv : Lib.HoldsBytes w v l) (hl : l.length ≤ 281474976710656) : Calls Try.prog 21 #[v] w (DcP l w) := by
  obtain ⟨q1, hq1⟩ : ∃ q, rdN 10000 rdRw l 0 = q := ⟨_, rfl⟩
  obtain ⟨q2, hq2⟩ : ∃ q, rdN 10000 rdBn q1.2.1 q1.2.2 = q := ⟨_, rfl⟩
  have hrd : rdD l = (⟨q1.1, q2.1⟩, q2.2) := by
    unfold rdD
    dsimp only
    rw [hq1, hq2]
  unfold DcP
  rw [hrd]
  have HA : Hid (Below w.heap.size w ((w.alloc (.cells #[.slice none 0 0, .slice none 0 0] 25)).alloc (.cells #[.slice none 0 0, .slice none 0 0] 25))) := bel2 (bel1 _ _) (bel1 _ _)
  have O1 := old2 w (.cells #[.slice none 0 0, .slice none 0 0] 25) (.cells #[.slice none 0 0, .slice none 0 0] 25)
  have O2 := new2 w (.cells #[.slice none 0 0, .slice none 0 0] 25) (.cells #[.slice none 0 0, .slice none 0 0] 25)
  have OC : Hid (Calls Try.prog 39 #[v] ((w.alloc (.cells #[.slice none 0 0, .slice none 0 0] 25)).alloc (.cells #[.slice none 0 0, .slice none 0 0] 25)) _) := open_calls v l _ (holds_below hv HA.out) hl
  obtain ⟨l1, e1, hl1⟩ : ∃ l1 e1, q1.2 = (l1, e1) := ⟨_, _, rfl⟩
  obtain ⟨rows, hrows⟩ : ∃ r, q1.1 = r := ⟨_, rfl⟩
  obtain ⟨brs, hbrs⟩ : ∃ r, q2.1 = r := ⟨_, rfl⟩
  obtain ⟨l2, e2, hl2⟩ : ∃ l2 e2, q2.2 = (l2, e2) := ⟨_, _, rfl⟩
  have DA : Hid (∀ W g h, St W g h l 0 → h < W.heap.size → Calls Try.prog 40 #[.pointer (some ⟨g, 0, none⟩)] W fun x w' => ∃ v, x = .returned v ∧ Sl rowE (fun q => W.heap.size ≤ q) w' v rows ∧ St w' g h l1 e1 ∧ KB g W w') := fun W g h s hh => by
    have := decAllRow_calls g h l 0 W s hh
    rw [hq1, hl1, hrows] at this
    exact this
  have DB : Hid (∀ W g h, St W g h l1 e1 → h < W.heap.size → Calls Try.prog 41 #[.pointer (some ⟨g, 0, none⟩)] W fun x w' => ∃ v, x = .returned v ∧ Sl brE (fun q => W.heap.size ≤ q) w' v brs ∧ St w' g h l2 e2 ∧ KB g W w') := fun W g h s hh => by
    have := decAllBr_calls g h l1 e1 W s hh
    rw [hl1] at hq2
    rw [hq2, hl2, hbrs] at this
    exact this
  rw [hrows, hbrs, hl2]
  clear hv hrd hq1 hq2 hl1 hl2 hrows hbrs hl
  go_enter Try.func21, Try.ntmps21
  go_wp2_with fail
  generalize (w.alloc (.cells #[.slice none 0 0, .slice none 0 0] 25)).alloc (.cells #[.slice none 0 0, .slice none 0 0] 25) = w1 at HA O1 O2 OC ⊢
  refine OC.out.mono ?_
  rintro x w2 ⟨g, h, rfl, hh1, hh2, hh3, st2, hb2⟩
  have HZ1 : Hid (w.heap.size + 1 < w1.heap.size) := lt_of_row O2
  have HH : Hid (w1.heap.size ≤ h ∧ h < g) := ⟨hh1, hh2⟩
  have HG2 : Hid (g < w2.heap.size) := hh3
  have HB2 : Hid (Below w.heap.size w w2 ∧ w2.heap[w.heap.size]? = _ ∧ w2.heap[w.heap.size + 1]? = _) := ⟨bel2 HA.out hb2, row_below hb2 O1, row_below hb2 O2⟩
  have D1 : Hid (Calls Try.prog 40 _ w2 _) := DA.out w2 g h st2 (by omega)
  clear hh1 hh2 hh3 st2 hb2 O1 O2 OC DA HA
  go_wp2_with fail
  refine D1.out.mono ?_
  rintro x w3 ⟨V1, rfl, hs3, st3, kb3⟩
  obtain ⟨a1, k1, rfl, _⟩ := hs3.shape
  have hz3 := kb3.2.2.2.1
  have lt2 := lt_of_row HB2.out.2.2
  have p3 : w3.heap[w.heap.size]? = _ := (kb3.2.2.2.2 _ (by omega) (fun e => by have := HH.out; have := HZ1.out; omega)).trans HB2.out.2.1
  have x3 : w3.heap[w.heap.size + 1]? = _ := (kb3.2.2.2.2 _ lt2 (fun e => by have := HH.out; have := HZ1.out; omega)).trans HB2.out.2.2
  have hb3 : Below w.heap.size w w3 := HB2.out.1.trans (kb3.below (by have := HH.out; have := HZ1.out; omega) (by omega))
  have HB3 : Hid (Below w.heap.size w w3 ∧ w3.heap[w.heap.size]? = _ ∧ w3.heap[w.heap.size + 1]? = _ ∧ St w3 g h l1 e1 ∧ Sl rowE (fun q => w2.heap.size ≤ q) w3 (.slice a1 rows.length k1) rows ∧ w.heap.size + 1 < w2.heap.size ∧ w2.heap.size ≤ w3.heap.size) := ⟨hb3, p3, x3, st3, hs3, lt2, hz3⟩
  have y0 := row_cell x3 (j := 0) rfl
  have yf := row_frozen x3
  clear hs3 st3 kb3 hz3 lt2 p3 x3 hb3 D1 HB2
  go_wp2_with fail
  have hPg : w.heap.size + 1 ≠ g := fun e => by have := HH.out; have := HZ1.out; omega
  have hPh : w.heap.size + 1 ≠ h := fun e => by have := HH.out; have := HZ1.out; omega
  have HB4 : Hid (Below w.heap.size w (w3.setCell ⟨w.heap.size + 1, 0, none⟩ (.slice a1 rows.length k1)) ∧ (w3.setCell ⟨w.heap.size + 1, 0, none⟩ (.slice a1 rows.length k1)).heap[w.heap.size]? = _ ∧ (w3.setCell ⟨w.heap.size + 1, 0, none⟩ (.slice a1 rows.length k1)).heap[w.heap.size + 1]? = _ ∧ St (w3.setCell ⟨w.heap.size + 1, 0, none⟩ (.slice a1 rows.length k1)) g h l1 e1 ∧ Sl rowE (fun q => w2.heap.size ≤ q) (w3.setCell ⟨w.heap.size + 1, 0, none⟩ (.slice a1 rows.length k1)) (.slice a1 rows.length k1) rows ∧ w.heap.size + 1 < w2.heap.size ∧ w2.heap.size ≤ (w3.setCell ⟨w.heap.size + 1, 0, none⟩ (.slice a1 rows.length k1)).heap.size) :=
    ⟨below_set HB3.out.1 (by omega), (Below.heap_setCell _ _ _ _ (by simp)).trans HB3.out.2.1, set1a HB3.out.2.2.1 (.slice a1 rows.length k1), HB3.out.2.2.2.1.put hPg hPh, HB3.out.2.2.2.2.1.keep (fun q hq _ => ⟨Below.heap_setCell _ _ _ _ (fun e => by have := HB3.out.2.2.2.2.2.1; have e2 : q = w.heap.size + 1 := e; omega), hq⟩), HB3.out.2.2.2.2.2.1, by simp only [World.setCell, Array.size_modify]; exact HB3.out.2.2.2.2.2.2⟩
  have hhs : h < (w3.setCell ⟨w.heap.size + 1, 0, none⟩ (.slice a1 rows.length k1)).heap.size := by have := HB4.out.2.2.2.1.lt; have := HH.out; omega
  have D2 : Hid (Calls Try.prog 41 _ (w3.setCell ⟨w.heap.size + 1, 0, none⟩ (.slice a1 rows.length k1)) _) := DB.out _ g h HB4.out.2.2.2.1 hhs
  clear y0 yf hPg hPh HB3 DB hhs
  generalize w3.setCell ⟨w.heap.size + 1, 0, none⟩ (.slice a1 rows.length k1) = w4 at HB4 D2 ⊢
  refine D2.out.mono ?_
  rintro x w5 ⟨V2, rfl, hs5, st5, kb5⟩
  obtain ⟨a2, k2, rfl, _⟩ := hs5.shape
  have hz5 := kb5.2.2.2.1
  have hlow := HB4.out.2.2.2.2.2
  have p5 : w5.heap[w.heap.size]? = _ := (kb5.2.2.2.2 _ (by omega) (fun e => by have := HH.out; have := HZ1.out; omega)).trans HB4.out.2.1
  have x5 : w5.heap[w.heap.size + 1]? = _ := (kb5.2.2.2.2 _ (by omega) (fun e => by have := HH.out; have := HZ1.out; omega)).trans HB4.out.2.2.1
  have hb5 : Below w.heap.size w w5 := HB4.out.1.trans (kb5.below (by have := HH.out; have := HZ1.out; omega) (by omega))
  have HB5 : Hid (Below w.heap.size w w5 ∧ w5.heap[w.heap.size]? = _ ∧ w5.heap[w.heap.size + 1]? = _ ∧ St w5 g h l2 e2 ∧ Sl rowE (fun q => w2.heap.size ≤ q) w5 (.slice a1 rows.length k1) rows ∧ Sl brE (fun q => w4.heap.size ≤ q) w5 (.slice a2 brs.length k2) brs ∧ w.heap.size + 1 < w2.heap.size ∧ w2.heap.size ≤ w4.heap.size) :=
    ⟨hb5, p5, x5, st5, HB4.out.2.2.2.2.1.keep (fun q hq hl => ⟨kb5.2.2.2.2 q hl (fun e => by have := HG2.out; omega), hq⟩), hs5, hlow.1, hlow.2⟩
  have y0 := row_cell x5 (j := 1) rfl
  have yf := row_frozen x5
  clear hs5 st5 kb5 hz5 hlow p5 x5 hb5 D2 HB4
  go_wp2_with fail
  have hPg : w.heap.size + 1 ≠ g := fun e => by have := HH.out; have := HZ1.out; omega
  have hPh : w.heap.size + 1 ≠ h := fun e => by have := HH.out; have := HZ1.out; omega
  have HB6 : Hid (Below w.heap.size w (w5.setCell ⟨w.heap.size + 1, 1, none⟩ (.slice a2 brs.length k2)) ∧ (w5.setCell ⟨w.heap.size + 1, 1, none⟩ (.slice a2 brs.length k2)).heap[w.heap.size]? = _ ∧ (w5.setCell ⟨w.heap.size + 1, 1, none⟩ (.slice a2 brs.length k2)).heap[w.heap.size + 1]? = _ ∧ St (w5.setCell ⟨w.heap.size + 1, 1, none⟩ (.slice a2 brs.length k2)) g h l2 e2 ∧ IsR (fun q => w2.heap.size ≤ q) (w5.setCell ⟨w.heap.size + 1, 1, none⟩ (.slice a2 brs.length k2)) (.agg #[(.slice a1 rows.length k1), (.slice a2 brs.length k2)]) ⟨rows, brs⟩ ∧ w.heap.size + 1 < w2.heap.size) :=
    ⟨below_set HB5.out.1 (by omega), (Below.heap_setCell _ _ _ _ (by simp)).trans HB5.out.2.1, set1b HB5.out.2.2.1 _, HB5.out.2.2.2.1.put hPg hPh, ⟨_, _, rfl, HB5.out.2.2.2.2.1.keep (fun q hq _ => ⟨Below.heap_setCell _ _ _ _ (fun e => by have := HB5.out.2.2.2.2.2.2.1; have e2 : q = w.heap.size + 1 := e; omega), hq⟩), HB5.out.2.2.2.2.2.1.keep (fun q hq _ => ⟨Below.heap_setCell _ _ _ _ (fun e => by have := HB5.out.2.2.2.2.2.2; have e2 : q = w.heap.size + 1 := e; omega), by have := HB5.out.2.2.2.2.2.2; omega⟩)⟩, HB5.out.2.2.2.2.2.2.1⟩
  have E1 : Hid (Calls Try.prog 42 _ (w5.setCell ⟨w.heap.size + 1, 1, none⟩ (.slice a2 brs.length k2)) _) := end_st _ g h l2 e2 HB6.out.2.2.2.1
  clear y0 yf hPg hPh HB5
  generalize (w5.setCell ⟨w.heap.size + 1, 1, none⟩ (.slice a2 brs.length k2)) = w6 at HB6 E1 ⊢
  obtain ⟨c, hc⟩ : ∃ c, en l2 e2 = c := ⟨_, rfl⟩
  rw [hc] at E1
  have HC : Hid (c = 0 ↔ (l2 = [] ∧ e2 = 0)) := by rw [← hc]; exact en_zero
  clear hc
  refine E1.out.mono ?_
  rintro x w7 ⟨rfl, rfl⟩
  clear E1
  by_cases hc0 : c = 0
  · subst hc0
    have HE : Hid (l2 = [] ∧ e2 = 0) := HC.out.1 rfl
    have z0 := row_cell HB6.out.2.2.1 (j := 0) rfl
    have z1 := row_cell HB6.out.2.2.1 (j := 1) rfl
    have MC : Hid (Calls Try.prog 43 _ w7 _) := mayBe_calls _ ⟨rows, brs⟩ w7 (HB6.out.2.2.2.2.1.keep fun _ _ _ => ⟨rfl, trivial⟩)
    go_wp2_with fail
    refine MC.out.mono ?_
    rintro x w8 ⟨⟨b, rfl, hb⟩, hb8⟩
    have HM : Hid (CanD ⟨rows, brs⟩ → b = true) := hb
    have s8 := row_below hb8 HB6.out.2.1
    have x8 := row_below hb8 HB6.out.2.2.1
    have HB8 : Hid (Below w.heap.size w w8 ∧ w8.heap[w.heap.size]? = _ ∧ IsR (fun q => w2.heap.size ≤ q) w8 (.agg #[(.slice a1 rows.length k1), (.slice a2 brs.length k2)]) ⟨rows, brs⟩ ∧ w.heap.size + 1 < w2.heap.size) := ⟨bel2 HB6.out.1 hb8, s8, HB6.out.2.2.2.2.1.below hb8, HB6.out.2.2.2.2.2⟩
    have q0 := row_cell s8 (j := 0) rfl
    have q1 := row_cell s8 (j := 1) rfl
    have qf := row_frozen s8
    have z0 := row_cell x8 (j := 0) rfl
    have z1 := row_cell x8 (j := 1) rfl
    clear hb hb8 s8 x8 MC HB6
    cases b with
    | false =>
      clear z0 z1
      go_wp2_with fail
      refine bodyPost_ret (retDb_tmp Try.results21 _ rfl (set2 HB8.out.2.1 _ _)) rfl ?_
      refine ⟨⟨_, _, ⟨[], []⟩, 3, rfl, ⟨_, _, rfl, Sl.nil _ _, Sl.nil _ _⟩, (fun h => absurd h (by decide)), fun r h1 h2 => ?_⟩, below_set (below_set HB8.out.1 (by omega)) (by omega)⟩
      injection h1 with h3 _
      subst h3
      exact absurd (HM.out h2) (by decide)
    | true =>
      go_wp2_with fail
      refine bodyPost_ret (retDb_tmp Try.results21 _ rfl (set2 HB8.out.2.1 _ _)) rfl ?_
      refine ⟨⟨_, _, ⟨rows, brs⟩, 0, rfl, HB8.out.2.2.1.keep (fun q hq _ => ⟨set_other2 w8 _ _ (fun e => by have := HB8.out.2.2.2; omega), trivial⟩), (fun _ => ?_), fun _ _ _ => rfl⟩, below_set (below_set HB8.out.1 (by omega)) (by omega)⟩
      rw [HE.out.1, HE.out.2]
  · have hcb : (c == 0) = false := by simpa using hc0
    have q0 := row_cell HB6.out.2.1 (j := 0) rfl
    have q1 := row_cell HB6.out.2.1 (j := 1) rfl
    have qf := row_frozen HB6.out.2.1
    have HC0 : Hid (c ≠ 0) := hc0
    clear hc0
    go_wp2_with fail
    refine bodyPost_ret (retDb_tmp Try.results21 _ rfl (set2 HB6.out.2.1 _ _)) rfl ?_
    refine ⟨⟨_, _, ⟨[], []⟩, c, rfl, ⟨_, _, rfl, Sl.nil _ _, Sl.nil _ _⟩, (fun h => absurd h HC0.out), fun r h1 h2 => ?_⟩, below_set (below_set HB6.out.1 (by omega)) (by omega)⟩
    injection h1 with _ h3
    injection h3 with h4 h5
    exact absurd (HC.out.2 ⟨h4, h5⟩) HC0.out
end Go.Proofs.Ytkaaddahegkmgaa
namespace Go.Proofs.Ytkaaddahegkmgaa
open Go.ChangeShapes Go.WideShapes Go.ChangeAt Go.RowKit
set_option maxHeartbeats 16000000 in
set_option maxRecDepth 100000 in
theorem back_walk (v0 : Value) (p : Option Addr) (n c0 : Nat) (r : Db) (bl : List UInt8) (w : World) (h0 : IsR (fun _ => True) w v0 r) (h1 : Lib.HoldsBytes w (.slice p n c0) bl) (hz : szDb r ≤ 1048576) (hl : bl.length ≤ 1048576) :
    Calls Try.prog 6 #[v0, .slice p n c0] w fun e w' => e = .returned (.bool true) ∧ Below w.heap.size w w' := by
  obtain ⟨pu, cu, pb, cb, rfl, _, _⟩ := h0.shape
  have HV : Hid (IsR (fun _ => True) w (.agg #[.slice pu r.rows.length cu, .slice pb r.brs.length cb]) r) := h0
  have H1 : Hid (Lib.HoldsBytes w (.slice p n c0) bl ∧ bl.length ≤ 1048576 ∧ szDb r ≤ 1048576) := ⟨h1, hl, hz⟩
  clear h0 h1 hz hl
  have HA : Hid (Below w.heap.size w (w.alloc (.cells #[.slice pu r.rows.length cu, .slice pb r.brs.length cb] 25))) := bel1 _ _
  have O1 : (w.alloc (.cells #[.slice pu r.rows.length cu, .slice pb r.brs.length cb] 25)).heap[w.heap.size]? = some (.cells #[.slice pu r.rows.length cu, .slice pb r.brs.length cb] 25 (0, 0)) := heap_alloc_last _ _
  go_enter Try.func6, Try.ntmps6
  go_upto_region 1 with fail
  generalize w.alloc (.cells #[.slice pu r.rows.length cu, .slice pb r.brs.length cb] 25) = w1 at HA O1 ⊢
  have HO : Hid (w1.heap[w.heap.size]? = _) := O1
  have a0 := row_cell O1 (j := 0) rfl
  have a1 := row_cell O1 (j := 1) rfl
  clear O1
  go_cut [14] (fun t wc => Hid (∃ b, t = .bool b ∧ (b = true → CanD r)) ∧ Hid (Below w1.heap.size w1 wc))
  case first =>
    have FC : Hid (Calls Try.prog 7 _ w1 _) := few_calls _ r none 0 0 [] rfl w1 (HV.out.below HA.out) (Ls.nil _ _ _) (by have h1 := H1.out.2.2; have h2 := evN_sz r; simp only [fewN, wsAll, List.map_nil, List.sum_nil]; omega) (by decide)
    go_wp2_with fail
    refine FC.out.mono ?_
    rintro e w2 ⟨rfl, hb2⟩
    have HB2 : Hid (Below w1.heap.size w1 w2) := hb2
    clear a0 a1 hb2 FC
    by_cases hfew : fewN r [] ≤ 400
    · rw [decide_eq_true hfew]
      have a0 := row_cell (row_below HB2.out HO.out) (j := 0) rfl
      have a1 := row_cell (row_below HB2.out HO.out) (j := 1) rfl
      have CC : Hid (Calls Try.prog 20 _ w2 _) := can_calls _ r w2 (HV.out.below (bel2 HA.out HB2.out))
      clear hfew
      go_wp2_with fail
      refine CC.out.mono ?_
      rintro e w3 ⟨⟨b, rfl, hb⟩, hb3⟩
      have HC : Hid (b = true → CanD r) := hb
      have HB3 : Hid (Below w1.heap.size w1 w3) := bel2 HB2.out hb3
      clear a0 a1 hb hb3 CC
      go_wp2_with fail
      go_meet
      case rel => exact ⟨⟨b, rfl, HC.out⟩, HB3⟩
    · rw [decide_eq_false hfew]
      clear hfew
      go_wp2_with fail
      go_meet
      case rel => exact ⟨⟨false, rfl, fun h => by cases h⟩, HB2⟩
  case rest =>
    obtain ⟨hb, HBc⟩ := hcut
    obtain ⟨b, hb1, hcan⟩ := hb.out
    subst hb1
    have HC : Hid (b = true → CanD r) := hcan
    clear hcan hb a0 a1
    go_upto_if 14 with fail
    go_cut [5, 6] (fun _ _ wx => Hid (Below w1.heap.size w1 wx))
    case first =>
      cases b with
      | false =>
        go_wp2_with fail
        go_meet
        case rel => exact HBc
      | true =>
        have HCN : Hid (CanD r) := HC.out rfl
        have b0 := row_cell (row_below HBc.out HO.out) (j := 0) rfl
        have b1 := row_cell (row_below HBc.out HO.out) (j := 1) rfl
        have EC : Hid (Calls Try.prog 22 _ wc _) := encode_calls _ r wc (HV.out.below (bel2 HA.out HBc.out)) HCN.out.toLimD
        go_wp2_with fail
        refine EC.out.mono ?_
        rintro e w2 ⟨u, rfl, hh2, hb2⟩
        have hue : ∃ pe ne ce, u = .slice pe ne ce := by obtain ⟨pe, ce, hue, _⟩ := hh2; exact ⟨pe, _, ce, hue⟩
        obtain ⟨pe, ne, ce, rfl⟩ := hue
        have HB2 : Hid (Below w1.heap.size w1 w2) := bel2 HBc.out hb2
        have hlen : (encD r).length ≤ 281474976710656 := by
          have h1 := encL_len encRw HCN.out.r0 fun x hx => encRw_len (HCN.out.r1 x hx)
          have h2 := encL_len encBn HCN.out.b0 fun x hx => encBn_len (HCN.out.b1 x hx)
          unfold encD
          rw [List.length_append]
          omega
        have DC : Hid (Calls Try.prog 21 _ w2 _) := decode_calls _ (encD r) w2 hh2 hlen
        clear hh2 hb2 hlen b0 b1 EC
        go_wp2_with fail
        refine DC.out.mono ?_
        rintro e w3 ⟨⟨u3, b3, r3, c3, rfl, hr3, h30, h31⟩, hb3⟩
        have hc3 : c3 = 0 := h31 r (rdD_fwd HCN.out.toLimD) HCN.out
        subst hc3
        have hrr : r3 = r := by
          have h := (h30 rfl).symm.trans (rdD_fwd HCN.out.toLimD)
          injection h
        subst hrr
        obtain ⟨au, ku, ab, kb, he3, _, _⟩ := hr3.shape
        cases he3
        have hb4 := bel1 w3 (.cells #[.slice au r3.rows.length ku, .slice ab r3.brs.length kb] 25)
        have HB4 : Hid (Below w1.heap.size w1 (w3.alloc (.cells #[.slice au r3.rows.length ku, .slice ab r3.brs.length kb] 25))) := bel2 (bel2 HB2.out hb3) hb4
        have n0 := cell_new w3 #[.slice au r3.rows.length ku, .slice ab r3.brs.length kb] 25 0
        have n1 := cell_new w3 #[.slice au r3.rows.length ku, .slice ab r3.brs.length kb] 25 1
        have b0 := row_cell (row_below HB4.out HO.out) (j := 0) rfl
        have b1 := row_cell (row_below HB4.out HO.out) (j := 1) rfl
        have SC : Hid (Calls Try.prog 18 _ (w3.alloc (.cells #[.slice au r3.rows.length ku, .slice ab r3.brs.length kb] 25)) _) := same_calls _ _ _ _ r3 _ (hr3.below hb4) (HV.out.below (bel2 HA.out HB4.out))
        clear hr3 h30 h31 hb3 hb4 DC
        go_wp2_with fail
        refine SC.out.mono ?_
        rintro e w5 ⟨rfl, hb5⟩
        have HB5 : Hid (Below w1.heap.size w1 w5) := bel2 HB4.out hb5
        clear n0 n1 b0 b1 hb5 SC
        go_wp2_with fail
        go_meet
        case rel => exact HB5
    case rest =>
      have HB2 : Hid (Below w.heap.size w wc) := bel2 HA.out hcut.out
      have H2 : Hid (Lib.HoldsBytes wc (.slice p n c0) bl) := holds_below H1.out.1 HB2.out
      have DC : Hid (Calls Try.prog 21 _ wc _) := decode_calls _ bl wc H2.out (by have := H1.out.2.1; omega)
      clear hcut HBc HC
      go_wp2_with fail
      refine DC.out.mono ?_
      rintro e w3 ⟨⟨u3, b3, r3, c3, rfl, hr3, h30, _⟩, hb3⟩
      obtain ⟨au, ku, ab, kb, he3, _, _⟩ := hr3.shape
      cases he3
      have hb4 := bel1 w3 (.cells #[.slice au r3.rows.length ku, .slice ab r3.brs.length kb] 25)
      have HB4 : Hid (Below w.heap.size w (w3.alloc (.cells #[.slice au r3.rows.length ku, .slice ab r3.brs.length kb] 25))) := bel2 (bel2 HB2.out hb3) hb4
      have H4 : Hid (Lib.HoldsBytes (w3.alloc (.cells #[.slice au r3.rows.length ku, .slice ab r3.brs.length kb] 25)) (.slice p n c0) bl) := holds_below H2.out (bel2 hb3 hb4)
      have AW : Hid (∀ W, Calls Try.prog 8 #[] W _) := awake_calls
      by_cases hc0 : c3 = 0
      · subst hc0
        obtain ⟨hbl, hlim⟩ := rdD_inv (h30 rfl)
        have n0 := cell_new w3 #[.slice au r3.rows.length ku, .slice ab r3.brs.length kb] 25 0
        have n1 := cell_new w3 #[.slice au r3.rows.length ku, .slice ab r3.brs.length kb] 25 1
        have EC : Hid (Calls Try.prog 22 _ (w3.alloc (.cells #[.slice au r3.rows.length ku, .slice ab r3.brs.length kb] 25)) _) := encode_calls _ r3 _ (hr3.below hb4) hlim
        rw [← hbl] at EC
        clear hr3 h30 hb3 hb4 DC hbl hlim
        go_wp2_with fail
        refine EC.out.mono ?_
        rintro e w5 ⟨u, rfl, hh5, hb5⟩
        have hue : ∃ pe ne ce, u = .slice pe ne ce := by obtain ⟨pe, ce, hue, _⟩ := hh5; exact ⟨pe, _, ce, hue⟩
        obtain ⟨pe, ne, ce, rfl⟩ := hue
        have HB5 : Hid (Below w.heap.size w w5) := bel2 HB4.out hb5
        have SB : Hid (Calls Try.prog 16 _ w5 _) := sameBytes _ _ bl w5 hh5 (holds_below H4.out hb5)
        clear n0 n1 hh5 hb5 EC
        go_wp2_with fail
        refine SB.out.mono ?_
        rintro e w6 ⟨rfl, hb6⟩
        have HB6 : Hid (Below w.heap.size w w6) := bel2 HB5.out hb6
        clear hb6 SB
        go_wp2_with fail
        refine (AW.out w6).mono ?_
        rintro e w7 ⟨rfl, hb7⟩
        go_wp2_with fail
        go_ret
        exact ⟨rfl, bel2 HB6.out hb7⟩
      · have hcb : (c3 == 0) = false := by simpa using hc0
        have hcn : (c3 != 0) = true := by simpa using hc0
        clear hr3 h30 hb3 hb4 DC
        go_wp2_with fail
        refine (AW.out _).mono ?_
        rintro e w7 ⟨rfl, hb7⟩
        go_wp2_with fail
        go_ret
        exact ⟨rfl, bel2 HB4.out hb7⟩
end Go.Proofs.Ytkaaddahegkmgaa
