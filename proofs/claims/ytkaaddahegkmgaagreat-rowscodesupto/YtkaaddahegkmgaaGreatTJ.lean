/- The contract of Decode, exactly. -/
import Derived.Test.YtkaaddahegkmgaaGreatMS
import Derived.Test.YtkaaddahegkmgaaGreatTI
namespace Go.Proofs.YtkaaddahegkmgaaGreat
open Go.ChangeShapes Go.WideShapes Go.ChangeAt Go.RowKit
/-- What Decode answers. -/
def DeX (d : Db × List UInt8 × Int) (c : Int) (r : Db) : Prop :=
  (en d.2.1 d.2.2 ≠ 0 ∧ c = en d.2.1 d.2.2 ∧ r = ⟨[], []⟩) ∨ (en d.2.1 d.2.2 = 0 ∧ MayD d.1 ∧ c = 0 ∧ r = d.1) ∨ (en d.2.1 d.2.2 = 0 ∧ ¬ MayD d.1 ∧ c = 3 ∧ r = ⟨[], []⟩)
theorem DeX.det {d : Db × List UInt8 × Int} {c c' : Int} {r r' : Db} (h : DeX d c r) (g : DeX d c' r') : c = c' ∧ r = r' := by
  rcases h with ⟨h1, rfl, rfl⟩ | ⟨h1, h2, rfl, rfl⟩ | ⟨h1, h2, rfl, rfl⟩
  · rcases g with ⟨_, rfl, rfl⟩ | ⟨g1, _⟩ | ⟨g1, _⟩
    · exact ⟨rfl, rfl⟩
    · exact absurd g1 h1
    · exact absurd g1 h1
  · rcases g with ⟨g1, _⟩ | ⟨_, _, rfl, rfl⟩ | ⟨_, g2, _⟩
    · exact absurd h1 g1
    · exact ⟨rfl, rfl⟩
    · exact absurd h2 g2
  · rcases g with ⟨g1, _⟩ | ⟨_, g2, _⟩ | ⟨_, _, rfl, rfl⟩
    · exact absurd h1 g1
    · exact absurd g2 h2
    · exact ⟨rfl, rfl⟩
def DcX (l : List UInt8) (w : World) (e : Ending) (w' : World) : Prop :=
  (∃ u b r' c, e = .returned (.tuple #[.agg #[u, b], .int .i64 c]) ∧ IsR (fun _ => True) w' (.agg #[u, b]) r' ∧ DeX (rdD l) c r') ∧ Below w.heap.size w w'
set_option maxHeartbeats 8000000 in
set_option maxRecDepth 100000 in
theorem decodeX (v : Value) (l : List UInt8) (w : World) (hv : Lib.HoldsBytes w v l) (hl : l.length ≤ 281474976710656) : Calls Tryz.prog 6 #[v] w (DcX l w) := by
  obtain ⟨q1, hq1⟩ : ∃ q, rdN 10000 rdRw l 0 = q := ⟨_, rfl⟩
  obtain ⟨q2, hq2⟩ : ∃ q, rdN 10000 rdBn q1.2.1 q1.2.2 = q := ⟨_, rfl⟩
  have hrd : rdD l = (⟨q1.1, q2.1⟩, q2.2) := by
    unfold rdD
    dsimp only
    rw [hq1, hq2]
  unfold DcX
  rw [hrd]
  have HA : Hid (Below w.heap.size w ((w.alloc (.cells #[.slice none 0 0, .slice none 0 0] 25)).alloc (.cells #[.slice none 0 0, .slice none 0 0] 25))) := bel2 (bel1 _ _) (bel1 _ _)
  have O1 := old2 w (.cells #[.slice none 0 0, .slice none 0 0] 25) (.cells #[.slice none 0 0, .slice none 0 0] 25)
  have O2 := new2 w (.cells #[.slice none 0 0, .slice none 0 0] 25) (.cells #[.slice none 0 0, .slice none 0 0] 25)
  have OC : Hid (Calls Tryz.prog 15 #[v] ((w.alloc (.cells #[.slice none 0 0, .slice none 0 0] 25)).alloc (.cells #[.slice none 0 0, .slice none 0 0] 25)) _) := open_calls v l _ (holds_below hv HA.out) hl
  obtain ⟨l1, e1, hl1⟩ : ∃ l1 e1, q1.2 = (l1, e1) := ⟨_, _, rfl⟩
  obtain ⟨rows, hrows⟩ : ∃ r, q1.1 = r := ⟨_, rfl⟩
  obtain ⟨brs, hbrs⟩ : ∃ r, q2.1 = r := ⟨_, rfl⟩
  obtain ⟨l2, e2, hl2⟩ : ∃ l2 e2, q2.2 = (l2, e2) := ⟨_, _, rfl⟩
  have DA : Hid (∀ W g h, St W g h l 0 → h < W.heap.size → Calls Tryz.prog 16 #[.pointer (some ⟨g, 0, none⟩)] W fun x w' => ∃ v, x = .returned v ∧ Sl rowE (fun q => W.heap.size ≤ q) w' v rows ∧ St w' g h l1 e1 ∧ KB g W w') := fun W g h s hh => by
    have := decAllRow_calls g h l 0 W s hh
    rw [hq1, hl1, hrows] at this
    exact this
  have DB : Hid (∀ W g h, St W g h l1 e1 → h < W.heap.size → Calls Tryz.prog 17 #[.pointer (some ⟨g, 0, none⟩)] W fun x w' => ∃ v, x = .returned v ∧ Sl brE (fun q => W.heap.size ≤ q) w' v brs ∧ St w' g h l2 e2 ∧ KB g W w') := fun W g h s hh => by
    have := decAllBr_calls g h l1 e1 W s hh
    rw [hl1] at hq2
    rw [hq2, hl2, hbrs] at this
    exact this
  rw [hrows, hbrs, hl2]
  clear hv hrd hq1 hq2 hl1 hl2 hrows hbrs hl
  go_enter Tryz.func6, Tryz.ntmps6
  go_wp2_with fail
  generalize (w.alloc (.cells #[.slice none 0 0, .slice none 0 0] 25)).alloc (.cells #[.slice none 0 0, .slice none 0 0] 25) = w1 at HA O1 O2 OC ⊢
  refine OC.out.mono ?_
  rintro x w2 ⟨g, h, rfl, hh1, hh2, hh3, st2, hb2⟩
  have HZ1 : Hid (w.heap.size + 1 < w1.heap.size) := lt_of_row O2
  have HH : Hid (w1.heap.size ≤ h ∧ h < g) := ⟨hh1, hh2⟩
  have HG2 : Hid (g < w2.heap.size) := hh3
  have HB2 : Hid (Below w.heap.size w w2 ∧ w2.heap[w.heap.size]? = _ ∧ w2.heap[w.heap.size + 1]? = _) := ⟨bel2 HA.out hb2, row_below hb2 O1, row_below hb2 O2⟩
  have D1 : Hid (Calls Tryz.prog 16 _ w2 _) := DA.out w2 g h st2 (by omega)
  clear hh1 hh2 hh3 st2 hb2 O1 O2 OC DA HA
  go_wp2_with fail
  refine D1.out.mono ?_
  rintro x w3 ⟨V1, rfl, hs3, st3, kb3⟩
  obtain ⟨a1, k1, rfl, _⟩ := hs3.shape
  have hz3 := kb3.2.2.2.1
  have lt2 := lt_of_row HB2.out.2.2
  have p3 : w3.heap[w.heap.size]? = _ := (kb3.2.2.2.2 _ (by omega) (fun e => by have := HH.out; have := HZ1.out; omega)).trans HB2.out.2.1
  have x3 : w3.heap[w.heap.size + 1]? = _ := (kb3.2.2.2.2 _ lt2 (fun e => by have := HH.out; have := HZ1.out; omega)).trans HB2.out.2.2
  have hb3 : Below w.heap.size w w3 := HB2.out.1.trans (kb3.below (by have := HH.out; have := HZ1.out; omega) (by omega))
  have HB3 : Hid (Below w.heap.size w w3 ∧ w3.heap[w.heap.size]? = _ ∧ w3.heap[w.heap.size + 1]? = _ ∧ St w3 g h l1 e1 ∧ Sl rowE (fun q => w2.heap.size ≤ q) w3 (.slice a1 rows.length k1) rows ∧ w.heap.size + 1 < w2.heap.size ∧ w2.heap.size ≤ w3.heap.size) := ⟨hb3, p3, x3, st3, hs3, lt2, hz3⟩
  have y0 := row_cell x3 (j := 0) rfl
  have yf := row_frozen x3
  clear hs3 st3 kb3 hz3 lt2 p3 x3 hb3 D1 HB2
  go_wp2_with fail
  have hPg : w.heap.size + 1 ≠ g := fun e => by have := HH.out; have := HZ1.out; omega
  have hPh : w.heap.size + 1 ≠ h := fun e => by have := HH.out; have := HZ1.out; omega
  have HB4 : Hid (Below w.heap.size w (w3.setCell ⟨w.heap.size + 1, 0, none⟩ (.slice a1 rows.length k1)) ∧ (w3.setCell ⟨w.heap.size + 1, 0, none⟩ (.slice a1 rows.length k1)).heap[w.heap.size]? = _ ∧ (w3.setCell ⟨w.heap.size + 1, 0, none⟩ (.slice a1 rows.length k1)).heap[w.heap.size + 1]? = _ ∧ St (w3.setCell ⟨w.heap.size + 1, 0, none⟩ (.slice a1 rows.length k1)) g h l1 e1 ∧ Sl rowE (fun q => w2.heap.size ≤ q) (w3.setCell ⟨w.heap.size + 1, 0, none⟩ (.slice a1 rows.length k1)) (.slice a1 rows.length k1) rows ∧ w.heap.size + 1 < w2.heap.size ∧ w2.heap.size ≤ (w3.setCell ⟨w.heap.size + 1, 0, none⟩ (.slice a1 rows.length k1)).heap.size) :=
    ⟨below_set HB3.out.1 (by omega), (Below.heap_setCell _ _ _ _ (by simp)).trans HB3.out.2.1, set1a HB3.out.2.2.1 (.slice a1 rows.length k1), HB3.out.2.2.2.1.put hPg hPh, HB3.out.2.2.2.2.1.keep (fun q hq _ => ⟨Below.heap_setCell _ _ _ _ (fun e => by have := HB3.out.2.2.2.2.2.1; have e2 : q = w.heap.size + 1 := e; omega), hq⟩), HB3.out.2.2.2.2.2.1, by simp only [World.setCell, Array.size_modify]; exact HB3.out.2.2.2.2.2.2⟩
  have hhs : h < (w3.setCell ⟨w.heap.size + 1, 0, none⟩ (.slice a1 rows.length k1)).heap.size := by have := HB4.out.2.2.2.1.lt; have := HH.out; omega
  have D2 : Hid (Calls Tryz.prog 17 _ (w3.setCell ⟨w.heap.size + 1, 0, none⟩ (.slice a1 rows.length k1)) _) := DB.out _ g h HB4.out.2.2.2.1 hhs
  clear y0 yf hPg hPh HB3 DB hhs
  generalize w3.setCell ⟨w.heap.size + 1, 0, none⟩ (.slice a1 rows.length k1) = w4 at HB4 D2 ⊢
  refine D2.out.mono ?_
  rintro x w5 ⟨V2, rfl, hs5, st5, kb5⟩
  obtain ⟨a2, k2, rfl, _⟩ := hs5.shape
  have hz5 := kb5.2.2.2.1
  have hlow := HB4.out.2.2.2.2.2
  have p5 : w5.heap[w.heap.size]? = _ := (kb5.2.2.2.2 _ (by omega) (fun e => by have := HH.out; have := HZ1.out; omega)).trans HB4.out.2.1
  have x5 : w5.heap[w.heap.size + 1]? = _ := (kb5.2.2.2.2 _ (by omega) (fun e => by have := HH.out; have := HZ1.out; omega)).trans HB4.out.2.2.1
  have hb5 : Below w.heap.size w w5 := HB4.out.1.trans (kb5.below (by have := HH.out; have := HZ1.out; omega) (by omega))
  have HB5 : Hid (Below w.heap.size w w5 ∧ w5.heap[w.heap.size]? = _ ∧ w5.heap[w.heap.size + 1]? = _ ∧ St w5 g h l2 e2 ∧ Sl rowE (fun q => w2.heap.size ≤ q) w5 (.slice a1 rows.length k1) rows ∧ Sl brE (fun q => w4.heap.size ≤ q) w5 (.slice a2 brs.length k2) brs ∧ w.heap.size + 1 < w2.heap.size ∧ w2.heap.size ≤ w4.heap.size) :=
    ⟨hb5, p5, x5, st5, HB4.out.2.2.2.2.1.keep (fun q hq hl => ⟨kb5.2.2.2.2 q hl (fun e => by have := HG2.out; omega), hq⟩), hs5, hlow.1, hlow.2⟩
  have y0 := row_cell x5 (j := 1) rfl
  have yf := row_frozen x5
  clear hs5 st5 kb5 hz5 hlow p5 x5 hb5 D2 HB4
  go_wp2_with fail
  have hPg : w.heap.size + 1 ≠ g := fun e => by have := HH.out; have := HZ1.out; omega
  have hPh : w.heap.size + 1 ≠ h := fun e => by have := HH.out; have := HZ1.out; omega
  have HB6 : Hid (Below w.heap.size w (w5.setCell ⟨w.heap.size + 1, 1, none⟩ (.slice a2 brs.length k2)) ∧ (w5.setCell ⟨w.heap.size + 1, 1, none⟩ (.slice a2 brs.length k2)).heap[w.heap.size]? = _ ∧ (w5.setCell ⟨w.heap.size + 1, 1, none⟩ (.slice a2 brs.length k2)).heap[w.heap.size + 1]? = _ ∧ St (w5.setCell ⟨w.heap.size + 1, 1, none⟩ (.slice a2 brs.length k2)) g h l2 e2 ∧ IsR (fun q => w2.heap.size ≤ q) (w5.setCell ⟨w.heap.size + 1, 1, none⟩ (.slice a2 brs.length k2)) (.agg #[(.slice a1 rows.length k1), (.slice a2 brs.length k2)]) ⟨rows, brs⟩ ∧ w.heap.size + 1 < w2.heap.size) :=
    ⟨below_set HB5.out.1 (by omega), (Below.heap_setCell _ _ _ _ (by simp)).trans HB5.out.2.1, set1b HB5.out.2.2.1 _, HB5.out.2.2.2.1.put hPg hPh, ⟨_, _, rfl, HB5.out.2.2.2.2.1.keep (fun q hq _ => ⟨Below.heap_setCell _ _ _ _ (fun e => by have := HB5.out.2.2.2.2.2.2.1; have e2 : q = w.heap.size + 1 := e; omega), hq⟩), HB5.out.2.2.2.2.2.1.keep (fun q hq _ => ⟨Below.heap_setCell _ _ _ _ (fun e => by have := HB5.out.2.2.2.2.2.2; have e2 : q = w.heap.size + 1 := e; omega), by have := HB5.out.2.2.2.2.2.2; omega⟩)⟩, HB5.out.2.2.2.2.2.2.1⟩
  have E1 : Hid (Calls Tryz.prog 18 _ (w5.setCell ⟨w.heap.size + 1, 1, none⟩ (.slice a2 brs.length k2)) _) := end_st _ g h l2 e2 HB6.out.2.2.2.1
  clear y0 yf hPg hPh HB5
  generalize (w5.setCell ⟨w.heap.size + 1, 1, none⟩ (.slice a2 brs.length k2)) = w6 at HB6 E1 ⊢
  obtain ⟨c, hc⟩ : ∃ c, en l2 e2 = c := ⟨_, rfl⟩
  rw [hc] at E1
  have HC : Hid (en l2 e2 = c) := hc
  clear hc
  refine E1.out.mono ?_
  rintro x w7 ⟨rfl, rfl⟩
  clear E1
  by_cases hc0 : c = 0
  · subst hc0
    have z0 := row_cell HB6.out.2.2.1 (j := 0) rfl
    have z1 := row_cell HB6.out.2.2.1 (j := 1) rfl
    have MC : Hid (Calls Tryz.prog 19 _ w7 _) := mayBeX _ ⟨rows, brs⟩ w7 (HB6.out.2.2.2.2.1.keep fun _ _ _ => ⟨rfl, trivial⟩)
    go_wp2_with fail
    refine MC.out.mono ?_
    rintro x w8 ⟨⟨b, rfl, hb⟩, hb8⟩
    have HM : Hid (b = true ↔ MayD ⟨rows, brs⟩) := hb
    have s8 := row_below hb8 HB6.out.2.1
    have x8 := row_below hb8 HB6.out.2.2.1
    have HB8 : Hid (Below w.heap.size w w8 ∧ w8.heap[w.heap.size]? = _ ∧ IsR (fun q => w2.heap.size ≤ q) w8 (.agg #[(.slice a1 rows.length k1), (.slice a2 brs.length k2)]) ⟨rows, brs⟩ ∧ w.heap.size + 1 < w2.heap.size) := ⟨bel2 HB6.out.1 hb8, s8, HB6.out.2.2.2.2.1.below hb8, HB6.out.2.2.2.2.2⟩
    have q0 := row_cell s8 (j := 0) rfl
    have q1 := row_cell s8 (j := 1) rfl
    have qf := row_frozen s8
    have z0 := row_cell x8 (j := 0) rfl
    have z1 := row_cell x8 (j := 1) rfl
    clear hb hb8 s8 x8 MC HB6
    cases b with
    | false =>
      clear z0 z1
      go_wp2_with fail
      refine bodyPost_ret (retDb_tmp Tryz.results6 _ rfl (set2 HB8.out.2.1 _ _)) rfl ?_
      refine ⟨⟨_, _, ⟨[], []⟩, 3, rfl, ⟨_, _, rfl, Sl.nil _ _, Sl.nil _ _⟩, .inr (.inr ⟨HC.out, fun h => absurd (HM.out.2 h) (by decide), rfl, rfl⟩)⟩, below_set (below_set HB8.out.1 (by omega)) (by omega)⟩
    | true =>
      go_wp2_with fail
      refine bodyPost_ret (retDb_tmp Tryz.results6 _ rfl (set2 HB8.out.2.1 _ _)) rfl ?_
      refine ⟨⟨_, _, ⟨rows, brs⟩, 0, rfl, HB8.out.2.2.1.keep (fun q hq _ => ⟨set_other2 w8 _ _ (fun e => by have := HB8.out.2.2.2; omega), trivial⟩), .inr (.inl ⟨HC.out, HM.out.1 (by first | rfl | trivial), rfl, rfl⟩)⟩, below_set (below_set HB8.out.1 (by omega)) (by omega)⟩
  · have hcb : (c == 0) = false := by simpa using hc0
    have q0 := row_cell HB6.out.2.1 (j := 0) rfl
    have q1 := row_cell HB6.out.2.1 (j := 1) rfl
    have qf := row_frozen HB6.out.2.1
    have HC0 : Hid (c ≠ 0) := hc0
    clear hc0
    go_wp2_with fail
    refine bodyPost_ret (retDb_tmp Tryz.results6 _ rfl (set2 HB6.out.2.1 _ _)) rfl ?_
    refine ⟨⟨_, _, ⟨[], []⟩, c, rfl, ⟨_, _, rfl, Sl.nil _ _, Sl.nil _ _⟩, .inl ⟨fun h => HC0.out (HC.out.symm.trans h), HC.out.symm, rfl⟩⟩, below_set (below_set HB6.out.1 (by omega)) (by omega)⟩
end Go.Proofs.YtkaaddahegkmgaaGreat
