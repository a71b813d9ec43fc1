/- The walk of batch, of the closures of Decode. -/
import Derived.Test.YtomkoajhjijplaaDC
namespace Go.Proofs.Ytomkoajhjijplaa
open Go.ChangeShapes Go.WideShapes Go.ChangeAt Go.RowKit
/-- What reading so many writes leaves; what reading a batch leaves. -/
def rdWs : Nat → List UInt8 → Int → List Wt × List UInt8 × Int
  | 0, l, e => ([], l, e)
  | n + 1, l, e => ((rdW l e).1 :: (rdWs n (rdW l e).2.1 (rdW l e).2.2).1, (rdWs n (rdW l e).2.1 (rdW l e).2.2).2)
def q1 (l : List UInt8) (e : Int) := sText 64 l e
def q2 (l : List UInt8) (e : Int) := sNum 2147483648 (q1 l e).2.1 (q1 l e).2.2
def q3 (l : List UInt8) (e : Int) := sText 524288 (q2 l e).2.1 (q2 l e).2.2
def q4 (l : List UInt8) (e : Int) := sNum 4 (q3 l e).2.1 (q3 l e).2.2
def rdB (l : List UInt8) (e : Int) : Bt × List UInt8 × Int :=
  (⟨str (q1 l e).1, (q2 l e).1, (q3 l e).1, (rdWs (q4 l e).1.toNat (q4 l e).2.1 (q4 l e).2.2).1⟩, (rdWs (q4 l e).1.toNat (q4 l e).2.1 (q4 l e).2.2).2)
theorem rdWs_len : ∀ (n : Nat) (l : List UInt8) (e : Int), (rdWs n l e).1.length = n
  | 0, l, e => rfl
  | n + 1, l, e => by
    show (_ :: (rdWs n _ _).1).length = n + 1
    rw [List.length_cons, rdWs_len n]
theorem rdWs_more (n : Nat) (l : List UInt8) (e : Int) (acc : List Wt) : (acc ++ (rdWs (n + 1) l e).1, (rdWs (n + 1) l e).2) = ((acc ++ [(rdW l e).1]) ++ (rdWs n (rdW l e).2.1 (rdW l e).2.2).1, (rdWs n (rdW l e).2.1 (rdW l e).2.2).2) := by
  simp [rdWs]
theorem w5_at {cs : Array Value} {p : Nat} (t : Wt) (ev : Value) (h : p + 5 ≤ cs.size) : (w5 cs p t ev)[p]? = some (.string t.br) ∧ (w5 cs p t ev)[p + 1]? = some (.string t.fk) ∧ (w5 cs p t ev)[p + 2]? = some (.int .i64 t.kp) ∧ (w5 cs p t ev)[p + 3]? = some (.int .i64 t.ta) ∧ (w5 cs p t ev)[p + 4]? = some ev := by
  unfold w5
  refine ⟨?_, ?_, ?_, ?_, ?_⟩
  · rw [Array.getElem?_setIfInBounds_ne (by omega), Array.getElem?_setIfInBounds_ne (by omega), Array.getElem?_setIfInBounds_ne (by omega), Array.getElem?_setIfInBounds_ne (by omega), Array.getElem?_setIfInBounds_self_of_lt (by omega)]
  · rw [Array.getElem?_setIfInBounds_ne (by omega), Array.getElem?_setIfInBounds_ne (by omega), Array.getElem?_setIfInBounds_ne (by omega), Array.getElem?_setIfInBounds_self_of_lt (by simp only [Array.size_setIfInBounds]; omega)]
  · rw [Array.getElem?_setIfInBounds_ne (by omega), Array.getElem?_setIfInBounds_ne (by omega), Array.getElem?_setIfInBounds_self_of_lt (by simp only [Array.size_setIfInBounds]; omega)]
  · rw [Array.getElem?_setIfInBounds_ne (by omega), Array.getElem?_setIfInBounds_self_of_lt (by simp only [Array.size_setIfInBounds]; omega)]
  · rw [Array.getElem?_setIfInBounds_self_of_lt (by simp only [Array.size_setIfInBounds]; omega)]
theorem w5_other {cs : Array Value} {p i : Nat} (t : Wt) (ev : Value) (h : i < p ∨ p + 5 ≤ i) : (w5 cs p t ev)[i]? = cs[i]? := by
  unfold w5
  rw [Array.getElem?_setIfInBounds_ne (by omega), Array.getElem?_setIfInBounds_ne (by omega), Array.getElem?_setIfInBounds_ne (by omega), Array.getElem?_setIfInBounds_ne (by omega), Array.getElem?_setIfInBounds_ne (by omega)]
theorem w5_size (cs : Array Value) (p : Nat) (t : Wt) (ev : Value) : (w5 cs p t ev).size = cs.size := by
  unfold w5
  simp only [Array.size_setIfInBounds]
/-- The writes' list while it is filled. -/
structure WsI (W : World) (q N j : Nat) (cw : Array Value) (acc : List Wt) : Prop where
  bk : Bk W q cw 42
  sz : cw.size = N * 5
  len : acc.length = j
  dn : ∀ (i : Nat) t, acc[i]? = some t → ∃ ev, cw[i * 5]? = some (.string t.br) ∧ cw[i * 5 + 1]? = some (.string t.fk) ∧ cw[i * 5 + 2]? = some (.int .i64 t.kp) ∧ cw[i * 5 + 3]? = some (.int .i64 t.ta) ∧ cw[i * 5 + 4]? = some ev ∧ LRn (q + 1) W ev t.ev
  zr : ∀ i, j ≤ i → i < N → cw[i * 5 + 4]? = some (.slice none 0 0)
theorem WsI.first {W : World} {q N : Nat} (h : Bk W q (zeroW N) 42) : WsI W q N 0 (zeroW N) [] :=
  ⟨h, zeroW_size N, rfl, fun i t ht => by simp at ht, fun i _ hi => zeroW_at N i 4 hi (by omega)⟩
theorem WsI.more {W W' : World} {g q N j : Nat} {cw : Array Value} {acc : List Wt} {t : Wt} {ev : Value} (h : WsI W q N j cw acc) (hj : j < N) (gq : g < q) (k : K2 g q W W') (hb : Bk W' q (w5 cw (j * 5) t ev) 42) (hl : LRn (q + 1) W' ev t.ev) : WsI W' q N (j + 1) (w5 cw (j * 5) t ev) (acc ++ [t]) := by
  obtain ⟨bk, sz, len, dn, zr⟩ := h
  refine ⟨hb, (w5_size ..).trans sz, by rw [List.length_append, len]; rfl, fun i u hu => ?_, fun i h1 h2 => by rw [w5_other _ _ (by omega)]; exact zr i (by omega) h2⟩
  by_cases hi : i < acc.length
  · rw [List.getElem?_append_left hi] at hu
    obtain ⟨e2, c0, c1, c2, c3, c4, hl2⟩ := dn i u hu
    exact ⟨e2, (w5_other _ _ (by omega)).trans c0, (w5_other _ _ (by omega)).trans c1, (w5_other _ _ (by omega)).trans c2, (w5_other _ _ (by omega)).trans c3, (w5_other _ _ (by omega)).trans c4, hl2.k2 k (by omega) (by omega)⟩
  · have hi2 : i = acc.length := by
      have := (List.getElem?_eq_some_iff.1 hu).1
      simp at this
      omega
    rw [hi2, List.getElem?_append_right (Nat.le_refl _)] at hu
    simp at hu
    subst hu
    rw [hi2, len]
    obtain ⟨c0, c1, c2, c3, c4⟩ := w5_at (cs := cw) (p := j * 5) t ev (by omega)
    exact ⟨ev, c0, c1, c2, c3, c4, hl⟩
theorem WsI.wr {W : World} {q N j : Nat} {cw : Array Value} {acc : List Wt} (h : WsI W q N j cw acc) : WR W (some ⟨q, 0, none⟩) acc := fun i t ht => by
  obtain ⟨ev, c0, c1, c2, c3, c4, hl⟩ := h.dn i t ht
  refine ⟨q, 0, ev, rfl, ?_, hl.lr⟩
  rw [Nat.zero_add]
  exact ⟨(h.bk.cell _).trans c0, (h.bk.cell _).trans c1, (h.bk.cell _).trans c2, (h.bk.cell _).trans c3, (h.bk.cell _).trans c4⟩
theorem WsI.kb {W W2 : World} {r q N j : Nat} {cw : Array Value} {acc : List Wt} (h : WsI W q N j cw acc) (k : KB r W W2) (hr : r < q) : WsI W2 q N j cw acc := by
  obtain ⟨bk, sz, len, dn, zr⟩ := h
  refine ⟨(k.2.2.2.2 q bk.lt (by omega)).trans bk, sz, len, fun i t ht => ?_, zr⟩
  obtain ⟨ev, c0, c1, c2, c3, c4, hl⟩ := dn i t ht
  exact ⟨ev, c0, c1, c2, c3, c4, hl.k2 (g := r) (B := r) (K2.of_kb k) (by omega) (by omega)⟩
theorem DK.stepW {W0 W W' : World} {g h gv B p qw : Nat} {tp t : TypeId} {cs : Array Value} {l l' : List UInt8} {e e' : Int} (d : DK W0 W g h gv B p tp cs t l e) (hB : B ≠ g) (hq : W0.heap.size + 2 ≤ qw) (j : JD g h gv l' e' W') (k : K2 g qw W W') : DK W0 W' g h gv B p tp cs t l' e' := by
  have h1 := d.gq
  have h2 := d.bq
  exact ⟨d.bx.k2 k (by omega) (by omega) (by omega) (by omega), j, d.bk.k2 k hB (by omega), d.k2.turn k (by omega), h1, h2⟩
/-- The cells of a batch. -/
def b4 (b : Bt) (rv wv : Value) : Array Value := #[.string b.key, .int .i64 b.ex, rv, wv]
/-- What the walk of batch leaves. -/
def DBP (g h gv qb : Nat) (l : List UInt8) (e : Int) (W : World) (x : Ending) (W' : World) : Prop :=
  x = .returned (.tuple #[]) ∧ ∃ rp rn rc wp wd, Bk W' qb (b4 (rdB l e).1 (.slice rp rn rc) (.slice wp (rdB l e).1.ws.length wd)) 25 ∧ (∀ r W2, r < W.heap.size → KB r W' W2 → Lib.HoldsBytes W2 (.slice rp rn rc) (rdB l e).1.row ∧ WR W2 wp (rdB l e).1.ws) ∧ (rdB l e).1.ws.length ≤ 500 ∧ JD g h gv (rdB l e).2.1 (rdB l e).2.2 W' ∧ K2 g qb W W'
set_option maxHeartbeats 4000000 in
set_option maxRecDepth 100000 in
theorem dbatch_walk (g h gv qb : Nat) (l : List UInt8) (e : Int) (W : World) (j : JD g h gv l e W) (a : Apart g h gv qb) (hb : Bk W qb #[.string ⟨#[]⟩, .int .i64 0, .slice none 0 0, .slice none 0 0] 25) :
    Calls Try.prog 25 #[.agg #[.func (.func 29) #[] #[.pointer (some ⟨gv, 0, none⟩)], .func (.func 31) #[] #[.pointer (some ⟨gv, 0, none⟩)], .func (.func 33) #[] #[.pointer (some ⟨gv, 0, none⟩)], .func (.func 34) #[] #[.pointer (some ⟨gv, 0, none⟩)]], .pointer (some ⟨qb, 0, none⟩)] W (DBP g h gv qb l e W) := by
  have HA : Hid (Apart g h gv qb) := a
  have HH : Hid (h < W.heap.size ∧ gv < W.heap.size) := ⟨j.hlt, j.var.lt⟩
  have L0' : Hid (DK W ((W.alloc (.cells #[.func (.func 29) #[] #[.pointer (some ⟨gv, 0, none⟩)], .func (.func 31) #[] #[.pointer (some ⟨gv, 0, none⟩)], .func (.func 33) #[] #[.pointer (some ⟨gv, 0, none⟩)], .func (.func 34) #[] #[.pointer (some ⟨gv, 0, none⟩)]] 55)).alloc (.cells #[.pointer (some ⟨qb, 0, none⟩)] 57)) g h gv qb 0 57 #[.string ⟨#[]⟩, .int .i64 0, .slice none 0 0, .slice none 0 0] 25 l e) := DK.new 57 j hb
  clear j a hb
  go_enter Try.func25, Try.ntmps25
  go_wp2_with fail
  generalize hW1 : (W.alloc (Obj.cells #[.func (.func 29) #[] #[.pointer (some ⟨gv, 0, none⟩)], .func (.func 31) #[] #[.pointer (some ⟨gv, 0, none⟩)], .func (.func 33) #[] #[.pointer (some ⟨gv, 0, none⟩)], .func (.func 34) #[] #[.pointer (some ⟨gv, 0, none⟩)]] 55)).alloc (Obj.cells #[.pointer (some ⟨qb, 0, none⟩)] 57) = W1
  have L0 : Hid (DK W W1 g h gv qb 0 57 #[.string ⟨#[]⟩, .int .i64 0, .slice none 0 0, .slice none 0 0] 25 l e) := by rw [← hW1]; exact L0'.out
  clear hW1 L0'
  obtain ⟨b00, b01, b02, b03, b04⟩ := L0.out.bx.cells
  have D0 : Hid (DK W W1.drew g h gv qb 0 57 _ 25 _ _) := L0.out.drew
  go_region_held3 (fun w' => w'.cell? ⟨W.heap.size, 1, none⟩ = some (.func (.func 31) #[] #[.pointer (some ⟨gv, 0, none⟩)]) ∧ w'.cell? ⟨W.heap.size + 1, 0, none⟩ = some (.pointer (some ⟨qb, 0, none⟩))) (go_keep) (first
    | (go_at_call 31; refine (dtext_calls g h gv qb 0 _ 25 l e _ _ _ D0.out.jd HA.out D0.out.bk (by decide)).mono ?_; intro xx w1 hq; have L1 : Hid (DK W w1 g h gv qb 0 57 (#[.string (str (q1 l e).1), .int .i64 0, .slice none 0 0, .slice none 0 0]) 25 (q1 l e).2.1 (q1 l e).2.2) := D0.out.step hq; obtain ⟨rfl, _, _, _⟩ := hq; obtain ⟨b10, b11, b12, b13, b14⟩ := L1.out.bx.cells)
    )
  clear b00 b01 b02 b03 b04 b10 b11 b12 b13 b14 D0
  go_wp2_with fail
  obtain ⟨b10, b11, b12, b13, b14⟩ := L1.out.bx.cells
  have D1 : Hid (DK W w1.drew g h gv qb 0 57 _ 25 _ _) := L1.out.drew
  go_region_held3 (fun w' => w'.cell? ⟨W.heap.size, 0, none⟩ = some (.func (.func 29) #[] #[.pointer (some ⟨gv, 0, none⟩)]) ∧ w'.cell? ⟨W.heap.size + 1, 0, none⟩ = some (.pointer (some ⟨qb, 0, none⟩))) (go_keep) (first
    | (go_at_call 29; refine (dnum_calls g h gv qb 1 _ 25 _ _ _ _ D1.out.jd HA.out D1.out.bk (by show 1 < 4; decide)).mono ?_; intro xx w2 hq; have L2 : Hid (DK W w2 g h gv qb 0 57 (#[.string (str (q1 l e).1), .int .i64 (q2 l e).1, .slice none 0 0, .slice none 0 0]) 25 (q2 l e).2.1 (q2 l e).2.2) := D1.out.step hq; obtain ⟨rfl, _, _, _⟩ := hq; obtain ⟨b20, b21, b22, b23, b24⟩ := L2.out.bx.cells)
    )
  clear b10 b11 b12 b13 b14 b20 b21 b22 b23 b24 D1
  go_wp2_with fail
  obtain ⟨b20, b21, b22, b23, b24⟩ := L2.out.bx.cells
  have D2 : Hid (DK W w2.drew g h gv qb 0 57 _ 25 _ _) := L2.out.drew
  go_region_held3 (fun w' => w'.cell? ⟨W.heap.size, 2, none⟩ = some (.func (.func 33) #[] #[.pointer (some ⟨gv, 0, none⟩)]) ∧ w'.cell? ⟨W.heap.size + 1, 0, none⟩ = some (.pointer (some ⟨qb, 0, none⟩))) (go_keep) (first
    | (go_at_call 33; refine (dbytes_calls g h gv qb 2 _ 25 _ _ _ _ _ D2.out.jd HA.out D2.out.bk (by show 2 < 4; decide)).mono ?_; rintro xx w3 ⟨v3, hn, hq⟩; have HV : Hid (Hn _ w3 v3 _) := hn; have L3 : Hid (DK W w3 g h gv qb 0 57 (#[.string (str (q1 l e).1), .int .i64 (q2 l e).1, v3, .slice none 0 0]) 25 (q3 l e).2.1 (q3 l e).2.2) := D2.out.step hq; obtain ⟨rfl, _, _, _⟩ := hq; obtain ⟨b30, b31, b32, b33, b34⟩ := L3.out.bx.cells)
    )
  clear b20 b21 b22 b23 b24 b30 b31 b32 b33 b34 D2
  go_wp2_with fail
  have HV3 : Hid (Hn (W.heap.size + 2) w3 v3 (q3 l e).1) := HV.out.lower (by have := L2.out.bx.p.lt; exact this)
  obtain ⟨b30, b31, b32, b33, b34⟩ := L3.out.bx.cells
  have m3 : w3.cell? ⟨qb, 3, none⟩ = some (Value.slice none 0 0) := L3.out.bk.cell 3
  have D3 : Hid (DK W w3.drew g h gv qb 0 57 _ 25 _ _) := L3.out.drew
  have HZ3 : Hid (W.heap.size + 2 ≤ w3.drew.heap.size) := D3.out.bx.p.lt
  obtain ⟨N, hN⟩ : ∃ N, N = (q4 l e).1.toNat := ⟨_, rfl⟩
  have HN : Hid (N = (q4 l e).1.toNat ∧ N ≤ 4) := ⟨hN, by
    have h1 := num_top (m := 4) (by decide) (q3 l e).2.1 (q3 l e).2.2
    have h2 : (q4 l e).1 ≤ 4 := h1
    omega⟩
  have CT : Hid (Calls Try.prog 34 #[.int .i64 0, .int .i64 4, .func (.func 54) #[] #[.pointer (some ⟨W.heap.size + 1, 0, none⟩)], .pointer (some ⟨gv, 0, none⟩)] w3.drew (fun x W' => ∃ qn, w3.drew.heap.size ≤ qn ∧ Bk W' qn (zeroW N) 42 ∧ DP g h gv qb (#[.string (str (q1 l e).1), .int .i64 (q2 l e).1, v3, .slice (some ⟨qn, 0, none⟩) N N]) 25 (q4 l e).2.1 (q4 l e).2.2 w3.drew x W')) := by
    rw [HN.out.1]
    exact dcountW_calls g h gv (W.heap.size + 1) qb _ _ _ _ 0 4 (by decide) (by decide) D3.out.jd HA.out D3.out.bx.p (by have := D3.out.gq; omega) D3.out.bk (by show 3 < 4; decide)
  clear hN HV
  go_cut [] (fun wc => Hid (∃ qn, w3.heap.size ≤ qn ∧ Bk wc qn (zeroW N) 42 ∧ DK W wc g h gv qb 0 57 (#[.string (str (q1 l e).1), .int .i64 (q2 l e).1, v3, .slice (some ⟨qn, 0, none⟩) N N]) 25 (q4 l e).2.1 (q4 l e).2.2 ∧ K2 g qb w3 wc))
  case first =>
    go_region_with (go_at_call 34; refine CT.out.mono ?_; intro xx w5 hq; have L5 : Hid (∃ qn, w3.heap.size ≤ qn ∧ Bk w5 qn (zeroW N) 42 ∧ DK W w5 g h gv qb 0 57 (#[.string (str (q1 l e).1), .int .i64 (q2 l e).1, v3, .slice (some ⟨qn, 0, none⟩) N N]) 25 (q4 l e).2.1 (q4 l e).2.2 ∧ K2 g qb w3 w5) := (by obtain ⟨qn, h1, h2, h3⟩ := hq; exact ⟨qn, h1, h2, D3.out.step h3, (K2.of_below (Below.refl _ w3).drew).trans h3.2.2.2⟩); obtain ⟨_, _, _, rfl, _, _, _⟩ := hq)
    all_goals go_wp2_with fail
    all_goals go_meet
    all_goals exact L5
  case rest =>
    obtain ⟨qw, hqw, hbw, hdk, hk3⟩ := hcut.out
    have HQW : Hid (W.heap.size + 2 ≤ qw ∧ w3.heap.size ≤ qw) := by have := HZ3.out; have : w3.drew.heap.size = w3.heap.size := rfl; show _ ∧ _; omega
    have L5 : Hid (DK W wc g h gv qb 0 57 (#[.string (str (q1 l e).1), .int .i64 (q2 l e).1, v3, .slice (some ⟨qw, 0, none⟩) N N]) 25 (q4 l e).2.1 (q4 l e).2.2) := hdk
    have E5 : Hid (WsI wc qw N 0 (zeroW N) []) := WsI.first hbw
    have R5 : Hid (K2 g qb w3 wc) := hk3
    have HAW : Hid (Apart g h gv qw) := ⟨by have := L5.out.gq; have := HQW.out; omega, by have := HH.out.1; have := HQW.out; omega, by have := HH.out.2; have := HQW.out; omega⟩
    obtain ⟨CS, hCS⟩ : ∃ CS : Array Value, CS = #[.string (str (q1 l e).1), .int .i64 (q2 l e).1, v3, .slice (some ⟨qw, 0, none⟩) N N] := ⟨_, rfl⟩
    have HC3 : Hid (CS[3]? = some (.slice (some ⟨qw, 0, none⟩) N N)) := by show _ = _; rw [hCS]; rfl
    rw [← hCS] at L5
    have HRd : Hid ((rdB l e).1.ws = (rdWs N (q4 l e).2.1 (q4 l e).2.2).1 ∧ (rdB l e).2 = (rdWs N (q4 l e).2.1 (q4 l e).2.2).2) := by rw [HN.out.1]; exact ⟨rfl, rfl⟩
    have HCS : Hid (CS = b4 (rdB l e).1 v3 (.slice (some ⟨qw, 0, none⟩) N N)) := hCS
    have HPost : Hid (∀ x W', DBP g h gv qb l e W x W' ↔ x = .returned (.tuple #[]) ∧ ∃ rp rn rc wp wd, Bk W' qb (b4 (rdB l e).1 (.slice rp rn rc) (.slice wp (rdB l e).1.ws.length wd)) 25 ∧ (∀ r W2, r < W.heap.size → KB r W' W2 → Lib.HoldsBytes W2 (.slice rp rn rc) (rdB l e).1.row ∧ WR W2 wp (rdB l e).1.ws) ∧ (rdB l e).1.ws.length ≤ 500 ∧ JD g h gv (rdB l e).2.1 (rdB l e).2.2 W' ∧ K2 g qb W W') := fun _ _ => Iff.rfl
    have m5 : wc.cell? ⟨qb, 3, none⟩ = some (Value.slice (some ⟨qw, 0, none⟩) N N) := (L5.out.bk.cell 3).trans HC3.out
    obtain ⟨b50, b51, b52, b53, b54⟩ := L5.out.bx.cells
    clear hqw hbw hdk hk3 hcut hCS CT D3 m3 b30 b31 b32 b33 b34 L0 L1 L2 HZ3
    generalize (q4 l e).2.1 = l5 at L5 HRd
    generalize (q4 l e).2.2 = e5 at L5 HRd
    go_wp2_with fail
    clear b50 b51 b52 b53 b54 m5
    go_loopw [37] (fun i wr => ∃ (j : Nat) (cw : Array Value) (acc : List Wt) (lj : List UInt8) (ej : Int), j ≤ N ∧ i = .int .i64 (j : Int) ∧ Hid (DK W wr g h gv qb 0 57 CS 25 lj ej) ∧ Hid (WsI wr qw N j cw acc) ∧ Hid (K2 g qb w3 wr) ∧ Hid (rdWs N l5 e5 = (acc ++ (rdWs (N - j) lj ej).1, (rdWs (N - j) lj ej).2))) (fun i _ => N - (intOf i).toNat)
    case atStart => exact ⟨0, zeroW N, [], l5, e5, Nat.zero_le _, rfl, L5, E5, R5, (by show _ = _; rw [Nat.sub_zero, List.nil_append])⟩
    case round =>
      obtain ⟨j, cw, acc, lj, ej, hj, rfl, L6, E6, R6, HR6⟩ := hrel
      by_cases hlt : j < N
      · have hjl : (j : Int) < (N : Int) := by omega
        have HWr : Hid (wrap64 ((j : Int) + 1) = ((j + 1 : Nat) : Int)) := wr1 hlt (by have := HN.out.2; omega)
        have D6 : Hid (DK W wr.drew g h gv qb 0 57 CS 25 lj ej) := L6.out.drew
        have BC : Hid (Calls Try.prog 55 #[.agg #[.func (.func 29) #[] #[.pointer (some ⟨gv, 0, none⟩)], .func (.func 31) #[] #[.pointer (some ⟨gv, 0, none⟩)], .func (.func 33) #[] #[.pointer (some ⟨gv, 0, none⟩)], .func (.func 34) #[] #[.pointer (some ⟨gv, 0, none⟩)]], .pointer (some ⟨qw, j * 5, none⟩)] wr.drew (DWP g h gv qw (j * 5) cw lj ej wr.drew)) := dwrite_walk g h gv qw (j * 5) cw lj ej wr.drew D6.out.jd HAW.out (E6.out.bk.below (Below.refl _ wr).drew) (by have := E6.out.sz; omega) (E6.out.zr j (Nat.le_refl _) hlt)
        have HNX : Hid (∀ W' ev, Bk W' qw (w5 cw (j * 5) (rdW lj ej).1 ev) 42 → LRn wr.drew.heap.size W' ev (rdW lj ej).1.ev → K2 g qw wr.drew W' → WsI W' qw N (j + 1) (w5 cw (j * 5) (rdW lj ej).1 ev) (acc ++ [(rdW lj ej).1])) := fun W' ev h1 h2 h3 => by
          have hz : qw < wr.heap.size := E6.out.bk.lt
          have hz2 : wr.drew.heap.size = wr.heap.size := rfl
          have hgq : g < qw := by have := D6.out.gq; have := HQW.out; omega
          exact WsI.more (W := wr) E6.out hlt hgq ((K2.of_below (Below.refl _ wr).drew).trans h3) h1 (h2.lower (by omega))
        have HR7 : Hid (rdWs N l5 e5 = ((acc ++ [(rdW lj ej).1]) ++ (rdWs (N - (j + 1)) (rdW lj ej).2.1 (rdW lj ej).2.2).1, (rdWs (N - (j + 1)) (rdW lj ej).2.1 (rdW lj ej).2.2).2)) := by
          obtain ⟨m, hm⟩ : ∃ m, N - j = m + 1 := ⟨N - j - 1, by omega⟩
          show _ = _
          rw [HR6.out, hm, show N - (j + 1) = m by omega, rdWs_more]
        obtain ⟨b60, b61, b62, b63, b64⟩ := L6.out.bx.cells
        have m6 : wr.cell? ⟨qb, 3, none⟩ = some (Value.slice (some ⟨qw, 0, none⟩) N N) := (L6.out.bk.cell 3).trans HC3.out
        go_wp2_with fail
        go_region_held3 (fun w' => w'.cell? ⟨W.heap.size, 0, none⟩ = some (.func (.func 29) #[] #[.pointer (some ⟨gv, 0, none⟩)]) ∧ w'.cell? ⟨W.heap.size, 1, none⟩ = some (.func (.func 31) #[] #[.pointer (some ⟨gv, 0, none⟩)]) ∧ w'.cell? ⟨W.heap.size, 2, none⟩ = some (.func (.func 33) #[] #[.pointer (some ⟨gv, 0, none⟩)]) ∧ w'.cell? ⟨W.heap.size, 3, none⟩ = some (.func (.func 34) #[] #[.pointer (some ⟨gv, 0, none⟩)]) ∧ w'.cell? ⟨W.heap.size + 1, 0, none⟩ = some (.pointer (some ⟨qb, 0, none⟩)) ∧ w'.cell? ⟨qb, 3, none⟩ = some (.slice (some ⟨qw, 0, none⟩) N N)) (go_keep) (first
          | (go_at_call 55; refine BC.out.mono ?_; rintro xx w7 ⟨rfl, ev7, hb7, hl7, hj7, hk7⟩; have L7 : Hid (DK W w7 g h gv qb 0 57 CS 25 _ _) := D6.out.stepW HA.out.a1 HQW.out.1 hj7 hk7; have E7 : Hid (WsI w7 qw N (j + 1) _ _) := HNX.out w7 ev7 hb7 hl7 hk7; have R7 : Hid (K2 g qb w3 w7) := (R6.out.trans (K2.of_below (Below.refl _ wr).drew)).turn hk7 HQW.out.2; clear hb7 hl7 hj7 hk7; obtain ⟨b70, b71, b72, b73, b74⟩ := L7.out.bx.cells; have m7 : w7.cell? ⟨qb, 3, none⟩ = some (Value.slice (some ⟨qw, 0, none⟩) N N) := (L7.out.bk.cell 3).trans HC3.out)
          )
        go_wp2_with fail
        exact ⟨⟨j + 1, _, _, _, _, hlt, by rw [HWr.out], L7, E7, R7, HR7⟩, meas hlt HWr.out⟩
      · obtain rfl : j = N := by omega
        go_wp2_with fail
        first | go_end0 | refine bodyPost_ret (results_none rfl _ _ _) rfl ?_
        have h1 := HR6.out
        rw [Nat.sub_self] at h1
        have hws : (rdB l e).1.ws = acc := by rw [HRd.out.1, h1]; exact List.append_nil _
        have hv := HV3.out.k2 R6.out (by have := L6.out.gq; omega) (by have := L6.out.bq; omega)
        have hv2 := hv
        obtain ⟨nb, n, c, hve, _, _⟩ := hv2
        refine (HPost.out _ _).2 ⟨rfl, some ⟨nb, 0, none⟩, n, c, some ⟨qw, 0, none⟩, j, ?_, ?_, ?_, ?_, L6.out.k2⟩
        · rw [hws, E6.out.len, ← hve, ← HCS.out]
          exact L6.out.bk
        · intro r W2 hr hk
          obtain ⟨_, _, _, _, _, hh⟩ := hv.k2 (g := r) (B := r) (K2.of_kb hk) (by omega) (by omega)
          refine ⟨?_, ?_⟩
          · rw [← hve]
            exact hh
          · rw [hws]
            exact (E6.out.kb hk (by have := HQW.out.1; omega)).wr
        · rw [hws, E6.out.len]
          have := HN.out.2
          omega
        · rw [HRd.out.2, h1]
          exact L6.out.jd
end Go.Proofs.Ytomkoajhjijplaa
