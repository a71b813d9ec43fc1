/- Reading a step, as a plain function; the contract of read. -/
import Derived.Test.YtimiklekajelfaaSD
namespace Go.Proofs.Ytimiklekajelfaa
open Go.ChangeShapes Go.WideShapes Go.ChangeAt Go.RowKit
def rdK : Nat → List UInt8 → Int → List Int × List UInt8 × Int
  | 0, l, e => ([], l, e)
  | n + 1, l, e => ((sNum 1099511627776 l e).1 :: (rdK n (sNum 1099511627776 l e).2.1 (sNum 1099511627776 l e).2.2).1, (rdK n (sNum 1099511627776 l e).2.1 (sNum 1099511627776 l e).2.2).2)
/-- What read leaves, by what the kind has. -/
def rdF (f k : Int) (l : List UInt8) (e : Int) : Sp × List UInt8 × Int :=
  if f = 7 then (⟨k, (sNum 255 l e).1, 0, (sText 16384 (sNum 255 l e).2.1 (sNum 255 l e).2.2).1, []⟩, (sText 16384 (sNum 255 l e).2.1 (sNum 255 l e).2.2).2)
  else if f = 3 then (⟨k, (sNum 255 l e).1, 0, [], []⟩, (sNum 255 l e).2)
  else if f = 9 then (⟨k, 0, (sNum 1099511627776 l e).1, [], []⟩, (sNum 1099511627776 l e).2)
  else if f = 17 then (⟨k, 0, 0, [], (rdK (sNum 64 l e).1.toNat (sNum 64 l e).2.1 (sNum 64 l e).2.2).1⟩, (rdK (sNum 64 l e).1.toNat (sNum 64 l e).2.1 (sNum 64 l e).2.2).2)
  else if f = 1 then (⟨k, 0, 0, [], []⟩, l, e)
  else (⟨k, 0, 0, [], []⟩, flL l e, flE e 3)
def rdS (l : List UInt8) (e : Int) : Sp × List UInt8 × Int := rdF (fld (sNum 8 l e).1) (sNum 8 l e).1 (sNum 8 l e).2.1 (sNum 8 l e).2.2
theorem sNum_le (m : Int) (hm : 0 ≤ m) (l : List UInt8) (e : Int) : (sNum m l e).1 ≤ m := by
  unfold sNum
  split
  · split
    · split
      · simpa using hm
      · simp; omega
    · simpa using hm
  · simpa using hm
/-- The world while a value is read: its result's box, its own box at q, and the reader. -/
structure Mid (w W : World) (g h q : Nat) (l : List UInt8) (e : Int) (c0 c1 c2 c3 c4 : Value) : Prop where
  q0 : w.heap.size < q
  q1 : q < W.heap.size
  gw : g < w.heap.size
  hw : h < w.heap.size
  res : At5 W w.heap.size 0 (.int .i64 0) (.int .i64 0) (.int .i64 0) (.slice none 0 0) (.slice none 0 0)
  rfr : ∀ o, W.frozen? ⟨w.heap.size, o, none⟩ = false
  own : At5 W q 0 c0 c1 c2 c3 c4
  ofr : ∀ o, W.frozen? ⟨q, o, none⟩ = false
  st : St W g h l e
  kb : KB g w W
theorem Mid.step {w W w' : World} {g h q : Nat} {l l' : List UInt8} {e e' : Int} {c0 c1 c2 c3 c4 : Value} (m : Mid w W g h q l e c0 c1 c2 c3 c4) (s : St w' g h l' e') (k : KB g W w') : Mid w w' g h q l' e' c0 c1 c2 c3 c4 := by
  have a := m.q0
  have b := m.q1
  have c := m.gw
  refine ⟨a, Nat.lt_of_lt_of_le b k.2.2.2.1, c, m.hw, m.res.kb k (by omega), fun o => (k.frozen (a := ⟨w.heap.size, o, none⟩) (show w.heap.size < W.heap.size by omega) (show w.heap.size ≠ g by omega)).trans (m.rfr o), m.own.kb k (by omega), fun o => (k.frozen (a := ⟨q, o, none⟩) b (show q ≠ g by omega)).trans (m.ofr o), s, m.kb.trans k⟩
/-- What of a store into the own box holds whatever field it is. -/
theorem Mid.put {w W : World} {g h q i : Nat} {l : List UInt8} {e : Int} {c0 c1 c2 c3 c4 d0 d1 d2 d3 d4 : Value} (m : Mid w W g h q l e c0 c1 c2 c3 c4) (u : Value) (h5 : At5 (W.setCell ⟨q, i, none⟩ u) q 0 d0 d1 d2 d3 d4) : Mid w (W.setCell ⟨q, i, none⟩ u) g h q l e d0 d1 d2 d3 d4 := by
  have a := m.q0
  have b := m.q1
  have c := m.gw
  have d := m.hw
  have hb : ∀ B, B ≠ q → (W.setCell ⟨q, i, none⟩ u).heap[B]? = W.heap[B]? := fun B hB => Below.heap_setCell _ _ _ _ hB
  have hsz : (W.setCell ⟨q, i, none⟩ u).heap.size = W.heap.size := by simp [World.setCell]
  exact ⟨a, by rw [hsz]; exact b, c, d, m.res.keepB (hb _ (by omega)), fun o => (World.frozen?_setCell _ _ _ _).trans (m.rfr o), h5, fun o => (World.frozen?_setCell _ _ _ _).trans (m.ofr o), m.st.keep (by omega) (hb g (by omega)) (hb h (by omega)), kb_below m.kb ((KB.setCell q W i u).below (by omega) (by omega))⟩
/-- The beginning: two boxes. -/
theorem Mid.first {w w1 : World} {g h : Nat} {l : List UInt8} {e : Int} (k : Int) (hg : g < w.heap.size) (hh : h < w.heap.size) (s : St w1 g h l e) (kb : KB g (w.alloc (.cells #[.int .i64 0, .int .i64 0, .int .i64 0, .slice none 0 0, .slice none 0 0] 28)) w1) :
    Mid w (w1.alloc (.cells #[.int .i64 k, .int .i64 0, .int .i64 0, .slice none 0 0, .slice none 0 0] 28)) g h w1.heap.size l e (.int .i64 k) (.int .i64 0) (.int .i64 0) (.slice none 0 0) (.slice none 0 0) := by
  have hz : w.heap.size + 1 ≤ w1.heap.size := by have := kb.2.2.2.1; simpa using this
  have hz0 : w.heap.size < (w.alloc (.cells #[.int .i64 0, .int .i64 0, .int .i64 0, .slice none 0 0, .slice none 0 0] 28)).heap.size := by simp
  have r1 := (box_at w (.int .i64 0) (.int .i64 0) (.int .i64 0) (.slice none 0 0) (.slice none 0 0)).kb kb (by omega)
  refine ⟨by omega, by simp, hg, hh, r1.below (bel1 _ _), fun o => ((bel1 w1 _).frozen (show w.heap.size < w1.heap.size by omega)).trans ((kb.frozen (a := ⟨w.heap.size, o, none⟩) hz0 (show w.heap.size ≠ g by omega)).trans (fresh w _ o)), box_at w1 _ _ _ _ _, fun o => fresh w1 _ o, s.keep (by simp) ((bel1 w1 _).block g (by omega)) ((bel1 w1 _).block h (by omega)), ?_⟩
  refine kb_below (a := w1) ?_ ((bel1 w1 _).mono (by omega))
  exact ⟨kb.1, kb.2.1, kb.2.2.1, by omega, fun i hi hne => (kb.2.2.2.2 i (by simp; omega) hne).trans ((bel1 w _).block i hi)⟩

theorem sText_le (m : Int) (hm : 0 ≤ m) (l : List UInt8) (e : Int) : ((sText m l e).1.length : Int) ≤ m := by
  unfold sText
  split
  · split
    · simpa using hm
    · have h0 := sNum_le m hm l e
      have h1 := sNum_nat m l e
      dsimp only
      rw [List.length_take]
      omega
  · simpa using hm
/-- Another block is written. -/
theorem Mid.away {w W W' : World} {g h q K : Nat} {l : List UInt8} {e : Int} {c0 c1 c2 c3 c4 : Value} (m : Mid w W g h q l e c0 c1 c2 c3 c4) (kb : KB K W W') (h1 : w.heap.size < K) (h2 : K ≠ q) : Mid w W' g h q l e c0 c1 c2 c3 c4 := by
  have a := m.q0
  have b := m.q1
  have c := m.gw
  have d := m.hw
  have hb : ∀ B, B < W.heap.size → B ≠ K → W'.heap[B]? = W.heap[B]? := kb.2.2.2.2
  exact ⟨a, Nat.lt_of_lt_of_le b kb.2.2.2.1, c, d, m.res.keepB (hb _ (by omega) (by omega)), fun o => (World.frozen?_of_block (a := ⟨w.heap.size, o, none⟩) (hb w.heap.size (by omega) (by omega))).trans (m.rfr o), m.own.keepB (hb q b (by omega)), fun o => (World.frozen?_of_block (a := ⟨q, o, none⟩) (hb q b (by omega))).trans (m.ofr o), m.st.keep kb.2.2.2.1 (hb g (by omega) (by omega)) (hb h (by omega) (by omega)), kb_below m.kb (kb.below (by omega) (by omega))⟩
/-- What reading a step leaves. -/
def RdP (w : World) (g h : Nat) (r : Sp × List UInt8 × Int) (x : Ending) (w' : World) : Prop :=
  ∃ vb vk, x = .returned (.agg (rowS vb vk r.1)) ∧ IsV (fun B => w.heap.size ≤ B) w' vb vk r.1 ∧ St w' g h r.2.1 r.2.2 ∧ KB g w w'
/-- The end: the own box goes into the result's. -/
theorem Mid.fin {w W : World} {g h q : Nat} {l : List UInt8} {e : Int} {vb vk : Value} {x : Sp} (m : Mid w W g h q l e (.int .i64 x.k) (.int .i64 x.s) (.int .i64 x.n) vb vk) (hi : IsV (fun B => w.heap.size < B) W vb vk x) :
    RdP w g h (x, l, e) (.returned (.agg #[.int .i64 x.k, .int .i64 x.s, .int .i64 x.n, vb, vk])) (set5 W w.heap.size 0 (.int .i64 x.k) (.int .i64 x.s) (.int .i64 x.n) vb vk) := by
  have a := m.q0
  have b := m.q1
  have c := m.gw
  have d := m.hw
  have kb := set5_kb W w.heap.size 0 (.int .i64 x.k) (.int .i64 x.s) (.int .i64 x.n) vb vk
  exact ⟨vb, vk, rfl, hi.keep (fun B hB hl => ⟨kb.2.2.2.2 B hl (by omega), by omega⟩), m.st.keep kb.2.2.2.1 (kb.2.2.2.2 g (by omega) (by omega)) (kb.2.2.2.2 h (by omega) (by omega)), kb_below m.kb (kb.below (Nat.le_refl _) (by omega))⟩
/-- A text as bytes of its own. -/
theorem conv_hl (s : List UInt8) (w : World) (hs : s.length ≤ 9223372036854775807) : ∃ cap w', (convert 9 23 (.string (str s))).run Try.prog w = .ok (.slice (some ⟨w.heap.size, 0, none⟩) s.length cap) w' ∧
    HL eb (fun B => B = w.heap.size) w' (.slice (some ⟨w.heap.size, 0, none⟩) s.length cap) s ∧ Below w.heap.size w w' := by
  have hsz : (str s).size = s.length := by simp [str, ByteArray.size]
  have hd : (str s).data.toList = s := by simp [str]
  obtain ⟨cap, w', h2, hh, hb⟩ := conv_bytes (str s) w
  have h1 := run_bytes_of_string (P := Try.prog) w 9 23 5 (str s) Try.underlying9 Try.underlying23 Try.underlying5
  have e := h1.symm.trans h2
  injection e with e1 e2
  have hc : cap = grownCap w (str s).size 0 5 := by injection e1 with _ _ e3; exact e3.symm
  rw [hsz] at h2 hh hc
  rw [hd] at hh
  refine ⟨cap, w', h2, ⟨_, cap, rfl, by rw [hc]; exact grownCap_ge _ _ _ _, by rw [hc]; exact grownCap_le_maxLen _ _ _ _ hs, fun i x hx => ?_⟩, hb⟩
  obtain ⟨p, c, e, _, hcell⟩ := hh
  cases e
  have := hcell _ rfl i x hx
  rw [add_plain] at this
  exact ⟨w.heap.size, 0, rfl, rfl, this⟩
theorem info3i : (Try.prog.info? 3).map (fun i => (i.zero, i.size, i.bytes)) = some (some (.int .i64 0), 1, 8) := by kernel_rfl
theorem u26 : Try.prog.underlying 26 = some (.slice 3) := by kernel_rfl
theorem make_ints (k : Nat) (h : k ≤ 64) (w : World) : ∃ M : Array Value, (Instr.makeSlice 26 (.int .i64 (k : Int)) (.int .i64 (k : Int))).run Try.prog w = .ok (.slice (some ⟨w.heap.size, 0, none⟩) k k) (w.alloc (.cells M 3)) ∧ ∀ i, i < k → M[i]? = some (.int .i64 0) := by
  obtain ⟨i0, hi, hz0, hz1, hz2⟩ := info_parts info3i
  refine ⟨madeCells (Value.int .i64 0).cells (k * 1), ?_, fun i hlt => ?_⟩
  · rw [run_make (P := Try.prog) w 26 3 i0 (.int .i64 0) u26 hi hz0 .i64 .i64 k k (by omega) (by omega) (by rw [hz2]; omega) (by omega)]
    rw [Int.toNat_natCast, hz1]
  · have hz : (Value.int .i64 0).cells.size = 1 := rfl
    simp only [madeCells]
    rw [Array.getElem?_map, Array.getElem?_range, if_pos (by omega)]
    simp only [Option.map_some, hz, Nat.mod_one]
    rfl
theorem isv_nil (P : Nat → Prop) (w : World) (k s n : Int) : IsV P w (.slice none 0 0) (.slice none 0 0) ⟨k, s, n, [], []⟩ := ⟨HL.nil _ _ _, HL.nil _ _ _⟩
set_option maxHeartbeats 4000000 in
set_option maxRecDepth 100000 in
theorem read1_calls (w : World) (g h : Nat) (l : List UInt8) (e : Int) (r : St w g h l e) (hh : h < w.heap.size) (k : Int) (l1 : List UInt8) (e1 : Int) (hk : sNum 8 l e = (k, l1, e1)) (hf : fld k = 1) :
    Calls Try.prog 22 #[.pointer (some ⟨g, 0, none⟩)] w (RdP w g h (rdF 1 k l1 e1)) := by
  have hg := r.lt
  have NC := num_st (w.alloc (.cells #[.int .i64 0, .int .i64 0, .int .i64 0, .slice none 0 0, .slice none 0 0] 28)) g h l e 8 (r.keep (by simp) ((bel1 w _).block g hg) ((bel1 w _).block h hh))
  rw [hk] at NC
  dsimp only at NC
  have HGH : Hid (g < w.heap.size ∧ h < w.heap.size) := ⟨hg, hh⟩
  have HNC : Hid (Calls Try.prog 41 #[.pointer (some ⟨g, 0, none⟩), .int .i64 8] (w.alloc (.cells #[.int .i64 0, .int .i64 0, .int .i64 0, .slice none 0 0, .slice none 0 0] 28)) (Rs _ g h (.int .i64 k) l1 e1)) := NC
  have HF : Hid (fld k = 1) := hf
  have CF : Hid (∀ W, Calls Try.prog 42 #[.int .i64 k] W fun e w' => e = .returned (.int .i64 1) ∧ w' = W) := fun W => by have := fields_calls k W; rwa [HF.out] at this
  have b2 : (bits .and .i64 1 2 != 0) = false := by decide
  have b4 : (bits .and .i64 1 4 != 0) = false := by decide
  have b8 : (bits .and .i64 1 8 != 0) = false := by decide
  have b16 : (bits .and .i64 1 16 != 0) = false := by decide
  clear NC r hg hh hk hf
  unfold rdF
  rw [if_neg (by decide), if_neg (by decide), if_neg (by decide), if_neg (by decide), if_pos rfl]
  go_enter Try.func22, Try.ntmps22
  go_wp2_with fail
  refine HNC.out.mono ?_
  rintro x w1 ⟨rfl, s1, k1⟩
  have M0 : Hid (Mid w (w1.alloc (.cells #[.int .i64 k, .int .i64 0, .int .i64 0, .slice none 0 0, .slice none 0 0] 28)) g h w1.heap.size l1 e1 (.int .i64 k) (.int .i64 0) (.int .i64 0) (.slice none 0 0) (.slice none 0 0)) := Mid.first k HGH.out.1 HGH.out.2 s1 k1
  obtain ⟨W2, hW2⟩ : ∃ W2, W2 = w1.alloc (.cells #[.int .i64 k, .int .i64 0, .int .i64 0, .slice none 0 0, .slice none 0 0] 28) := ⟨_, rfl⟩
  obtain ⟨q, hq⟩ : ∃ q, q = w1.heap.size := ⟨_, rfl⟩
  rw [← hW2, ← hq] at M0
  have HW2 : Hid (W2 = w1.alloc (.cells #[.int .i64 k, .int .i64 0, .int .i64 0, .slice none 0 0, .slice none 0 0] 28)) := hW2
  have HQ : Hid (q = w1.heap.size) := hq
  clear s1 k1 hW2 hq
  go_upto_region 2 with fail
  rw [← HW2.out, ← HQ.out]
  obtain ⟨o0, o1, o2, o3, o4⟩ := M0.out.own
  go_wp2_with fail
  refine (CF.out _).mono ?_
  rintro e2 w2 ⟨rfl, hw2⟩
  rw [hw2]
  clear hw2 CF
  go_upto_region 18 with fail
  clear o0 o1 o2 o3 o4
  obtain ⟨a0, a1, a2, a3, a4⟩ := M0.out.own
  clear b2 b4 b8 b16
  obtain ⟨b0, b1, b2, b3, b4⟩ := M0.out.res
  have f0 := M0.out.rfr 0
  have f1 := M0.out.rfr 1
  have f2 := M0.out.rfr 2
  have f3 := M0.out.rfr 3
  have f4 := M0.out.rfr 4
  go_wp2_with fail
  refine bodyPost_ret (ret5 Try.results22 _ (g := w.heap.size) rfl (set5_at M0.out.res (.int .i64 k) (.int .i64 0) (.int .i64 0) (.slice none 0 0) (.slice none 0 0))) rfl ?_
  exact Mid.fin (x := ⟨k, _, _, _, _⟩) M0.out (isv_nil _ _ _ _ _)
set_option maxHeartbeats 4000000 in
set_option maxRecDepth 100000 in
theorem read0_calls (w : World) (g h : Nat) (l : List UInt8) (e : Int) (r : St w g h l e) (hh : h < w.heap.size) (k : Int) (l1 : List UInt8) (e1 : Int) (hk : sNum 8 l e = (k, l1, e1)) (hf : fld k = 0) :
    Calls Try.prog 22 #[.pointer (some ⟨g, 0, none⟩)] w (RdP w g h (rdF 0 k l1 e1)) := by
  have hg := r.lt
  have NC := num_st (w.alloc (.cells #[.int .i64 0, .int .i64 0, .int .i64 0, .slice none 0 0, .slice none 0 0] 28)) g h l e 8 (r.keep (by simp) ((bel1 w _).block g hg) ((bel1 w _).block h hh))
  rw [hk] at NC
  dsimp only at NC
  have HGH : Hid (g < w.heap.size ∧ h < w.heap.size) := ⟨hg, hh⟩
  have HNC : Hid (Calls Try.prog 41 #[.pointer (some ⟨g, 0, none⟩), .int .i64 8] (w.alloc (.cells #[.int .i64 0, .int .i64 0, .int .i64 0, .slice none 0 0, .slice none 0 0] 28)) (Rs _ g h (.int .i64 k) l1 e1)) := NC
  have HF : Hid (fld k = 0) := hf
  have CF : Hid (∀ W, Calls Try.prog 42 #[.int .i64 k] W fun e w' => e = .returned (.int .i64 0) ∧ w' = W) := fun W => by have := fields_calls k W; rwa [HF.out] at this
  have b2 : (bits .and .i64 0 2 != 0) = false := by decide
  have b4 : (bits .and .i64 0 4 != 0) = false := by decide
  have b8 : (bits .and .i64 0 8 != 0) = false := by decide
  have b16 : (bits .and .i64 0 16 != 0) = false := by decide
  clear NC r hg hh hk hf
  unfold rdF
  rw [if_neg (by decide), if_neg (by decide), if_neg (by decide), if_neg (by decide), if_neg (by decide)]
  go_enter Try.func22, Try.ntmps22
  go_wp2_with fail
  refine HNC.out.mono ?_
  rintro x w1 ⟨rfl, s1, k1⟩
  have M0 : Hid (Mid w (w1.alloc (.cells #[.int .i64 k, .int .i64 0, .int .i64 0, .slice none 0 0, .slice none 0 0] 28)) g h w1.heap.size l1 e1 (.int .i64 k) (.int .i64 0) (.int .i64 0) (.slice none 0 0) (.slice none 0 0)) := Mid.first k HGH.out.1 HGH.out.2 s1 k1
  obtain ⟨W2, hW2⟩ : ∃ W2, W2 = w1.alloc (.cells #[.int .i64 k, .int .i64 0, .int .i64 0, .slice none 0 0, .slice none 0 0] 28) := ⟨_, rfl⟩
  obtain ⟨q, hq⟩ : ∃ q, q = w1.heap.size := ⟨_, rfl⟩
  rw [← hW2, ← hq] at M0
  have HW2 : Hid (W2 = w1.alloc (.cells #[.int .i64 k, .int .i64 0, .int .i64 0, .slice none 0 0, .slice none 0 0] 28)) := hW2
  have HQ : Hid (q = w1.heap.size) := hq
  clear s1 k1 hW2 hq
  go_upto_region 2 with fail
  rw [← HW2.out, ← HQ.out]
  obtain ⟨o0, o1, o2, o3, o4⟩ := M0.out.own
  go_wp2_with fail
  refine (CF.out _).mono ?_
  rintro e2 w2 ⟨rfl, hw2⟩
  rw [hw2]
  clear hw2 CF
  have FC : Hid (Calls Try.prog 43 #[.pointer (some ⟨g, 0, none⟩), .int .i64 3] W2 fun r w' => r = .returned (.tuple #[]) ∧ St w' g h (flL l1 e1) (flE e1 3) ∧ KB g W2 w') := by
    have := fail_st W2 g h l1 e1 3 M0.out.st
    rwa [fl_l l1 e1 3 (by decide), fl_e e1 3] at this
  go_wp2_with fail
  refine FC.out.mono ?_
  rintro x w6 ⟨rfl, s6, k6⟩
  have M6 : Hid (Mid w w6 g h q (flL l1 e1) (flE e1 3) (.int .i64 k) (.int .i64 0) (.int .i64 0) (.slice none 0 0) (.slice none 0 0)) := M0.out.step s6 k6
  clear s6 k6 FC
  go_upto_region 18 with fail
  clear o0 o1 o2 o3 o4
  obtain ⟨a0, a1, a2, a3, a4⟩ := M6.out.own
  clear b2 b4 b8 b16
  obtain ⟨b0, b1, b2, b3, b4⟩ := M6.out.res
  have f0 := M6.out.rfr 0
  have f1 := M6.out.rfr 1
  have f2 := M6.out.rfr 2
  have f3 := M6.out.rfr 3
  have f4 := M6.out.rfr 4
  go_wp2_with fail
  refine bodyPost_ret (ret5 Try.results22 _ (g := w.heap.size) rfl (set5_at M6.out.res (.int .i64 k) (.int .i64 0) (.int .i64 0) (.slice none 0 0) (.slice none 0 0))) rfl ?_
  exact Mid.fin (x := ⟨k, _, _, _, _⟩) M6.out (isv_nil _ _ _ _ _)
set_option maxHeartbeats 4000000 in
set_option maxRecDepth 100000 in
theorem read3_calls (w : World) (g h : Nat) (l : List UInt8) (e : Int) (r : St w g h l e) (hh : h < w.heap.size) (k : Int) (l1 : List UInt8) (e1 : Int) (hk : sNum 8 l e = (k, l1, e1)) (hf : fld k = 3) :
    Calls Try.prog 22 #[.pointer (some ⟨g, 0, none⟩)] w (RdP w g h (rdF 3 k l1 e1)) := by
  have hg := r.lt
  have NC := num_st (w.alloc (.cells #[.int .i64 0, .int .i64 0, .int .i64 0, .slice none 0 0, .slice none 0 0] 28)) g h l e 8 (r.keep (by simp) ((bel1 w _).block g hg) ((bel1 w _).block h hh))
  rw [hk] at NC
  dsimp only at NC
  have HGH : Hid (g < w.heap.size ∧ h < w.heap.size) := ⟨hg, hh⟩
  have HNC : Hid (Calls Try.prog 41 #[.pointer (some ⟨g, 0, none⟩), .int .i64 8] (w.alloc (.cells #[.int .i64 0, .int .i64 0, .int .i64 0, .slice none 0 0, .slice none 0 0] 28)) (Rs _ g h (.int .i64 k) l1 e1)) := NC
  have HF : Hid (fld k = 3) := hf
  have CF : Hid (∀ W, Calls Try.prog 42 #[.int .i64 k] W fun e w' => e = .returned (.int .i64 3) ∧ w' = W) := fun W => by have := fields_calls k W; rwa [HF.out] at this
  have b2 : (bits .and .i64 3 2 != 0) = true := by decide
  have b4 : (bits .and .i64 3 4 != 0) = false := by decide
  have b8 : (bits .and .i64 3 8 != 0) = false := by decide
  have b16 : (bits .and .i64 3 16 != 0) = false := by decide
  clear NC r hg hh hk hf
  unfold rdF
  rw [if_neg (by decide), if_pos rfl]
  have IS0 := fun W (r : St W g h l1 e1) => num_st W g h l1 e1 255 r
  generalize (sNum 255 l1 e1).1 = X at IS0 ⊢
  generalize (sNum 255 l1 e1).2 = q2 at IS0 ⊢
  obtain ⟨l3, e3⟩ := q2
  dsimp only at IS0 ⊢
  have IS : Hid (∀ W, St W g h l1 e1 → Calls Try.prog 41 #[.pointer (some ⟨g, 0, none⟩), .int .i64 255] W (Rs W g h (.int .i64 X) l3 e3)) := IS0
  clear IS0
  go_enter Try.func22, Try.ntmps22
  go_wp2_with fail
  refine HNC.out.mono ?_
  rintro x w1 ⟨rfl, s1, k1⟩
  have M0 : Hid (Mid w (w1.alloc (.cells #[.int .i64 k, .int .i64 0, .int .i64 0, .slice none 0 0, .slice none 0 0] 28)) g h w1.heap.size l1 e1 (.int .i64 k) (.int .i64 0) (.int .i64 0) (.slice none 0 0) (.slice none 0 0)) := Mid.first k HGH.out.1 HGH.out.2 s1 k1
  obtain ⟨W2, hW2⟩ : ∃ W2, W2 = w1.alloc (.cells #[.int .i64 k, .int .i64 0, .int .i64 0, .slice none 0 0, .slice none 0 0] 28) := ⟨_, rfl⟩
  obtain ⟨q, hq⟩ : ∃ q, q = w1.heap.size := ⟨_, rfl⟩
  rw [← hW2, ← hq] at M0
  have HW2 : Hid (W2 = w1.alloc (.cells #[.int .i64 k, .int .i64 0, .int .i64 0, .slice none 0 0, .slice none 0 0] 28)) := hW2
  have HQ : Hid (q = w1.heap.size) := hq
  clear s1 k1 hW2 hq
  go_upto_region 2 with fail
  rw [← HW2.out, ← HQ.out]
  obtain ⟨o0, o1, o2, o3, o4⟩ := M0.out.own
  go_wp2_with fail
  refine (CF.out _).mono ?_
  rintro e2 w2 ⟨rfl, hw2⟩
  rw [hw2]
  clear hw2 CF
  have CC : Hid (Calls Try.prog 41 #[.pointer (some ⟨g, 0, none⟩), .int .i64 255] W2 (Rs W2 g h (.int .i64 X) l3 e3)) := IS.out W2 M0.out.st
  go_wp2_with fail
  refine CC.out.mono ?_
  rintro x w3 ⟨rfl, s3, k3⟩
  have N3 : Hid (Mid w w3 g h q _ _ (.int .i64 k) (.int .i64 0) (.int .i64 0) (.slice none 0 0) (.slice none 0 0)) := M0.out.step s3 k3
  clear s3 k3 o0 o1 o2 o3 o4 CC
  obtain ⟨o0, o1, o2, o3, o4⟩ := N3.out.own
  have y := N3.out.ofr 1
  have M3 : Hid (Mid w (w3.setCell ⟨q, 1, none⟩ (.int .i64 X)) g h q l3 e3 (.int .i64 k) (.int .i64 X) (.int .i64 0) (.slice none 0 0) (.slice none 0 0)) := N3.out.put (.int .i64 X) (N3.out.own.set1 _)
  obtain ⟨W3, hW3⟩ : ∃ W, W = w3.setCell ⟨q, 1, none⟩ (.int .i64 X) := ⟨_, rfl⟩
  rw [← hW3] at M3
  have HW3 : Hid (W3 = w3.setCell ⟨q, 1, none⟩ (.int .i64 X)) := hW3
  clear hW3
  go_upto_region 18 with fail
  rw [← HW3.out]
  clear y
  clear o0 o1 o2 o3 o4
  obtain ⟨a0, a1, a2, a3, a4⟩ := M3.out.own
  clear b2 b4 b8 b16
  obtain ⟨b0, b1, b2, b3, b4⟩ := M3.out.res
  have f0 := M3.out.rfr 0
  have f1 := M3.out.rfr 1
  have f2 := M3.out.rfr 2
  have f3 := M3.out.rfr 3
  have f4 := M3.out.rfr 4
  go_wp2_with fail
  refine bodyPost_ret (ret5 Try.results22 _ (g := w.heap.size) rfl (set5_at M3.out.res (.int .i64 k) (.int .i64 X) (.int .i64 0) (.slice none 0 0) (.slice none 0 0))) rfl ?_
  exact Mid.fin (x := ⟨k, _, _, _, _⟩) M3.out (isv_nil _ _ _ _ _)
set_option maxHeartbeats 4000000 in
set_option maxRecDepth 100000 in
theorem read9_calls (w : World) (g h : Nat) (l : List UInt8) (e : Int) (r : St w g h l e) (hh : h < w.heap.size) (k : Int) (l1 : List UInt8) (e1 : Int) (hk : sNum 8 l e = (k, l1, e1)) (hf : fld k = 9) :
    Calls Try.prog 22 #[.pointer (some ⟨g, 0, none⟩)] w (RdP w g h (rdF 9 k l1 e1)) := by
  have hg := r.lt
  have NC := num_st (w.alloc (.cells #[.int .i64 0, .int .i64 0, .int .i64 0, .slice none 0 0, .slice none 0 0] 28)) g h l e 8 (r.keep (by simp) ((bel1 w _).block g hg) ((bel1 w _).block h hh))
  rw [hk] at NC
  dsimp only at NC
  have HGH : Hid (g < w.heap.size ∧ h < w.heap.size) := ⟨hg, hh⟩
  have HNC : Hid (Calls Try.prog 41 #[.pointer (some ⟨g, 0, none⟩), .int .i64 8] (w.alloc (.cells #[.int .i64 0, .int .i64 0, .int .i64 0, .slice none 0 0, .slice none 0 0] 28)) (Rs _ g h (.int .i64 k) l1 e1)) := NC
  have HF : Hid (fld k = 9) := hf
  have CF : Hid (∀ W, Calls Try.prog 42 #[.int .i64 k] W fun e w' => e = .returned (.int .i64 9) ∧ w' = W) := fun W => by have := fields_calls k W; rwa [HF.out] at this
  have b2 : (bits .and .i64 9 2 != 0) = false := by decide
  have b4 : (bits .and .i64 9 4 != 0) = false := by decide
  have b8 : (bits .and .i64 9 8 != 0) = true := by decide
  have b16 : (bits .and .i64 9 16 != 0) = false := by decide
  clear NC r hg hh hk hf
  unfold rdF
  rw [if_neg (by decide), if_neg (by decide), if_pos rfl]
  have IS0 := fun W (r : St W g h l1 e1) => num_st W g h l1 e1 1099511627776 r
  generalize (sNum 1099511627776 l1 e1).1 = X at IS0 ⊢
  generalize (sNum 1099511627776 l1 e1).2 = q2 at IS0 ⊢
  obtain ⟨l3, e3⟩ := q2
  dsimp only at IS0 ⊢
  have IS : Hid (∀ W, St W g h l1 e1 → Calls Try.prog 41 #[.pointer (some ⟨g, 0, none⟩), .int .i64 1099511627776] W (Rs W g h (.int .i64 X) l3 e3)) := IS0
  clear IS0
  go_enter Try.func22, Try.ntmps22
  go_wp2_with fail
  refine HNC.out.mono ?_
  rintro x w1 ⟨rfl, s1, k1⟩
  have M0 : Hid (Mid w (w1.alloc (.cells #[.int .i64 k, .int .i64 0, .int .i64 0, .slice none 0 0, .slice none 0 0] 28)) g h w1.heap.size l1 e1 (.int .i64 k) (.int .i64 0) (.int .i64 0) (.slice none 0 0) (.slice none 0 0)) := Mid.first k HGH.out.1 HGH.out.2 s1 k1
  obtain ⟨W2, hW2⟩ : ∃ W2, W2 = w1.alloc (.cells #[.int .i64 k, .int .i64 0, .int .i64 0, .slice none 0 0, .slice none 0 0] 28) := ⟨_, rfl⟩
  obtain ⟨q, hq⟩ : ∃ q, q = w1.heap.size := ⟨_, rfl⟩
  rw [← hW2, ← hq] at M0
  have HW2 : Hid (W2 = w1.alloc (.cells #[.int .i64 k, .int .i64 0, .int .i64 0, .slice none 0 0, .slice none 0 0] 28)) := hW2
  have HQ : Hid (q = w1.heap.size) := hq
  clear s1 k1 hW2 hq
  go_upto_region 2 with fail
  rw [← HW2.out, ← HQ.out]
  obtain ⟨o0, o1, o2, o3, o4⟩ := M0.out.own
  go_wp2_with fail
  refine (CF.out _).mono ?_
  rintro e2 w2 ⟨rfl, hw2⟩
  rw [hw2]
  clear hw2 CF
  have CC : Hid (Calls Try.prog 41 #[.pointer (some ⟨g, 0, none⟩), .int .i64 1099511627776] W2 (Rs W2 g h (.int .i64 X) l3 e3)) := IS.out W2 M0.out.st
  go_wp2_with fail
  refine CC.out.mono ?_
  rintro x w3 ⟨rfl, s3, k3⟩
  have N3 : Hid (Mid w w3 g h q _ _ (.int .i64 k) (.int .i64 0) (.int .i64 0) (.slice none 0 0) (.slice none 0 0)) := M0.out.step s3 k3
  clear s3 k3 o0 o1 o2 o3 o4 CC
  obtain ⟨o0, o1, o2, o3, o4⟩ := N3.out.own
  have y := N3.out.ofr 2
  have M3 : Hid (Mid w (w3.setCell ⟨q, 2, none⟩ (.int .i64 X)) g h q l3 e3 (.int .i64 k) (.int .i64 0) (.int .i64 X) (.slice none 0 0) (.slice none 0 0)) := N3.out.put (.int .i64 X) (N3.out.own.set2 _)
  obtain ⟨W3, hW3⟩ : ∃ W, W = w3.setCell ⟨q, 2, none⟩ (.int .i64 X) := ⟨_, rfl⟩
  rw [← hW3] at M3
  have HW3 : Hid (W3 = w3.setCell ⟨q, 2, none⟩ (.int .i64 X)) := hW3
  clear hW3
  go_upto_region 18 with fail
  rw [← HW3.out]
  clear y
  clear o0 o1 o2 o3 o4
  obtain ⟨a0, a1, a2, a3, a4⟩ := M3.out.own
  clear b2 b4 b8 b16
  obtain ⟨b0, b1, b2, b3, b4⟩ := M3.out.res
  have f0 := M3.out.rfr 0
  have f1 := M3.out.rfr 1
  have f2 := M3.out.rfr 2
  have f3 := M3.out.rfr 3
  have f4 := M3.out.rfr 4
  go_wp2_with fail
  refine bodyPost_ret (ret5 Try.results22 _ (g := w.heap.size) rfl (set5_at M3.out.res (.int .i64 k) (.int .i64 0) (.int .i64 X) (.slice none 0 0) (.slice none 0 0))) rfl ?_
  exact Mid.fin (x := ⟨k, _, _, _, _⟩) M3.out (isv_nil _ _ _ _ _)
set_option maxHeartbeats 4000000 in
set_option maxRecDepth 100000 in
theorem read7_calls (w : World) (g h : Nat) (l : List UInt8) (e : Int) (r : St w g h l e) (hh : h < w.heap.size) (k : Int) (l1 : List UInt8) (e1 : Int) (hk : sNum 8 l e = (k, l1, e1)) (hf : fld k = 7) :
    Calls Try.prog 22 #[.pointer (some ⟨g, 0, none⟩)] w (RdP w g h (rdF 7 k l1 e1)) := by
  have hg := r.lt
  have NC := num_st (w.alloc (.cells #[.int .i64 0, .int .i64 0, .int .i64 0, .slice none 0 0, .slice none 0 0] 28)) g h l e 8 (r.keep (by simp) ((bel1 w _).block g hg) ((bel1 w _).block h hh))
  rw [hk] at NC
  dsimp only at NC
  have HGH : Hid (g < w.heap.size ∧ h < w.heap.size) := ⟨hg, hh⟩
  have HNC : Hid (Calls Try.prog 41 #[.pointer (some ⟨g, 0, none⟩), .int .i64 8] (w.alloc (.cells #[.int .i64 0, .int .i64 0, .int .i64 0, .slice none 0 0, .slice none 0 0] 28)) (Rs _ g h (.int .i64 k) l1 e1)) := NC
  have HF : Hid (fld k = 7) := hf
  have CF : Hid (∀ W, Calls Try.prog 42 #[.int .i64 k] W fun e w' => e = .returned (.int .i64 7) ∧ w' = W) := fun W => by have := fields_calls k W; rwa [HF.out] at this
  have b2 : (bits .and .i64 7 2 != 0) = true := by decide
  have b4 : (bits .and .i64 7 4 != 0) = true := by decide
  have b8 : (bits .and .i64 7 8 != 0) = false := by decide
  have b16 : (bits .and .i64 7 16 != 0) = false := by decide
  clear NC r hg hh hk hf
  unfold rdF
  rw [if_pos rfl]
  have IS0 := fun W (r : St W g h l1 e1) => num_st W g h l1 e1 255 r
  generalize (sNum 255 l1 e1).1 = X at IS0 ⊢
  generalize (sNum 255 l1 e1).2 = q2 at IS0 ⊢
  obtain ⟨l3, e3⟩ := q2
  dsimp only at IS0 ⊢
  have IS : Hid (∀ W, St W g h l1 e1 → Calls Try.prog 41 #[.pointer (some ⟨g, 0, none⟩), .int .i64 255] W (Rs W g h (.int .i64 X) l3 e3)) := IS0
  clear IS0
  have T0 := fun W (r : St W g h l3 e3) => text_st W g h l3 e3 16384 r
  have TL := sText_le 16384 (by decide) l3 e3
  generalize (sText 16384 l3 e3).1 = Y at T0 TL ⊢
  generalize (sText 16384 l3 e3).2 = q2 at T0 ⊢
  obtain ⟨l5, e5⟩ := q2
  dsimp only at T0 ⊢
  have TS : Hid (∀ W, St W g h l3 e3 → Calls Try.prog 44 #[.pointer (some ⟨g, 0, none⟩), .int .i64 16384] W (Rs W g h (.string (str Y)) l5 e5)) := T0
  have HTL : Hid ((Y.length : Int) ≤ 16384) := TL
  clear T0 TL
  go_enter Try.func22, Try.ntmps22
  go_wp2_with fail
  refine HNC.out.mono ?_
  rintro x w1 ⟨rfl, s1, k1⟩
  have M0 : Hid (Mid w (w1.alloc (.cells #[.int .i64 k, .int .i64 0, .int .i64 0, .slice none 0 0, .slice none 0 0] 28)) g h w1.heap.size l1 e1 (.int .i64 k) (.int .i64 0) (.int .i64 0) (.slice none 0 0) (.slice none 0 0)) := Mid.first k HGH.out.1 HGH.out.2 s1 k1
  obtain ⟨W2, hW2⟩ : ∃ W2, W2 = w1.alloc (.cells #[.int .i64 k, .int .i64 0, .int .i64 0, .slice none 0 0, .slice none 0 0] 28) := ⟨_, rfl⟩
  obtain ⟨q, hq⟩ : ∃ q, q = w1.heap.size := ⟨_, rfl⟩
  rw [← hW2, ← hq] at M0
  have HW2 : Hid (W2 = w1.alloc (.cells #[.int .i64 k, .int .i64 0, .int .i64 0, .slice none 0 0, .slice none 0 0] 28)) := hW2
  have HQ : Hid (q = w1.heap.size) := hq
  clear s1 k1 hW2 hq
  go_upto_region 2 with fail
  rw [← HW2.out, ← HQ.out]
  obtain ⟨o0, o1, o2, o3, o4⟩ := M0.out.own
  go_wp2_with fail
  refine (CF.out _).mono ?_
  rintro e2 w2 ⟨rfl, hw2⟩
  rw [hw2]
  clear hw2 CF
  have CC : Hid (Calls Try.prog 41 #[.pointer (some ⟨g, 0, none⟩), .int .i64 255] W2 (Rs W2 g h (.int .i64 X) l3 e3)) := IS.out W2 M0.out.st
  go_wp2_with fail
  refine CC.out.mono ?_
  rintro x w3 ⟨rfl, s3, k3⟩
  have N3 : Hid (Mid w w3 g h q _ _ (.int .i64 k) (.int .i64 0) (.int .i64 0) (.slice none 0 0) (.slice none 0 0)) := M0.out.step s3 k3
  clear s3 k3 o0 o1 o2 o3 o4 CC
  obtain ⟨o0, o1, o2, o3, o4⟩ := N3.out.own
  have y := N3.out.ofr 1
  have M3 : Hid (Mid w (w3.setCell ⟨q, 1, none⟩ (.int .i64 X)) g h q l3 e3 (.int .i64 k) (.int .i64 X) (.int .i64 0) (.slice none 0 0) (.slice none 0 0)) := N3.out.put (.int .i64 X) (N3.out.own.set1 _)
  obtain ⟨W3, hW3⟩ : ∃ W, W = w3.setCell ⟨q, 1, none⟩ (.int .i64 X) := ⟨_, rfl⟩
  rw [← hW3] at M3
  have HW3 : Hid (W3 = w3.setCell ⟨q, 1, none⟩ (.int .i64 X)) := hW3
  clear hW3
  go_upto_region 8 with fail
  rw [← HW3.out]
  clear y o0 o1 o2 o3 o4
  obtain ⟨o0, o1, o2, o3, o4⟩ := M3.out.own
  have TT : Hid (Calls Try.prog 44 #[.pointer (some ⟨g, 0, none⟩), .int .i64 16384] W3 (Rs W3 g h (.string (str Y)) l5 e5)) := TS.out W3 M3.out.st
  go_wp2_with fail
  refine TT.out.mono ?_
  rintro x w5 ⟨rfl, s5, k5⟩
  have N5 : Hid (Mid w w5 g h q _ _ (.int .i64 k) (.int .i64 X) (.int .i64 0) (.slice none 0 0) (.slice none 0 0)) := M3.out.step s5 k5
  obtain ⟨cap, w6, hcv, hl6, hb6⟩ := conv_hl Y w5 (by have := HTL.out; omega)
  have N6 : Hid (Mid w w6 g h q l5 e5 (.int .i64 k) (.int .i64 X) (.int .i64 0) (.slice none 0 0) (.slice none 0 0)) := N5.out.step (s5.keep hb6.size (hb6.block g s5.lt) (hb6.block h (by have := HGH.out.2; have := N5.out.q0; have := N5.out.q1; omega))) (KB.of_below hb6)
  have HL6 : Hid (HL eb (fun B => B = w5.heap.size) w6 (.slice (some ⟨w5.heap.size, 0, none⟩) Y.length cap) Y) := hl6
  have HQ5 : Hid (w.heap.size < w5.heap.size ∧ q < w5.heap.size) := ⟨by have := N5.out.q0; have := N5.out.q1; omega, N5.out.q1⟩
  clear s5 k5 o0 o1 o2 o3 o4 TT hl6 hb6
  obtain ⟨o0, o1, o2, o3, o4⟩ := N6.out.own
  have y := N6.out.ofr 3
  have M6 : Hid (Mid w (w6.setCell ⟨q, 3, none⟩ (.slice (some ⟨w5.heap.size, 0, none⟩) Y.length cap)) g h q l5 e5 (.int .i64 k) (.int .i64 X) (.int .i64 0) (.slice (some ⟨w5.heap.size, 0, none⟩) Y.length cap) (.slice none 0 0)) := N6.out.put _ (N6.out.own.set3 _)
  have I6 : Hid (HL eb (fun B => w.heap.size < B) (w6.setCell ⟨q, 3, none⟩ (.slice (some ⟨w5.heap.size, 0, none⟩) Y.length cap)) (.slice (some ⟨w5.heap.size, 0, none⟩) Y.length cap) Y) := HL6.out.keep fun B hB _ => by
    have hB' : B = w5.heap.size := hB
    have := HQ5.out
    exact ⟨Below.heap_setCell _ _ _ _ (show B ≠ q by omega), by omega⟩
  obtain ⟨W6, hW6⟩ : ∃ W, W = w6.setCell ⟨q, 3, none⟩ (.slice (some ⟨w5.heap.size, 0, none⟩) Y.length cap) := ⟨_, rfl⟩
  rw [← hW6] at M6 I6
  have HW6 : Hid (W6 = w6.setCell ⟨q, 3, none⟩ (.slice (some ⟨w5.heap.size, 0, none⟩) Y.length cap)) := hW6
  clear hW6
  go_upto_region 18 with fail
  rw [← HW6.out]
  clear y
  clear o0 o1 o2 o3 o4
  obtain ⟨a0, a1, a2, a3, a4⟩ := M6.out.own
  clear b2 b4 b8 b16
  obtain ⟨b0, b1, b2, b3, b4⟩ := M6.out.res
  have f0 := M6.out.rfr 0
  have f1 := M6.out.rfr 1
  have f2 := M6.out.rfr 2
  have f3 := M6.out.rfr 3
  have f4 := M6.out.rfr 4
  go_wp2_with fail
  refine bodyPost_ret (ret5 Try.results22 _ (g := w.heap.size) rfl (set5_at M6.out.res (.int .i64 k) (.int .i64 X) (.int .i64 0) (.slice (some ⟨w5.heap.size, 0, none⟩) Y.length cap) (.slice none 0 0))) rfl ?_
  exact Mid.fin (x := ⟨k, _, _, _, _⟩) M6.out ⟨I6.out, HL.nil _ _ _⟩
set_option maxHeartbeats 4000000 in
set_option maxRecDepth 100000 in
theorem read17_calls (w : World) (g h : Nat) (l : List UInt8) (e : Int) (r : St w g h l e) (hh : h < w.heap.size) (k : Int) (l1 : List UInt8) (e1 : Int) (hk : sNum 8 l e = (k, l1, e1)) (hf : fld k = 17) :
    Calls Try.prog 22 #[.pointer (some ⟨g, 0, none⟩)] w (RdP w g h (rdF 17 k l1 e1)) := by
  have hg := r.lt
  have NC := num_st (w.alloc (.cells #[.int .i64 0, .int .i64 0, .int .i64 0, .slice none 0 0, .slice none 0 0] 28)) g h l e 8 (r.keep (by simp) ((bel1 w _).block g hg) ((bel1 w _).block h hh))
  rw [hk] at NC
  dsimp only at NC
  have HGH : Hid (g < w.heap.size ∧ h < w.heap.size) := ⟨hg, hh⟩
  have HNC : Hid (Calls Try.prog 41 #[.pointer (some ⟨g, 0, none⟩), .int .i64 8] (w.alloc (.cells #[.int .i64 0, .int .i64 0, .int .i64 0, .slice none 0 0, .slice none 0 0] 28)) (Rs _ g h (.int .i64 k) l1 e1)) := NC
  have HF : Hid (fld k = 17) := hf
  have CF : Hid (∀ W, Calls Try.prog 42 #[.int .i64 k] W fun e w' => e = .returned (.int .i64 17) ∧ w' = W) := fun W => by have := fields_calls k W; rwa [HF.out] at this
  have b2 : (bits .and .i64 17 2 != 0) = false := by decide
  have b4 : (bits .and .i64 17 4 != 0) = false := by decide
  have b8 : (bits .and .i64 17 8 != 0) = false := by decide
  have b16 : (bits .and .i64 17 16 != 0) = true := by decide
  clear NC r hg hh hk hf
  unfold rdF
  rw [if_neg (by decide), if_neg (by decide), if_neg (by decide), if_pos rfl]
  have IS0 := fun W (r : St W g h l1 e1) => num_st W g h l1 e1 64 r
  have n0 := sNum_nat 64 l1 e1
  have nle := sNum_le 64 (by decide) l1 e1
  generalize (sNum 64 l1 e1).1 = X at IS0 n0 nle ⊢
  generalize (sNum 64 l1 e1).2 = q2 at IS0 ⊢
  obtain ⟨l3, e3⟩ := q2
  dsimp only at IS0 ⊢
  obtain ⟨N, rfl⟩ := Int.eq_ofNat_of_zero_le n0
  rw [Int.toNat_natCast]
  have HN : Hid (N ≤ 64) := by show _ ≤ _; omega
  have hNb : (N : Int) ≤ 64 := by have := HN.out; omega
  have IS : Hid (∀ W, St W g h l1 e1 → Calls Try.prog 41 #[.pointer (some ⟨g, 0, none⟩), .int .i64 64] W (Rs W g h (.int .i64 (N : Int)) l3 e3)) := IS0
  clear IS0 n0 nle
  go_enter Try.func22, Try.ntmps22
  go_wp2_with fail
  refine HNC.out.mono ?_
  rintro x w1 ⟨rfl, s1, k1⟩
  have M0 : Hid (Mid w (w1.alloc (.cells #[.int .i64 k, .int .i64 0, .int .i64 0, .slice none 0 0, .slice none 0 0] 28)) g h w1.heap.size l1 e1 (.int .i64 k) (.int .i64 0) (.int .i64 0) (.slice none 0 0) (.slice none 0 0)) := Mid.first k HGH.out.1 HGH.out.2 s1 k1
  obtain ⟨W2, hW2⟩ : ∃ W2, W2 = w1.alloc (.cells #[.int .i64 k, .int .i64 0, .int .i64 0, .slice none 0 0, .slice none 0 0] 28) := ⟨_, rfl⟩
  obtain ⟨q, hq⟩ : ∃ q, q = w1.heap.size := ⟨_, rfl⟩
  rw [← hW2, ← hq] at M0
  have HW2 : Hid (W2 = w1.alloc (.cells #[.int .i64 k, .int .i64 0, .int .i64 0, .slice none 0 0, .slice none 0 0] 28)) := hW2
  have HQ : Hid (q = w1.heap.size) := hq
  clear s1 k1 hW2 hq
  go_upto_region 2 with fail
  rw [← HW2.out, ← HQ.out]
  obtain ⟨o0, o1, o2, o3, o4⟩ := M0.out.own
  go_wp2_with fail
  refine (CF.out _).mono ?_
  rintro e2 w2 ⟨rfl, hw2⟩
  rw [hw2]
  clear hw2 CF
  have CC : Hid (Calls Try.prog 41 #[.pointer (some ⟨g, 0, none⟩), .int .i64 64] W2 (Rs W2 g h (.int .i64 (N : Int)) l3 e3)) := IS.out W2 M0.out.st
  go_wp2_with fail
  refine CC.out.mono ?_
  rintro x w3 ⟨rfl, s3, k3⟩
  have N3 : Hid (Mid w w3 g h q l3 e3 (.int .i64 k) (.int .i64 0) (.int .i64 0) (.slice none 0 0) (.slice none 0 0)) := M0.out.step s3 k3
  obtain ⟨M, hmk, hM⟩ := make_ints N HN.out w3
  have N4 : Hid (Mid w (w3.alloc (.cells M 3)) g h q l3 e3 (.int .i64 k) (.int .i64 0) (.int .i64 0) (.slice none 0 0) (.slice none 0 0)) := N3.out.step (s3.keep (bel1 w3 _).size ((bel1 w3 _).block g s3.lt) ((bel1 w3 _).block h (by have := HGH.out.2; have := N3.out.q0; have := N3.out.q1; omega))) (KB.of_below (bel1 w3 _))
  have HC4 : Hid (∀ i, i < N → (w3.alloc (.cells M 3)).cell? ⟨w3.heap.size, i, none⟩ = some (.int .i64 0)) := fun i hi => by rw [cell_of_row _ w3.heap.size i _ 3 (0, 0) (heap_alloc_last w3 _)]; exact hM i hi
  have HZ4 : Hid (∀ o, (w3.alloc (.cells M 3)).frozen? ⟨w3.heap.size, o, none⟩ = false) := fun o => by unfold World.frozen?; rw [heap_alloc_last]; simp
  have HQ3 : Hid (w.heap.size < w3.heap.size ∧ q < w3.heap.size) := ⟨by have := N3.out.q0; have := N3.out.q1; omega, N3.out.q1⟩
  clear s3 k3 o0 o1 o2 o3 o4 CC hM
  obtain ⟨o0, o1, o2, o3, o4⟩ := N4.out.own
  have y := N4.out.ofr 4
  obtain ⟨K, hK⟩ : ∃ K, K = w3.heap.size := ⟨_, rfl⟩
  rw [← hK] at hmk HC4 HZ4 HQ3
  have HK : Hid (K = w3.heap.size) := hK
  have M4 : Hid (Mid w ((w3.alloc (.cells M 3)).setCell ⟨q, 4, none⟩ (.slice (some ⟨K, 0, none⟩) N N)) g h q l3 e3 (.int .i64 k) (.int .i64 0) (.int .i64 0) (.slice none 0 0) (.slice (some ⟨K, 0, none⟩) N N)) := N4.out.put _ (N4.out.own.set4 _)
  have C4 : Hid (∀ i, i < N → ((w3.alloc (.cells M 3)).setCell ⟨q, 4, none⟩ (.slice (some ⟨K, 0, none⟩) N N)).cell? ⟨K, i, none⟩ = some (.int .i64 0)) := fun i hi => (World.cell?_of_block (Below.heap_setCell _ _ _ _ (show K ≠ q by have := HQ3.out; omega))).trans (HC4.out i hi)
  have Z4 : Hid (∀ o, ((w3.alloc (.cells M 3)).setCell ⟨q, 4, none⟩ (.slice (some ⟨K, 0, none⟩) N N)).frozen? ⟨K, o, none⟩ = false) := fun o => (World.frozen?_setCell _ _ _ _).trans (HZ4.out o)
  obtain ⟨W4, hW4⟩ : ∃ W, W = (w3.alloc (.cells M 3)).setCell ⟨q, 4, none⟩ (.slice (some ⟨K, 0, none⟩) N N) := ⟨_, rfl⟩
  rw [← hW4] at M4 C4 Z4
  have HW4 : Hid (W4 = (w3.alloc (.cells M 3)).setCell ⟨q, 4, none⟩ (.slice (some ⟨K, 0, none⟩) N N)) := hW4
  clear hW4 hK N4 N3 HC4 HZ4
  go_upto_region 13 with fail
  rw [← HW4.out]
  clear y o0 o1 o2 o3 o4 hmk
  obtain ⟨o0, o1, o2, o3, o4⟩ := M4.out.own
  go_wp2_with fail
  clear o0 o1 o2 o3 o4
  go_loopw [5, 45] (fun _ i wr => ∃ (j : Nat) (acc : List Int) (lj : List UInt8) (ej : Int), j ≤ N ∧ i = .int .i64 (j : Int) ∧ Hid (acc.length = j) ∧ Hid (Mid w wr g h q lj ej (.int .i64 k) (.int .i64 0) (.int .i64 0) (.slice none 0 0) (.slice (some ⟨K, 0, none⟩) N N)) ∧ Hid (∀ i z, acc[i]? = some z → wr.cell? ⟨K, i, none⟩ = some (.int .i64 z)) ∧ Hid (∀ i, j ≤ i → i < N → wr.cell? ⟨K, i, none⟩ = some (.int .i64 0)) ∧ Hid (∀ o, wr.frozen? ⟨K, o, none⟩ = false) ∧ Hid (rdK N l3 e3 = (acc ++ (rdK (N - j) lj ej).1, (rdK (N - j) lj ej).2))) (fun _ i _ => N - (intOf i).toNat)
  case atStart => exact ⟨0, [], l3, e3, Nat.zero_le _, rfl, rfl, M4, (fun i z h => by simp at h), (fun i _ h => C4.out i h), Z4, (by show _ = _; simp)⟩
  case round =>
    obtain ⟨j, acc, lj, ej, hj, rfl, HA, HM, HCA, HCZ, HFz, HJ⟩ := hrel
    by_cases hlt : j < N
    · have hjl : (j : Int) < (N : Int) := by omega
      obtain ⟨o0, o1, o2, o3, o4⟩ := HM.out.own
      have NC0 := fun W (r : St W g h lj ej) => num_st W g h lj ej 1099511627776 r
      obtain ⟨m, hm⟩ : ∃ m, N - j = m + 1 := ⟨N - j - 1, by omega⟩
      have HJ2 : Hid (rdK N l3 e3 = (acc ++ ((sNum 1099511627776 lj ej).1 :: (rdK m (sNum 1099511627776 lj ej).2.1 (sNum 1099511627776 lj ej).2.2).1), (rdK m (sNum 1099511627776 lj ej).2.1 (sNum 1099511627776 lj ej).2.2).2)) := by show _ = _; rw [HJ.out, hm]; rfl
      have HMm : Hid (N - (j + 1) = m) := by show _ = _; omega
      generalize (sNum 1099511627776 lj ej).1 = X at NC0 HJ2
      generalize (sNum 1099511627776 lj ej).2.1 = l6 at NC0 HJ2
      generalize (sNum 1099511627776 lj ej).2.2 = e6 at NC0 HJ2
      have NC : Hid (∀ W, W.heap = wr.heap → KB g wr W → Calls Try.prog 41 #[.pointer (some ⟨g, 0, none⟩), .int .i64 1099511627776] W fun x w' => x = .returned (.int .i64 X) ∧ St w' g h l6 e6 ∧ KB g wr w') := fun W e1 k1 => (NC0 W (HM.out.st.keep k1.2.2.2.1 (by rw [e1]) (by rw [e1]))).mono (by
        rintro x w' ⟨rfl, s, k⟩
        exact ⟨rfl, s, k1.trans k⟩)
      have HW : Hid (wrap64 ((j : Int) + 1) = ((j + 1 : Nat) : Int)) := wr1 hlt (by have := HN.out; omega)
      clear NC0 hm hj
      go_upto_region 16 with fail
      go_region_held3 (fun w' => w'.cell? ⟨q, 4, none⟩ = some (.slice (some ⟨K, 0, none⟩) N N)) (first | go_keep | exact pq _) (first | (go_at_call_of 41 (Value.pointer (some ⟨g, 0, none⟩)); (first | refine (NC.out wr.drew rfl (KB.of_below ((Below.refl _ wr).drew))).mono ?_ | refine (NC.out wr rfl (KB.refl g wr)).mono ?_); rintro e w7 ⟨rfl, s7, k7⟩; have N7 : Hid (Mid w w7 g h q l6 e6 (.int .i64 k) (.int .i64 0) (.int .i64 0) (.slice none 0 0) (.slice (some ⟨K, 0, none⟩) N N)) := HM.out.step s7 k7; have K7 : Hid (KB g wr w7) := k7; clear s7 k7; have p4 := N7.out.own.2.2.2.2; have pq : ∀ v, (w7.setCell ⟨K, j, none⟩ v).cell? ⟨q, 4, none⟩ = some (.slice (some ⟨K, 0, none⟩) N N) := fun v => (World.cell?_of_block (Below.heap_setCell _ _ _ _ (show q ≠ K by have := HQ3.out; omega))).trans p4; have hgk : (⟨K, j, none⟩ : Addr).block ≠ g := (by have := HQ3.out; have := HGH.out.1; show K ≠ g; omega); have pc := K7.out.cell (HCZ.out j (Nat.le_refl _) hlt) hgk; have pf : w7.frozen? ⟨K, j, none⟩ = false := (K7.out.frozen (a := ⟨K, j, none⟩) (World.block_lt_of_cell? wr ⟨K, j, none⟩ (HCZ.out j (Nat.le_refl _) hlt)) hgk).trans (HFz.out j)))
      all_goals
        have M8 : Hid (Mid w (w7.setCell ⟨K, j, none⟩ (.int .i64 X)) g h q l6 e6 (.int .i64 k) (.int .i64 0) (.int .i64 0) (.slice none 0 0) (.slice (some ⟨K, 0, none⟩) N N)) := N7.out.away (KB.setCell K w7 j _) HQ3.out.1 (by have := HQ3.out; omega)
        have CA8 : Hid (∀ i z, (acc ++ [X])[i]? = some z → (w7.setCell ⟨K, j, none⟩ (.int .i64 X)).cell? ⟨K, i, none⟩ = some (.int .i64 z)) := fun i z hz => by
          by_cases hij : i < acc.length
          · rw [List.getElem?_append_left hij] at hz
            rw [cs5 _ _ _ _ _ (show i ≠ j by have := HA.out; omega)]
            exact K7.out.cell (HCA.out i z hz) hgk
          · have hi2 : i = acc.length := by
              have := (List.getElem?_eq_some_iff.1 hz).1
              simp at this
              omega
            rw [hi2, List.getElem?_append_right (Nat.le_refl _)] at hz
            simp at hz
            subst hz
            rw [hi2, HA.out]
            exact World.cell?_setCell_same _ _ _ pc
        have CZ8 : Hid (∀ i, j + 1 ≤ i → i < N → (w7.setCell ⟨K, j, none⟩ (.int .i64 X)).cell? ⟨K, i, none⟩ = some (.int .i64 0)) := fun i h1 h2 => by
          rw [cs5 _ _ _ _ _ (show i ≠ j by omega)]
          exact K7.out.cell (HCZ.out i (by omega) h2) hgk
        have F8 : Hid (∀ o, (w7.setCell ⟨K, j, none⟩ (.int .i64 X)).frozen? ⟨K, o, none⟩ = false) := fun o => (World.frozen?_setCell _ _ _ _).trans ((K7.out.frozen (a := ⟨K, o, none⟩) (World.block_lt_of_cell? wr ⟨K, j, none⟩ (HCZ.out j (Nat.le_refl _) hlt)) hgk).trans (HFz.out o))
        clear pc pf p4 pq o0 o1 o2 o3 o4
        generalize w7.setCell ⟨K, j, none⟩ (.int .i64 X) = W8 at M8 CA8 CZ8 F8 ⊢
        go_wp2_with fail
        refine ⟨⟨j + 1, acc ++ [X], l6, e6, hlt, by rw [Int.natCast_add]; rfl, (by show _ = _; rw [List.length_append, HA.out]; rfl), M8, CA8, CZ8, F8, (by show _ = _; rw [HMm.out, HJ2.out, List.append_assoc]; rfl)⟩, ?_⟩
        simp only [intOf]
        omega
    · obtain rfl : j = N := by omega
      have HJ2 : Hid (rdK j l3 e3 = (acc, lj, ej)) := by show _ = _; rw [HJ.out, Nat.sub_self]; simp [rdK]
      have I8 : Hid (HL ei (fun B => w.heap.size < B) wr (.slice (some ⟨K, 0, none⟩) j j) acc) := ⟨some ⟨K, 0, none⟩, j, by rw [HA.out], by rw [HA.out]; exact Nat.le_refl _, by have := HN.out; omega, fun i x hx => ⟨K, 0, rfl, HQ3.out.1, by rw [Nat.zero_add]; exact HCA.out i x hx⟩⟩
      clear hj
      obtain ⟨a0, a1, a2, a3, a4⟩ := HM.out.own
      obtain ⟨b0, b1, b2, b3, b4⟩ := HM.out.res
      have f0 := HM.out.rfr 0
      have f1 := HM.out.rfr 1
      have f2 := HM.out.rfr 2
      have f3 := HM.out.rfr 3
      have f4 := HM.out.rfr 4
      go_wp2_with fail
      refine bodyPost_ret (ret5 Try.results22 _ (g := w.heap.size) rfl (set5_at HM.out.res (.int .i64 k) (.int .i64 0) (.int .i64 0) (.slice none 0 0) (.slice (some ⟨K, 0, none⟩) j j))) rfl ?_
      rw [HJ2.out]
      exact Mid.fin (x := ⟨k, 0, 0, [], acc⟩) HM.out ⟨HL.nil _ _ _, I8.out⟩
theorem read_calls (w : World) (g h : Nat) (l : List UInt8) (e : Int) (r : St w g h l e) (hh : h < w.heap.size) :
    Calls Try.prog 22 #[.pointer (some ⟨g, 0, none⟩)] w (RdP w g h (rdS l e)) := by
  unfold rdS
  rcases fld_is (sNum 8 l e).1 with f | f | f | f | f | f
  · rw [f]; exact read7_calls w g h l e r hh _ _ _ rfl f
  · rw [f]; exact read3_calls w g h l e r hh _ _ _ rfl f
  · rw [f]; exact read9_calls w g h l e r hh _ _ _ rfl f
  · rw [f]; exact read17_calls w g h l e r hh _ _ _ rfl f
  · rw [f]; exact read1_calls w g h l e r hh _ _ _ rfl f
  · rw [f]; exact read0_calls w g h l e r hh _ _ _ rfl f
end Go.Proofs.Ytimiklekajelfaa
