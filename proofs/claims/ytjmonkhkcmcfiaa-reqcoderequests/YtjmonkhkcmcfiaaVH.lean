/- The bytes of a value and its shape, as plain functions; appending to bytes of one's own. -/
import Derived.Test.YtjmonkhkcmcfiaaVG
import Derived.Test.YtjmonkhkcmcfiaaVD
import Derived.Test.YtjmonkhkcmcfiaaPP
namespace Go.Proofs.Ytjmonkhkcmcfiaa
open Go.ChangeShapes Go.WideShapes Go.ChangeAt Go.RowKit
/-- A value's bytes. -/
def bytesT : Nat → Tv → List UInt8
  | 0, _ => []
  | n + 1, .mk k x b s l => enc k.toNat ++ (if k = 1 then be (tn x) 8 else if k = 2 then be b.toNat 8 else if k = 3 then enc s.size ++ s.data.toList else if k = 4 then enc l.length ++ (l.map (bytesT n)).flatten else [])
/-- A value may be, but for how many bytes it has; d: how many lists may stand in it. -/
def ShapeT : Nat → Int → Tv → Prop
  | 0, _, _ => False
  | n + 1, d, .mk k x b s l => Fits k x b s l.length ∧ (k = 4 → d ≠ 0) ∧ ∀ (i : Nat) t, l[i]? = some t → ShapeT n (d - 1) t
theorem grown_block {w w' : World} {row : Option Nat} (h : w.grownBy w' row) {k : Nat} (hk : k < w.heap.size) (hn : row ≠ some k) : w'.heap[k]? = w.heap[k]? := h.block k hk (fun e => hn e.symm)
theorem own_shape {B : Nat} {w : World} {v : Value} {l : List UInt8} (h : Own B w v l) : ∃ p c, v = .slice p l.length c := by
  obtain ⟨_, h | ⟨g, c, _, hv, _⟩⟩ := h
  · exact ⟨none, 0, by rw [h.1, h.2]⟩
  · exact ⟨_, _, hv⟩
theorem own_lt {B : Nat} {w : World} {v : Value} {l : List UInt8} (h : Own B w v l) {k : Nat} (hk : v.ownBlock = some k) : k < w.heap.size := by
  obtain ⟨_, h | ⟨g, _, _, hv, _, hc, _⟩⟩ := h
  · rw [h.1] at hk; cases hk
  · rw [hv] at hk; cases hk; exact (Array.getElem?_eq_some_iff.1 hc).1
theorem At5.same {w w' : World} {B p : Nat} {c0 c1 c2 c3 c4 : Value} (h : At5 w B p c0 c1 c2 c3 c4) (hb : w'.heap[B]? = w.heap[B]?) : At5 w' B p c0 c1 c2 c3 c4 := by
  have f : ∀ {q : Nat} {c : Value}, w.cell? ⟨B, q, none⟩ = some c → w'.cell? ⟨B, q, none⟩ = some c := fun hc => (World.cell?_of_block (w := w) hb).trans hc
  exact ⟨f h.1, f h.2.1, f h.2.2.1, f h.2.2.2.1, f h.2.2.2.2⟩
theorem wpList_app {w : World} {ops : Array Oper} {rest : List Oper} {o : Oper} {a : Act} {Q : Exit → Act → World → Prop} (hgd : o.guard = none) (s x : Operand)
    (ho : o.op = .call { callee := .builtin .append, args := #[s, x], argTypes := #[32, 32] }) (B : Nat) (v : Value) (l : List UInt8) (hs : a.eval s = v) (hown : Own B w v l)
    (g : Nat) (m : List UInt8) (hx : a.eval x = .slice (some ⟨g, 0, none⟩) m.length m.length) (hh : Lib.HoldsBytes w (.slice (some ⟨g, 0, none⟩) m.length m.length) m)
    (hl : l.length + m.length ≤ 140737488355328) (hB : B ≤ w.heap.size)
    (h : ∀ v' w', Own B w' v' (l ++ m) → Below B w w' → (∀ k, k < w.heap.size → v.ownBlock ≠ some k → w'.heap[k]? = w.heap[k]?) → wpList Try.prog ops Q rest (a.put o.dst v') w') : wpList Try.prog ops Q (o :: rest) a w := by
  obtain ⟨i0, hi, hz0, hz1, hz2⟩ := info_parts Try.info5
  obtain ⟨p, c, e, h1, h2⟩ := hh
  cases e
  refine wpList_append_own _ hgd s x 32 ho B 5 i0 (.int .u8 0) 1 1 Try.underlying32 hi hz0 hz1 hz2 rfl (by decide) v l.length (bval l) hs hown ⟨g, 0, none⟩ m.length m.length (bval m) hx ?_ ?_ ?_ ?_ ?_ hB ?_
  · simp [bval]
  · intro j u hj
    unfold bval at hj
    rw [List.getElem?_map] at hj
    obtain ⟨x, hx, rfl⟩ := Option.map_eq_some_iff.1 hj
    exact h2 _ rfl j x hx
  · intro u hu
    obtain ⟨x, _, rfl⟩ := List.mem_map.1 hu
    rfl
  · unfold maxLen; omega
  · omega
  · intro v' w' hown' hgrow _
    refine h v' w' ?_ ((Below.refl _ w).grown hgrow hB ?_) (fun k hk hn => grown_block hgrow hk hn)
    · have := hown'
      unfold Own
      rw [List.length_append]
      simpa [bval] using this
    · intro k hk
      obtain ⟨_, h | ⟨g', _, _, h, hg, _⟩⟩ := hown
      · rw [h.1] at hk; cases hk
      · rw [h] at hk; cases hk; exact hg
/-- What write and writeList answer: p: it may be; out: the bytes then. -/
def WP (w0 : World) (p : Prop) (out : List UInt8) (e : Ending) (w' : World) : Prop :=
  ∃ o r, e = .returned (.tuple #[o, .bool r]) ∧ (r = true ↔ p) ∧ (r = true → Own w0.heap.size w' o out) ∧ (r = false → o = .slice none 0 0) ∧ Below w0.heap.size w0 w'
theorem WP.no {w0 w' : World} {p : Prop} {out : List UInt8} (h : ¬ p) (hb : Below w0.heap.size w0 w') : WP w0 p out (.returned (.tuple #[.slice none 0 0, .bool false])) w' :=
  ⟨_, false, rfl, ⟨fun h => (by cases h), fun q => absurd q h⟩, (fun h => by cases h), fun _ => rfl, hb⟩
theorem WP.yes {w0 w' : World} {p : Prop} {o : Value} {out : List UInt8} (h : p) (ho : Own w0.heap.size w' o out) (hb : Below w0.heap.size w0 w') : WP w0 p out (.returned (.tuple #[o, .bool true])) w' :=
  ⟨_, true, rfl, ⟨fun _ => h, fun _ => rfl⟩, (fun _ => ho), (fun h => by cases h), hb⟩
/-- What write does at all values of at most n lists deep. -/
def WriteAt (n : Nat) : Prop := ∀ (v : Value) (t : Tv) (w0 w : World) (d : Nat) (acc : List UInt8) (out : Value), Is w0 n v t → Below w0.heap.size w0 w → Own w0.heap.size w out acc → d ≤ 4 → acc.length + 2 * d ≤ 2000 →
    Calls Try.prog 88 #[out, v, .int .i64 (d : Int)] w (WP w0 (ShapeT n d t ∧ (acc ++ bytesT n t).length ≤ 1000) (acc ++ bytesT n t))
theorem bel2' {w0 w w' : World} (h : Below w0.heap.size w0 w) (k : Below w.heap.size w w') : Below w0.heap.size w0 w' := bel2 h k
theorem flat_more {n : Nat} {l : List Tv} {j : Nat} (h : j < l.length) : ((l.take (j + 1)).map (bytesT n)).flatten = ((l.take j).map (bytesT n)).flatten ++ bytesT n l[j] := by
  rw [List.take_add_one, List.getElem?_eq_getElem h]
  simp only [Option.toList_some, List.map_append, List.flatten_append, List.map_cons, List.map_nil, List.flatten_cons, List.flatten_nil, List.append_nil]
theorem flat_le {n : Nat} {l : List Tv} {j : Nat} : ((l.take j).map (bytesT n)).flatten.length ≤ ((l.map (bytesT n)).flatten).length := by
  conv => rhs; rw [← List.take_append_drop j l]
  rw [List.map_append, List.flatten_append, List.length_append]
  omega
theorem enc_one {n : Nat} (h : n ≤ 12) : (enc n).length = 1 := by unfold enc; rw [if_pos (by omega)]; rfl
theorem enc_small {n : Nat} (h : n ≤ 200) : (enc n).length = 1 := by unfold enc; rw [if_pos (by omega)]; rfl
theorem own_below {B : Nat} {w w' : World} {v : Value} {l : List UInt8} (h : Own B w v l) (hb : Below w.heap.size w w') : Own B w' v l := by
  obtain ⟨hl, h | ⟨g, c, cur, hv, hg, hc, h1, h2, h3, h4⟩⟩ := h
  · exact ⟨hl, .inl h⟩
  · exact ⟨hl, .inr ⟨g, c, cur, hv, hg, by rw [hb.block g (Array.getElem?_eq_some_iff.1 hc).1]; exact hc, h1, h2, h3, h4⟩⟩
set_option maxHeartbeats 2000000 in
theorem writeList_calls (n : Nat) (ih : WriteAt n) (a : Option Addr) (c : Nat) (l : List Tv) (w0 w : World) (d : Nat) (acc : List UInt8) (out : Value) (hr : Row (Is w0 n) w0 a l) (hb : Below w0.heap.size w0 w) (ho : Own w0.heap.size w out acc)
    (hd : d ≤ 4) (ha : acc.length + 2 * d ≤ 2001) (hl : l.length ≤ 12) :
    Calls Try.prog 98 #[out, .slice a l.length c, .int .i64 (d : Int)] w (WP w0 (d ≠ 0 ∧ (∀ (i : Nat) t, l[i]? = some t → ShapeT n ((d : Int) - 1) t) ∧ (l = [] ∨ (acc ++ (enc l.length ++ (l.map (bytesT n)).flatten)).length ≤ 1000)) (acc ++ (enc l.length ++ (l.map (bytesT n)).flatten))) := by
  by_cases hd0 : d = 0
  · subst hd0
    have HB : Hid (Below w0.heap.size w0 w) := hb
    clear hr hb ho ha
    go_enter Try.func98, Try.ntmps98
    go_wp2_with fail
    go_ret2
    exact WP.no (fun h => h.1 rfl) HB.out
  · obtain ⟨d, rfl⟩ : ∃ d', d = d' + 1 := ⟨d - 1, by omega⟩
    have f0 : (((d + 1 : Nat) : Int) == 0) = false := by simp; omega
    have hdw : wrap64 (((d + 1 : Nat) : Int) - 1) = (d : Int) := by unfold wrap64; omega
    have NC := num_calls (.slice none 0 0) [] (l.length : Int) (by omega) w (holds_nil w) (by simp)
    rw [List.nil_append, Int.toNat_natCast] at NC
    have HN : Hid (Calls Try.prog 70 #[.slice none 0 0, .int .i64 (l.length : Int)] w (NB w (enc l.length))) := NC
    have HR : Hid (Row (Is w0 n) w0 a l) := hr
    have HB : Hid (Below w0.heap.size w0 w) := hb
    have HO : Hid (Own w0.heap.size w out acc) := ho
    have HA : Hid (acc.length + 2 * (d + 1) ≤ 2001) := ha
    have HL : Hid (l.length ≤ 12) := hl
    have HD : Hid (d + 1 ≤ 4) := hd
    clear hr hb ho ha hl NC hd hd0
    generalize hD : ((d + 1 : Nat) : Int) = D at f0 hdw
    have HDe : Hid (D - 1 = (d : Int)) := by show _ = _; omega
    clear hD
    go_enter Try.func98, Try.ntmps98
    go_wp2_with fail
    refine Calls.mono HN.out ?_
    rintro e w1 ⟨g, hg, rfl, hh, hb1⟩
    have HH : Hid (Lib.HoldsBytes w1 _ _) := hh
    have HB1 : Hid (Below w0.heap.size w0 w1) := bel2 HB.out hb1
    have HO1 : Hid (Own w0.heap.size w1 out acc) := own_below HO.out hb1
    have hE : (enc l.length).length ≤ 9 := by rw [enc_one HL.out]; omega
    have HE : Hid (acc.length + (enc l.length).length ≤ 140737488355328) := by show _ ≤ _; have := HA.out; omega
    clear hg hh hb1 hE
    go_wp2_with (at_builtin; go_must (refine wpList_app rfl _ _ rfl w0.heap.size _ acc rfl HO1.out g (enc l.length) rfl HH.out HE.out HB1.out.size ?_))
    intro o2 w2 ho2 hb2 _
    have HB2 : Hid (Below w0.heap.size w0 w2) := HB1.out.trans hb2
    have HO2 : Hid (Own w0.heap.size w2 o2 (acc ++ enc l.length)) := ho2
    clear ho2 hb2
    go_wp2_with fail
    go_loopw [0, 20] (fun o i wr => ∃ j : Nat, j ≤ l.length ∧ i = .int .i64 j ∧ Hid (Own w0.heap.size wr o (acc ++ (enc l.length ++ ((l.take j).map (bytesT n)).flatten))) ∧ Hid (Below w0.heap.size w0 wr) ∧
        Hid (∀ (i : Nat) t, i < j → l[i]? = some t → ShapeT n d t) ∧ Hid (j = 0 ∨ (acc ++ (enc l.length ++ ((l.take j).map (bytesT n)).flatten)).length ≤ 1000)) (fun _ i _ => l.length - (intOf i).toNat)
    case atStart => exact ⟨0, Nat.zero_le _, rfl, (by show Own _ _ _ _; simpa using HO2.out), HB2, (fun i t h => absurd h (Nat.not_lt_zero _)), .inl rfl⟩
    case round =>
      obtain ⟨j, hj, rfl, HOj, HBj, HSj, HLj⟩ := hrel
      by_cases hlt : j < l.length
      · obtain ⟨B, o, c0, c1, c2, c3, c4, rfl, h5, hi⟩ := HR.out j _ (List.getElem?_eq_getElem hlt)
        obtain ⟨k', x', b', s', a', m', c', rfl, rfl, rfl, rfl, rfl⟩ := hi.shape
        obtain ⟨e0, e1, e2, e3, e4⟩ := h5.below HBj.out
        have C0 := fun W (hB : Below wr.heap.size wr W) => ih _ _ w0 W d _ _ hi (bel2' HBj.out hB) (own_below HOj.out hB) (by have := HD.out; omega) (by
          have h1 := HA.out
          have h2 := enc_one HL.out
          rcases HLj.out with h | h
          · subst h
            simp [h2]
            omega
          · have := HD.out
            omega)
        clear hi h5
        go_wp2_with fail
        refine Calls.mono (C0 _ (bel1 _ _)) ?_
        rintro e w3 ⟨o3, r3, rfl, hr3, hr4, hr5, hb3⟩
        have HR3 : Hid (r3 = true ↔ _) := hr3
        have HR4 : Hid (r3 = true → _) := hr4
        have HB3 : Hid (Below w0.heap.size w0 w3) := hb3
        have HW : Hid (wrap64 ((j : Int) + 1) = ((j + 1 : Nat) : Int)) := wr1 hlt (by have := HL.out; omega)
        clear hr3 hr4 hr5 hb3 C0 e0 e1 e2 e3 e4
        cases r3 with
        | false =>
          go_wp2_with fail
          go_ret2
          refine WP.no (fun h => ?_) HB3.out
          have h1 := h.2.1 j _ (List.getElem?_eq_getElem hlt)
          rw [HDe.out] at h1
          have h2 : (acc ++ (enc l.length ++ ((l.take j).map (bytesT n)).flatten) ++ bytesT n l[j]).length ≤ 1000 := by
            have h3 := h.2.2.resolve_left (fun e => by rw [e] at hlt; exact absurd hlt (Nat.not_lt_zero _))
            have h4 := flat_le (n := n) (l := l) (j := j + 1)
            rw [flat_more hlt] at h4
            simp only [List.length_append] at h3 h4 ⊢
            omega
          exact absurd (HR3.out.2 ⟨h1, h2⟩) (by decide)
        | true =>
          have hp := HR3.out.1 rfl
          have HP : Hid (ShapeT n d l[j] ∧ _) := hp
          have HO3 : Hid (Own w0.heap.size w3 o3 _) := HR4.out rfl
          clear hp HR3 HR4
          go_wp2_with fail
          have es : acc ++ (enc l.length ++ ((l.take j).map (bytesT n)).flatten) ++ bytesT n l[j] = acc ++ (enc l.length ++ ((l.take (j + 1)).map (bytesT n)).flatten) := by rw [flat_more hlt]; simp
          refine ⟨⟨j + 1, hlt, by rw [HW.out], ?_, HB3, ?_, ?_⟩, meas hlt HW.out⟩
          · have := HO3.out; rw [es] at this; exact this
          · intro i t hi ht
            by_cases hij : i < j
            · exact HSj.out i t hij ht
            · obtain rfl : i = j := by omega
              rw [List.getElem?_eq_getElem hlt] at ht
              cases ht
              exact HP.out.1
          · have := HP.out.2; rw [es] at this; exact .inr this
      · obtain rfl : j = l.length := by omega
        go_wp2_with fail
        go_ret2
        rw [List.take_length] at HOj HLj
        refine WP.yes ⟨by omega, ?_, ?_⟩ HOj.out HBj.out
        · intro i t ht
          rw [HDe.out]
          exact HSj.out i t (List.getElem?_eq_some_iff.1 ht).1 ht
        · rcases HLj.out with h | h
          · exact .inl (List.eq_nil_of_length_eq_zero h)
          · exact .inr h
theorem wf64 {x : Int} (h0 : -9223372036854775808 ≤ x) (h1 : x ≤ 9223372036854775807) : (Lit.int .i64 x).wf = true := by
  have e : IntKind.i64.min = -9223372036854775808 := by decide +kernel
  simp only [Lit.wf, decide_eq_true_eq, Bool.and_eq_true]
  exact ⟨by rw [e]; exact h0, h1⟩
theorem data_len (s : ByteArray) : s.data.toList.length = s.size := Array.length_toList
theorem fit_bound {k x b : Int} {s : ByteArray} {n : Nat} (h : Fits k x b s n) : 0 ≤ k ∧ k ≤ 4 ∧ s.size ≤ 200 ∧ n ≤ 12 := ⟨h.1, h.2.1, h.2.2.2.2.2.2.1, h.2.2.2.2.2.2.2.2⟩
set_option maxHeartbeats 4000000 in
theorem write_calls : ∀ n, WriteAt n := by
  intro n
  induction n with
  | zero => intro v t w0 w d acc out h; exact h.elim
  | succ n ih =>
    rintro v ⟨k, x, b, s, l⟩ w0 w d acc out ⟨a, c, rfl, hf, hr⟩ hb ho hd ha
    have CF := fun W => fits_calls k x b s a l.length c W hf
    have HF : Hid (Fit k x b s l.length c) := hf
    have HR : Hid (Row (Is w0 n) w0 a l) := hr
    have HB : Hid (Below w0.heap.size w0 w) := hb
    have HO : Hid (Own w0.heap.size w out acc) := ho
    have HA : Hid (acc.length + 2 * d ≤ 2000) := ha
    have HD : Hid (d ≤ 4) := hd
    have HI : Hid (WriteAt n) := ih
    clear hr hb ho ha hd hf ih
    go_enter Try.func88, Try.ntmps88
    go_wp2_with fail
    refine Calls.mono (CF _) ?_
    rintro e w1 ⟨⟨r1, rfl, hr1⟩, hb1⟩
    have hb2 := bel2 (bel1 w _) hb1
    have HB1 : Hid (Below w0.heap.size w0 w1) := bel2 HB.out hb2
    have HO1 : Hid (Own w0.heap.size w1 out acc) := own_below HO.out hb2
    have P1 : Hid (At5 w1 w.heap.size 0 (.int .i64 k) (.int .i64 x) (.int .u64 b) (.string s) (.slice a l.length c)) := (box_at w _ _ _ _ _).below hb1
    have HR1 : Hid (r1 = true ↔ Fits k x b s l.length) := hr1
    have HZ : Hid (w.heap.size < w1.heap.size) := by show _ < _; have := hb1.size; simp at this; omega
    have HQ : Hid (out.ownBlock = some w.heap.size → w.heap.size < w.heap.size) := fun h => own_lt HO.out h
    clear hb1 hb2 hr1 CF HB HO
    cases r1 with
    | false =>
      go_wp2_with fail
      go_ret2
      exact WP.no (fun h => absurd (HR1.out.2 h.1.1) (by decide)) HB1.out
    | true =>
      have HFi : Hid (Fits k x b s l.length) := HR1.out.1 rfl
      clear HR1
      have NC := num_calls (.slice none 0 0) [] k (by have := (fit_bound HFi.out).2.1; omega) w1 (holds_nil w1) (by simp)
      rw [List.nil_append] at NC
      have HN : Hid (Calls Try.prog 70 #[.slice none 0 0, .int .i64 k] w1 (NB w1 (enc k.toNat))) := NC
      have HE1 : Hid ((enc k.toNat).length = 1) := enc_one (by have := (fit_bound HFi.out).2.1; omega)
      obtain ⟨p0, _, _, _, _⟩ := P1.out
      clear NC
      go_wp2_with fail
      refine Calls.mono HN.out ?_
      rintro e w2 ⟨g, _, rfl, hh, hb2⟩
      have HH : Hid (Lib.HoldsBytes w2 _ _) := hh
      have HB2 : Hid (Below w0.heap.size w0 w2) := bel2 HB1.out hb2
      have HO2 : Hid (Own w0.heap.size w2 out acc) := own_below HO1.out hb2
      have P2 : Hid (At5 w2 w.heap.size 0 (.int .i64 k) (.int .i64 x) (.int .u64 b) (.string s) (.slice a l.length c)) := P1.out.below hb2
      have HZ2 : Hid (w.heap.size < w2.heap.size) := Nat.lt_of_lt_of_le HZ.out hb2.size
      have HE : Hid (acc.length + (enc k.toNat).length ≤ 140737488355328) := by show _ ≤ _; have := HA.out; have := HE1.out; omega
      clear hh hb2 p0
      go_wp2_with (at_builtin; go_must (refine wpList_app rfl _ _ rfl w0.heap.size _ acc rfl HO2.out g (enc k.toNat) rfl HH.out HE.out HB2.out.size ?_))
      intro o3 w3 ho3 hb3 hk3
      have HB3 : Hid (Below w0.heap.size w0 w3) := HB2.out.trans hb3
      have HO3 : Hid (Own w0.heap.size w3 o3 (acc ++ enc k.toNat)) := ho3
      obtain ⟨p0, p1, p2, p3, p4⟩ := P2.out.same (hk3 _ HZ2.out (fun h => absurd (HQ.out h) (Nat.lt_irrefl _)))
      have HL3 : Hid ((acc ++ enc k.toNat).length ≤ 2001) := by show _ ≤ _; rw [List.length_append]; have := HA.out; have := HE1.out; omega
      clear ho3 hb3 hk3
      obtain ⟨L, hL⟩ : ∃ L, L = acc ++ enc k.toNat := ⟨_, rfl⟩
      have HLe : Hid (L = acc ++ enc k.toNat) := hL
      rw [← hL] at HO3 HL3
      clear hL
      rcases (by have := (fit_bound HFi.out).1; have := (fit_bound HFi.out).2.1; omega : k = 0 ∨ k = 1 ∨ k = 2 ∨ k = 3 ∨ k = 4) with rfl | rfl | rfl | rfl | rfl
      · have HBT : Hid (bytesT (n + 1) (.mk 0 x b s l) = enc (0 : Int).toNat) := by show _ = _; unfold bytesT; rw [if_neg (by decide), if_neg (by decide), if_neg (by decide), if_neg (by decide), List.append_nil]
        have HX : Hid (acc ++ bytesT (n + 1) (.mk 0 x b s l) = L) := by show _ = _; rw [HBT.out, HLe.out]
        have HSh : Hid (ShapeT (n + 1) d (.mk 0 x b s l)) := ⟨HFi.out, fun h => absurd h (by decide), (by have h0 := HFi.out.2.2.2.2.2.2.2.1.resolve_left (by decide); exact fun i t ht => by rw [List.eq_nil_of_length_eq_zero h0] at ht; cases ht)⟩
        obtain ⟨pp, cc, ho⟩ := own_shape HO3.out
        subst ho
        by_cases hlen : L.length ≤ 1000
        · have hdec : decide ((1000 : Int) < (L.length : Int)) = false := decide_eq_false (by omega)
          have HLen : Hid (L.length ≤ 1000) := hlen
          clear hlen
          go_wp2_with fail
          go_ret2
          exact WP.yes ⟨HSh.out, by rw [HX.out]; exact HLen.out⟩ (by rw [HX.out]; exact HO3.out) HB3.out
        · have hdec : decide ((1000 : Int) < (L.length : Int)) = true := decide_eq_true (by omega)
          have HLen : Hid (¬ L.length ≤ 1000) := hlen
          clear hlen
          go_wp2_with fail
          go_ret2
          exact WP.no (fun h => HLen.out (by have := h.2; rw [HX.out] at this; exact this)) HB3.out
      · have HBT : Hid (bytesT (n + 1) (.mk 1 x b s l) = enc (1 : Int).toNat ++ be (tn x) 8) := by show _ = _; unfold bytesT; rw [if_pos rfl]
        have HSh : Hid (ShapeT (n + 1) d (.mk 1 x b s l)) := ⟨HFi.out, fun h => absurd h (by decide), (by have h0 := HFi.out.2.2.2.2.2.2.2.1.resolve_left (by decide); exact fun i t ht => by rw [List.eq_nil_of_length_eq_zero h0] at ht; cases ht)⟩
        have NC := int_calls (.slice none 0 0) [] x (wf64 HF.out.x0 HF.out.x1) w3 (holds_nil w3) (by simp)
        rw [List.nil_append] at NC
        have HN2 : Hid (Calls Try.prog 97 #[.slice none 0 0, .int .i64 x] w3 (NB w3 (be (tn x) 8))) := NC
        have HLm : Hid ((be (tn x) 8).length ≤ 1000) := (by show _ ≤ _; rw [be_length]; omega)
        clear NC
        go_wp2_with fail
        refine Calls.mono HN2.out ?_
        rintro e w4 ⟨g4, _, rfl, hh4, hb4⟩
        have HH4 : Hid (Lib.HoldsBytes w4 _ _) := hh4
        have HB4 : Hid (Below w0.heap.size w0 w4) := bel2 HB3.out hb4
        have HO4 : Hid (Own w0.heap.size w4 o3 L) := own_below HO3.out hb4
        have HE4 : Hid (L.length + (be (tn x) 8).length ≤ 140737488355328) := by show _ ≤ _; have := HL3.out; have := HLm.out; omega
        clear hh4 hb4
        go_wp2_with (at_builtin; go_must (refine wpList_app rfl _ _ rfl w0.heap.size _ L rfl HO4.out g4 (be (tn x) 8) rfl HH4.out HE4.out HB4.out.size ?_))
        intro o5 w5 ho5 hb5 _
        have HB5 : Hid (Below w0.heap.size w0 w5) := HB4.out.trans hb5
        obtain ⟨M, hM⟩ : ∃ M, M = L ++ be (tn x) 8 := ⟨_, rfl⟩
        have HO5 : Hid (Own w0.heap.size w5 o5 M) := by rw [hM]; exact ho5
        have HX : Hid (acc ++ bytesT (n + 1) (.mk 1 x b s l) = M) := by show _ = _; rw [hM, HLe.out, HBT.out]; simp
        clear ho5 hb5 hM
        obtain ⟨pp, cc, ho⟩ := own_shape HO5.out
        subst ho
        by_cases hlen : M.length ≤ 1000
        · have hdec : decide ((1000 : Int) < (M.length : Int)) = false := decide_eq_false (by omega)
          have HLen : Hid (M.length ≤ 1000) := hlen
          clear hlen
          go_wp2_with fail
          go_ret2
          exact WP.yes ⟨HSh.out, by rw [HX.out]; exact HLen.out⟩ (by rw [HX.out]; exact HO5.out) HB5.out
        · have hdec : decide ((1000 : Int) < (M.length : Int)) = true := decide_eq_true (by omega)
          have HLen : Hid (¬ M.length ≤ 1000) := hlen
          clear hlen
          go_wp2_with fail
          go_ret2
          exact WP.no (fun h => HLen.out (by have := h.2; rw [HX.out] at this; exact this)) HB5.out
      · have HBT : Hid (bytesT (n + 1) (.mk 2 x b s l) = enc (2 : Int).toNat ++ be b.toNat 8) := by show _ = _; unfold bytesT; rw [if_neg (by decide), if_pos rfl]
        have HSh : Hid (ShapeT (n + 1) d (.mk 2 x b s l)) := ⟨HFi.out, fun h => absurd h (by decide), (by have h0 := HFi.out.2.2.2.2.2.2.2.1.resolve_left (by decide); exact fun i t ht => by rw [List.eq_nil_of_length_eq_zero h0] at ht; cases ht)⟩
        obtain ⟨b, rfl⟩ : ∃ m : Nat, b = m := ⟨b.toNat, by have := HF.out.b0; omega⟩
        rw [Int.toNat_natCast] at HBT
        have NC := bits_calls (.slice none 0 0) [] b w3 (holds_nil w3) (by simp)
        rw [List.nil_append] at NC
        have HN2 : Hid (Calls Try.prog 74 #[.slice none 0 0, .int .u64 (b : Int)] w3 (NB w3 (be b 8))) := NC
        have HLm : Hid ((be b 8).length ≤ 1000) := (by show _ ≤ _; rw [be_length]; omega)
        clear NC
        go_wp2_with fail
        refine Calls.mono HN2.out ?_
        rintro e w4 ⟨g4, _, rfl, hh4, hb4⟩
        have HH4 : Hid (Lib.HoldsBytes w4 _ _) := hh4
        have HB4 : Hid (Below w0.heap.size w0 w4) := bel2 HB3.out hb4
        have HO4 : Hid (Own w0.heap.size w4 o3 L) := own_below HO3.out hb4
        have HE4 : Hid (L.length + (be b 8).length ≤ 140737488355328) := by show _ ≤ _; have := HL3.out; have := HLm.out; omega
        clear hh4 hb4
        go_wp2_with (at_builtin; go_must (refine wpList_app rfl _ _ rfl w0.heap.size _ L rfl HO4.out g4 (be b 8) rfl HH4.out HE4.out HB4.out.size ?_))
        intro o5 w5 ho5 hb5 _
        have HB5 : Hid (Below w0.heap.size w0 w5) := HB4.out.trans hb5
        obtain ⟨M, hM⟩ : ∃ M, M = L ++ be b 8 := ⟨_, rfl⟩
        have HO5 : Hid (Own w0.heap.size w5 o5 M) := by rw [hM]; exact ho5
        have HX : Hid (acc ++ bytesT (n + 1) (.mk 2 x (b : Int) s l) = M) := by show _ = _; rw [hM, HLe.out, HBT.out]; simp
        clear ho5 hb5 hM
        obtain ⟨pp, cc, ho⟩ := own_shape HO5.out
        subst ho
        by_cases hlen : M.length ≤ 1000
        · have hdec : decide ((1000 : Int) < (M.length : Int)) = false := decide_eq_false (by omega)
          have HLen : Hid (M.length ≤ 1000) := hlen
          clear hlen
          go_wp2_with fail
          go_ret2
          exact WP.yes ⟨HSh.out, by rw [HX.out]; exact HLen.out⟩ (by rw [HX.out]; exact HO5.out) HB5.out
        · have hdec : decide ((1000 : Int) < (M.length : Int)) = true := decide_eq_true (by omega)
          have HLen : Hid (¬ M.length ≤ 1000) := hlen
          clear hlen
          go_wp2_with fail
          go_ret2
          exact WP.no (fun h => HLen.out (by have := h.2; rw [HX.out] at this; exact this)) HB5.out
      · have HBT : Hid (bytesT (n + 1) (.mk 3 x b s l) = enc (3 : Int).toNat ++ (enc s.size ++ s.data.toList)) := by show _ = _; unfold bytesT; rw [if_neg (by decide), if_neg (by decide), if_pos rfl]
        have HSh : Hid (ShapeT (n + 1) d (.mk 3 x b s l)) := ⟨HFi.out, fun h => absurd h (by decide), (by have h0 := HFi.out.2.2.2.2.2.2.2.1.resolve_left (by decide); exact fun i t ht => by rw [List.eq_nil_of_length_eq_zero h0] at ht; cases ht)⟩
        have NC := text_calls (.slice none 0 0) [] s w3 (holds_nil w3) (by have := (fit_bound HFi.out).2.2.1; omega) (by have := (fit_bound HFi.out).2.2.1; show 0 + s.size + 9 ≤ 281474976710656; omega)
        rw [List.nil_append] at NC
        obtain ⟨m, hm⟩ : ∃ m, m = enc s.size ++ s.data.toList := ⟨_, rfl⟩
        have HM : Hid (m = enc s.size ++ s.data.toList) := hm
        have HN2 : Hid (Calls Try.prog 71 #[.slice none 0 0, .string s] w3 (NB w3 m)) := by rw [hm]; exact NC
        have HLm : Hid (m.length ≤ 1000) := (by show _ ≤ _; rw [hm]; have h1 := (fit_bound HFi.out).2.2.1; have h2 := enc_small h1; rw [List.length_append, h2]; have h3 := data_len s; omega)
        clear NC hm
        go_wp2_with fail
        refine Calls.mono HN2.out ?_
        rintro e w4 ⟨g4, _, rfl, hh4, hb4⟩
        have HH4 : Hid (Lib.HoldsBytes w4 _ _) := hh4
        have HB4 : Hid (Below w0.heap.size w0 w4) := bel2 HB3.out hb4
        have HO4 : Hid (Own w0.heap.size w4 o3 L) := own_below HO3.out hb4
        have HE4 : Hid (L.length + m.length ≤ 140737488355328) := by show _ ≤ _; have := HL3.out; have := HLm.out; omega
        clear hh4 hb4
        go_wp2_with (at_builtin; go_must (refine wpList_app rfl _ _ rfl w0.heap.size _ L rfl HO4.out g4 m rfl HH4.out HE4.out HB4.out.size ?_))
        intro o5 w5 ho5 hb5 _
        have HB5 : Hid (Below w0.heap.size w0 w5) := HB4.out.trans hb5
        obtain ⟨M, hM⟩ : ∃ M, M = L ++ m := ⟨_, rfl⟩
        have HO5 : Hid (Own w0.heap.size w5 o5 M) := by rw [hM]; exact ho5
        have HX : Hid (acc ++ bytesT (n + 1) (.mk 3 x b s l) = M) := by show _ = _; rw [hM, HLe.out, HBT.out, HM.out]; simp
        clear ho5 hb5 hM
        obtain ⟨pp, cc, ho⟩ := own_shape HO5.out
        subst ho
        by_cases hlen : M.length ≤ 1000
        · have hdec : decide ((1000 : Int) < (M.length : Int)) = false := decide_eq_false (by omega)
          have HLen : Hid (M.length ≤ 1000) := hlen
          clear hlen
          go_wp2_with fail
          go_ret2
          exact WP.yes ⟨HSh.out, by rw [HX.out]; exact HLen.out⟩ (by rw [HX.out]; exact HO5.out) HB5.out
        · have hdec : decide ((1000 : Int) < (M.length : Int)) = true := decide_eq_true (by omega)
          have HLen : Hid (¬ M.length ≤ 1000) := hlen
          clear hlen
          go_wp2_with fail
          go_ret2
          exact WP.no (fun h => HLen.out (by have := h.2; rw [HX.out] at this; exact this)) HB5.out
      · have HBT : Hid (bytesT (n + 1) (.mk 4 x b s l) = enc (4 : Int).toNat ++ (enc l.length ++ (l.map (bytesT n)).flatten)) := by show _ = _; unfold bytesT; rw [if_neg (by decide), if_neg (by decide), if_neg (by decide), if_pos rfl]
        have HX : Hid (acc ++ bytesT (n + 1) (.mk 4 x b s l) = L ++ (enc l.length ++ (l.map (bytesT n)).flatten)) := by show _ = _; rw [HLe.out, HBT.out]; simp
        have WC := writeList_calls n HI.out a c l w0 w3 d L o3 HR.out HB3.out HO3.out HD.out (by have h1 := HA.out; have h2 := HE1.out; rw [HLe.out, List.length_append]; omega) (fit_bound HFi.out).2.2.2
        have HWC : Hid (Calls Try.prog 98 _ _ _) := WC
        clear WC
        go_wp2_with fail
        refine Calls.mono HWC.out ?_
        rintro e w5 ⟨o5, r5, rfl, hr5, hr6, hr7, hb5⟩
        have HB5 : Hid (Below w0.heap.size w0 w5) := hb5
        have HR5 : Hid (r5 = true ↔ _) := hr5
        have HR6 : Hid (r5 = true → _) := hr6
        clear hr5 hr6 hr7 hb5
        cases r5 with
        | false =>
          go_wp2_with fail
          go_ret2
          refine WP.no (fun h => ?_) HB5.out
          refine absurd (HR5.out.2 ⟨fun e => h.1.2.1 rfl (by rw [e]; rfl), h.1.2.2, .inr ?_⟩) (by decide)
          have := h.2
          rw [HX.out] at this
          exact this
        | true =>
          have hp := HR5.out.1 rfl
          have HP : Hid (_ ∧ _ ∧ _) := hp
          have HO5' : Hid (Own w0.heap.size w5 o5 _) := HR6.out rfl
          obtain ⟨M, hM⟩ : ∃ M, M = L ++ (enc l.length ++ (l.map (bytesT n)).flatten) := ⟨_, rfl⟩
          rw [← hM] at HO5' HX
          have HSh : Hid (ShapeT (n + 1) d (.mk 4 x b s l)) := ⟨HFi.out, fun _ e => HP.out.1 (by omega), HP.out.2.1⟩
          clear hp HR5 HR6 hM HP
          obtain ⟨pp, cc, ho⟩ := own_shape HO5'.out
          subst ho
          by_cases hlen : M.length ≤ 1000
          · have hdec : decide ((1000 : Int) < (M.length : Int)) = false := decide_eq_false (by omega)
            have HLen : Hid (M.length ≤ 1000) := hlen
            clear hlen
            go_wp2_with fail
            go_ret2
            exact WP.yes ⟨HSh.out, by rw [HX.out]; exact HLen.out⟩ (by rw [HX.out]; exact HO5'.out) HB5.out
          · have hdec : decide ((1000 : Int) < (M.length : Int)) = true := decide_eq_true (by omega)
            have HLen : Hid (¬ M.length ≤ 1000) := hlen
            clear hlen
            go_wp2_with fail
            go_ret2
            exact WP.no (fun h => HLen.out (by have := h.2; rw [HX.out] at this; exact this)) HB5.out
end Go.Proofs.Ytjmonkhkcmcfiaa
