/- The contract of firedAt, of at most twelve timers. -/
import Derived.Test.YtmcbgfcpalfcjaaOF
import Derived.Lib.SmallJoins
namespace Go.Proofs.Ytmcbgfcpalfcjaa
open Go.ChangeShapes Go.WideShapes Go.ChangeAt Go.RowKit
/-- An event's cells: its kind, time, number, due time, name; no value, no policy. -/
def evR (k t n d : Int) (s : ByteArray) : List Value := [.int .i64 k, .int .i64 t, .int .i64 n, .int .i64 d, .string s, .int .i64 0, .int .i64 0, .int .u64 0, .string ⟨#[]⟩, .slice none 0 0, .int .i64 0, .int .u64 0, .int .i64 0]
def tmR (x : Tm) : List Value := [.string x.s, .int .i64 x.d]
theorem infoT : (Try.prog.info? 49).map (fun i => (i.zero, i.size, i.bytes)) = some (some (.agg #[.string ⟨#[]⟩, .int .i64 0]), 2, 24) := by kernel_rfl
theorem infoE : (Try.prog.info? 51).map (fun i => (i.zero, i.size, i.bytes)) = some (some (.agg #[.int .i64 0, .int .i64 0, .int .i64 0, .int .i64 0, .string ⟨#[]⟩, .int .i64 0, .int .i64 0, .int .u64 0, .string ⟨#[]⟩, .slice none 0 0, .int .i64 0, .int .u64 0, .int .i64 0]), 13, 136) := by kernel_rfl
theorem flatM_len {α : Type} {k : Nat} (f : α → List Value) (hf : ∀ x, (f x).length = k) : ∀ l : List α, (l.flatMap f).length = l.length * k
  | [] => by simp
  | x :: l => by rw [List.flatMap_cons, List.length_append, hf, flatM_len f hf l, List.length_cons, Nat.succ_mul]; omega
theorem flatM_get {α : Type} {k : Nat} (f : α → List Value) (hf : ∀ x, (f x).length = k) : ∀ (l : List α) (i j : Nat) (x : α) (v : Value), l[i]? = some x → (f x)[j]? = some v → (l.flatMap f)[i * k + j]? = some v
  | [], i, j, x, v, h, _ => by simp at h
  | y :: l, 0, j, x, v, h, hv => by
    cases h
    have := (List.getElem?_eq_some_iff.1 hv).1
    rw [List.flatMap_cons, Nat.zero_mul, Nat.zero_add, List.getElem?_append_left this]
    exact hv
  | y :: l, i + 1, j, x, v, h, hv => by
    have := flatM_get f hf l i j x v h hv
    rw [List.flatMap_cons, List.getElem?_append_right (by rw [hf, Nat.succ_mul]; omega), hf, ← this]
    congr 1
    rw [Nat.succ_mul]
    omega
/-- A row of the call's own whose elements are those of a list. -/
def OwnL {α : Type} (w : World) (base e k : Nat) (f : α → List Value) (v : Value) (l : List α) : Prop := w.ownsRow base e k v l.length (l.flatMap f)
theorem OwnL.row {α : Type} {w : World} {base e k g cap : Nat} {f : α → List Value} (hf : ∀ x, (f x).length = k) {l : List α} (h : OwnL w base e k f (.slice (some ⟨g, 0, none⟩) l.length cap) l) {i : Nat} {x : α} (hi : l[i]? = some x) : w.rangeAt g (0 + i * k) (f x) := fun j v hv => by
  have := World.ownsRow.cells h (g := g) rfl (i * k + j) v (flatM_get f hf l i j x v hi hv)
  rw [addp] at this
  rw [← this, Nat.add_assoc]
theorem take_filter_yes {l : List Tm} {p : Tm → Bool} {j : Nat} {x : Tm} (hx : l[j]? = some x) (hp : p x = true) : (l.take (j + 1)).filter p = (l.take j).filter p ++ [x] := by
  rw [List.take_add_one, hx, List.filter_append]
  simp [hp]
theorem take_filter_no {l : List Tm} {p : Tm → Bool} {j : Nat} {x : Tm} (hx : l[j]? = some x) (hp : p x = false) : (l.take (j + 1)).filter p = (l.take j).filter p := by
  rw [List.take_add_one, hx, List.filter_append]
  simp [hp]
theorem OwnL.snoc {α : Type} {w : World} {base e k : Nat} {f : α → List Value} {v : Value} {l : List α} {x : α} (h : w.ownsRow base e k v (l.length + 1) (l.flatMap f ++ f x)) : OwnL w base e k f v (l ++ [x]) := by
  unfold OwnL
  rw [List.length_append, List.flatMap_append]
  simpa using h
theorem lenF (l : List Tm) (p : Tm → Bool) (j : Nat) : ((l.take j).filter p).length ≤ l.length := Nat.le_trans (List.length_filter_le _ _) (List.length_take_le' _ _)
/-- The timers that go off at t. -/
def offT (s : Sta) (t : Int) : List Tm := s.tm.filter fun x => decide (x.d ≤ t)
set_option maxHeartbeats 4000000 in
set_option maxRecDepth 100000 in
theorem fired_calls (n : Nat) (cs : Array Value) (s : Sta) (t : Int) (w : World) (h : Rs w n cs s) (hl : s.tm.length ≤ 12) :
    Calls Try.prog 20 #[.agg cs, .int .i64 t] w fun e w' => (∃ v, e = .returned v ∧ OwnL w' w.heap.size 51 13 (fun x : Tm => evR 10 t 0 0 x.s) v (isort (offT s t))) ∧ Below w.heap.size w w' := by
  obtain ⟨ta, tc, t1, t2⟩ := h.tm
  have HT2 : Hid (RowS (fun _ => True) w ta 2 (s.tm.map Tm.cells)) := t2
  have HL : Hid (s.tm.length ≤ 12) := hl
  obtain ⟨iT, hiT, zT0, zT1, zT2⟩ := info_parts infoT
  obtain ⟨iE, hiE, zE0, zE1, zE2⟩ := info_parts infoE
  have HQ : Hid (∀ v w', OwnL w' w.heap.size 51 13 (fun x : Tm => evR 10 t 0 0 x.s) v (isort (offT s t)) → Below w.heap.size w w' → (∃ v', Ending.returned v = .returned v' ∧ OwnL w' w.heap.size 51 13 (fun x : Tm => evR 10 t 0 0 x.s) v' (isort (offT s t))) ∧ Below w.heap.size w w') := fun v w' a b => ⟨⟨v, rfl, a⟩, b⟩
  clear h t2 hl
  go_enter Try.func20, Try.ntmps20
  go_wp2_with fail
  have HG0 : Hid ((w.alloc (.cells cs 33)).heap[w.heap.size]? = some (.cells cs 33 (0, 0))) := heap_alloc_new w _
  have HB0 : Hid (Below w.heap.size w (w.alloc (.cells cs 33))) := bel1 w _
  have HO0 : Hid (OwnL (w.alloc (.cells cs 33)) (w.alloc (.cells cs 33)).heap.size 49 2 tmR (.slice none 0 0) ((s.tm.take 0).filter fun x => decide (x.d ≤ t))) := World.ownsRow_nil _ _ _ _
  generalize w.alloc (.cells cs 33) = W0 at HG0 HB0 HO0 ⊢
  go_loopw [5, 14] (fun v i wr => ∃ j : Nat, j ≤ s.tm.length ∧ i = .int .i64 j ∧ Hid (Below W0.heap.size W0 wr) ∧ Hid (OwnL wr W0.heap.size 49 2 tmR v ((s.tm.take j).filter fun x => decide (x.d ≤ t)))) (fun _ i _ => s.tm.length - (intOf i).toNat)
  case atStart => exact ⟨0, Nat.zero_le _, rfl, Below.refl _ _, HO0⟩
  case round =>
    obtain ⟨j, hj, rfl, HB, HO⟩ := hrel
    by_cases hlt : j < s.tm.length
    · obtain ⟨tt, htt⟩ : ∃ tt, s.tm[j]? = some tt := ⟨_, List.getElem?_eq_getElem hlt⟩
      obtain ⟨_, _, TB, tp, hta, _, hl⟩ := HT2.out j tt.cells (by rw [List.getElem?_map, htt]; rfl)
      have hbw : Below w.heap.size w wr := bel2 HB0.out HB.out
      have l0 := cellW (hl 0 (.string tt.s) rfl) hbw
      have l1 := cellW (hl 1 (.int .i64 tt.d) rfl) hbw
      rw [Nat.add_zero] at l0
      subst hta
      have hjl : (j : Int) < (s.tm.length : Int) := by omega
      have HW1 : Hid (wrap64 ((j : Int) + 1) = ((j + 1 : Nat) : Int)) := wr1 hlt (by have := HL.out; omega)
      have HTT : Hid (s.tm[j]? = some tt) := htt
      clear htt hl hbw
      by_cases hd : tt.d ≤ t
      · have HP : Hid (decide (tt.d ≤ t) = true) := decide_eq_true hd
        have hown := World.ownsRow.alloc (World.ownsRow.alloc HO.out (.cells #[.string tt.s, .int .i64 tt.d] 49)) (.cells #[.string tt.s, .int .i64 tt.d] 49)
        go_wp2_with (at_builtin; refine wpList_append_own _ rfl _ _ 30 rfl W0.heap.size 49 iT (.agg #[.string ⟨#[]⟩, .int .i64 0]) 2 24 Try.underlying30 hiT zT0 zT1 zT2 rfl (by decide) _ _ _ rfl hown ⟨wr.heap.size + 1, 0, none⟩ 1 1 [.string tt.s, .int .i64 tt.d] rfl ?qc1 ?qc2 ?qc3 ?qc4 ?qc5 ?qc6 ?_)
        case qc1 => rfl
        case qc2 => intro j u hj; rw [addp]; exact lies_range (Lies.row (heap_alloc2_new wr _ _)) j u hj
        case qc3 => intro u hu; simp only [List.mem_cons, List.not_mem_nil, or_false] at hu; rcases hu with rfl | rfl <;> rfl
        case qc4 => have := lenF s.tm (fun x => decide (x.d ≤ t)) j; have := HL.out; unfold maxLen; omega
        case qc5 => have := lenF s.tm (fun x => decide (x.d ≤ t)) j; have := HL.out; omega
        case qc6 => have := HB.out.size; simp; omega
        intro v' w1 hown1 hgrow _
        have HO1 : Hid (OwnL w1 W0.heap.size 49 2 tmR v' ((s.tm.take (j + 1)).filter fun x => decide (x.d ≤ t))) := by
          show OwnL _ _ _ _ _ _ _
          rw [take_filter_yes HTT.out HP.out]
          exact OwnL.snoc hown1
        have HB1 : Hid (Below W0.heap.size W0 w1) := ((HB.out.alloc HB.out.size _).alloc (by have := HB.out.size; simp; omega) _).grown hgrow (by have := HB.out.size; simp; omega) (fun k hk => (World.ownsRow.lt HO.out k hk).1)
        clear hown1 hgrow
        go_wp2_with fail
        first | exact ⟨⟨j + 1, hlt, by rw [HW1.out], HB1, HO1⟩, meas hlt HW1.out⟩ | ((repeat apply Exists.intro); exact ⟨⟨⟨j + 1, hlt, by rw [HW1.out], HB1, HO1⟩, meas hlt HW1.out⟩, rfl⟩)
      · have HP : Hid (decide (tt.d ≤ t) = false) := decide_eq_false hd
        have hd2 : decide (tt.d ≤ t) = false := decide_eq_false hd
        have HO1 : Hid (OwnL (wr.alloc (.cells #[.string tt.s, .int .i64 tt.d] 49)) W0.heap.size 49 2 tmR u5 ((s.tm.take (j + 1)).filter fun x => decide (x.d ≤ t))) := by
          show OwnL _ _ _ _ _ _ _
          rw [take_filter_no HTT.out HP.out]
          exact World.ownsRow.alloc HO.out _
        have HB1 : Hid (Below W0.heap.size W0 (wr.alloc (.cells #[.string tt.s, .int .i64 tt.d] 49))) := bel2 HB.out (bel1 _ _)
        clear hd
        go_wp2_with fail
        first | exact ⟨⟨j + 1, hlt, by rw [HW1.out], HB1, HO1⟩, meas hlt HW1.out⟩ | ((repeat apply Exists.intro); exact ⟨⟨⟨j + 1, hlt, by rw [HW1.out], HB1, HO1⟩, meas hlt HW1.out⟩, rfl⟩)
    · obtain rfl : j = s.tm.length := by omega
      have HO2 : Hid (OwnL wr W0.heap.size 49 2 tmR u5 (offT s t)) := by
        have := HO.out
        rw [List.take_length] at this
        exact this
      have HLO : Hid ((offT s t).length ≤ 12) := Nat.le_trans (List.length_filter_le _ _) HL.out
      have HBw : Hid (Below w.heap.size w wr) := bel2 HB0.out HB.out
      have HZ0 : Hid (w.heap.size + 1 ≤ W0.heap.size) := (Array.getElem?_eq_some_iff.1 HG0.out).1
      clear HO hlt hj
      go_wp2_with fail
      rcases Go.Joins.ownsRow_forms HO2.out with ⟨hv, h0⟩ | ⟨g, cap, hv⟩
      · obtain rfl : u5 = .slice none 0 0 := hv
        have e0 : offT s t = [] := List.eq_nil_of_length_eq_zero h0
        have HE : Hid (OwnL wr w.heap.size 51 13 (fun x : Tm => evR 10 t 0 0 x.s) (.slice none 0 0) (isort (offT s t))) := by
          rw [e0]
          exact World.ownsRow_nil _ _ _ _
        clear HO2 HLO e0 h0 HB
        refine Calls.mono (sortnil_calls _) ?_
        rintro e w5 ⟨rfl, e1⟩
        have e2 := e1.symm
        subst e2
        clear e1
        go_wp2_with fail
        refine wp_loop_rounds 1 ?_
        rw [rounds_succ]
        go_wp2_with fail
        go_ret
        exact HQ.out _ _ HE.out HBw.out
      · have hg := (World.ownsRow.lt HO2.out g (by rw [hv]; rfl)).1
        have hgl := (World.ownsRow.lt HO2.out g (by rw [hv]; rfl)).2
        obtain rfl : u5 = .slice (some ⟨g, 0, none⟩) (offT s t).length cap := hv
        have hrT : RowT wr g 0 (offT s t) := fun i x hx => OwnL.row (f := tmR) (k := 2) (fun _ => rfl) HO2.out hx
        have hfz : ∀ p, wr.frozen? ⟨g, p, none⟩ = false := fun p => World.ownsRow.frozenAt HO2.out p
        have KS := sortfunc_calls (offT s t) g 0 cap wr HLO.out hgl hrT hfz
        clear hrT hfz HO2 HB
        refine Calls.mono KS ?_
        rintro e w5 ⟨rfl, hS⟩
        have HS : Hid (RowT w5 g 0 (isort (offT s t))) := hS.row
        have HB5 : Hid (Below w.heap.size w w5) := HBw.out.trans (hS.kb.below (by have := HZ0.out; omega) (by have := HBw.out.size; omega))
        have HGl : Hid (g < w5.heap.size) := Nat.lt_of_lt_of_le hgl hS.kb.2.2.2.1
        have HO5 : Hid (OwnL w5 w5.heap.size 51 13 (fun x : Tm => evR 10 t 0 0 x.s) (.slice none 0 0) ((isort (offT s t)).take 0)) := World.ownsRow_nil _ _ _ _
        have HML : Hid ((isort (offT s t)).length = (offT s t).length) := isort_length _
        clear KS hS hg hgl
        generalize hm : isort (offT s t) = m at HS HO5 HML
        have HM : Hid (isort (offT s t) = m) := hm
        clear hm
        generalize (offT s t).length = N at HML HLO ⊢
        go_wp2_with fail
        go_loopw [8, 31] (fun v i wr => ∃ j : Nat, j ≤ N ∧ i = .int .i64 j ∧ Hid (Below w5.heap.size w5 wr) ∧ Hid (OwnL wr w5.heap.size 51 13 (fun x : Tm => evR 10 t 0 0 x.s) v (m.take j))) (fun _ i _ => N - (intOf i).toNat)
        case atStart => exact ⟨0, Nat.zero_le _, rfl, Below.refl _ _, HO5⟩
        case round =>
          obtain ⟨j, hj, rfl, HB, HO⟩ := hrel
          by_cases hlt : j < N
          · obtain ⟨tt, htt⟩ : ∃ tt, m[j]? = some tt := ⟨_, List.getElem?_eq_getElem (by rw [HML.out]; exact hlt)⟩
            have hr := HS.out j tt htt
            have l0 := cellW (hr 0 (.string tt.s) rfl) HB.out
            have l1 := cellW (hr 1 (.int .i64 tt.d) rfl) HB.out
            rw [Nat.add_zero, Nat.zero_add] at l0
            rw [Nat.zero_add] at l1
            have hjl : (j : Int) < (N : Int) := by omega
            have HW1 : Hid (wrap64 ((j : Int) + 1) = ((j + 1 : Nat) : Int)) := wr1 hlt (by have := HLO.out; omega)
            have HTT : Hid (m[j]? = some tt) := htt
            have hown := World.ownsRow.alloc (World.ownsRow.alloc HO.out (.cells #[.string tt.s, .int .i64 tt.d] 49)) (.cells #[.int .i64 10, .int .i64 t, .int .i64 0, .int .i64 0, .string tt.s, .int .i64 0, .int .i64 0, .int .u64 0, .string ⟨#[]⟩, .slice none 0 0, .int .i64 0, .int .u64 0, .int .i64 0] 51)
            clear htt hr
            go_wp2_with (at_builtin; refine wpList_append_own _ rfl _ _ 38 rfl w5.heap.size 51 iE (.agg #[.int .i64 0, .int .i64 0, .int .i64 0, .int .i64 0, .string ⟨#[]⟩, .int .i64 0, .int .i64 0, .int .u64 0, .string ⟨#[]⟩, .slice none 0 0, .int .i64 0, .int .u64 0, .int .i64 0]) 13 136 Try.underlying38 hiE zE0 zE1 zE2 rfl (by decide) _ _ _ rfl hown ⟨wr.heap.size + 1, 0, none⟩ 1 1 [.int .i64 10, .int .i64 t, .int .i64 0, .int .i64 0, .string tt.s, .int .i64 0, .int .i64 0, .int .u64 0, .string ⟨#[]⟩, .slice none 0 0, .int .i64 0, .int .u64 0, .int .i64 0] rfl ?qc1 ?qc2 ?qc3 ?qc4 ?qc5 ?qc6 ?_)
            case qc1 => rfl
            case qc2 => intro j u hj; rw [addp]; exact lies_range (Lies.row (heap_alloc2_new wr _ _)) j u hj
            case qc3 => intro u hu; simp only [List.mem_cons, List.not_mem_nil, or_false] at hu; rcases hu with rfl | rfl | rfl | rfl | rfl | rfl | rfl | rfl | rfl | rfl | rfl | rfl | rfl <;> rfl
            case qc4 => have := List.length_take_le j m; have := HLO.out; unfold maxLen; omega
            case qc5 => have := List.length_take_le j m; have := HLO.out; omega
            case qc6 => have := HB.out.size; simp; omega
            intro v' w1 hown1 hgrow _
            have HO1 : Hid (OwnL w1 w5.heap.size 51 13 (fun x : Tm => evR 10 t 0 0 x.s) v' (m.take (j + 1))) := by
              show OwnL _ _ _ _ _ _ _
              rw [List.take_add_one, HTT.out]
              exact OwnL.snoc (f := fun x : Tm => evR 10 t 0 0 x.s) (by rw [List.length_take]; exact hown1)
            have HB1 : Hid (Below w5.heap.size w5 w1) := ((HB.out.alloc HB.out.size _).alloc (by have := HB.out.size; simp; omega) _).grown hgrow (by have := HB.out.size; simp; omega) (fun k hk => (World.ownsRow.lt HO.out k hk).1)
            clear hown1 hgrow
            go_wp2_with fail
            first | exact ⟨⟨j + 1, hlt, by rw [HW1.out], HB1, HO1⟩, meas hlt HW1.out⟩ | ((repeat apply Exists.intro); exact ⟨⟨⟨j + 1, hlt, by rw [HW1.out], HB1, HO1⟩, meas hlt HW1.out⟩, rfl⟩)
          · obtain rfl : j = N := by omega
            have HO2 : Hid (OwnL wr w.heap.size 51 13 (fun x : Tm => evR 10 t 0 0 x.s) u8 m) := by
              have := HO.out
              rw [← HML.out, List.take_length] at this
              exact Go.Joins.ownsRow_le this HB5.out.size
            have HB6 : Hid (Below w.heap.size w wr) := bel2 HB5.out HB.out
            clear HO
            go_wp2_with fail
            go_ret
            exact HQ.out _ _ (by rw [HM.out]; exact HO2.out) HB6.out
end Go.Proofs.Ytmcbgfcpalfcjaa
