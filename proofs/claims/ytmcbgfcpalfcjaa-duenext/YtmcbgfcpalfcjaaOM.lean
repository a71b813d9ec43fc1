/- The contracts of due.times and of slices.Min. -/
import Derived.Test.YtmcbgfcpalfcjaaOK
namespace Go.Proofs.Ytmcbgfcpalfcjaa
open Go.ChangeShapes Go.WideShapes Go.ChangeAt Go.RowKit
/-- A list of ints of the call's own. -/
def OwnI (w : World) (base : Nat) (v : Value) (l : List Int) : Prop := w.ownsRow base 3 1 v l.length (l.map (.int .i64))
theorem infoI : (Try.prog.info? 3).map (fun i => (i.zero, i.size, i.bytes)) = some (some (.int .i64 0), 1, 8) := by kernel_rfl
theorem app_int {ops : Array Oper} {rest : List Oper} {o : Oper} {a : Act} {w : World} {Q : Exit → Act → World → Prop} (hgd : o.guard = none) (s x : Operand) (ho : o.op = .call { callee := .builtin .append, args := #[s, x], argTypes := #[52, 52] })
    (base : Nat) (v : Value) (l : List Int) (hs : a.eval s = v) (hown : OwnI w base v l) (g : Nat) (hg : w.heap.size = g) (hx : a.eval x = .slice (some ⟨g, 0, none⟩) 1 1) (z : Int) (hlen : l.length ≤ 1000) (hbase : base ≤ w.heap.size)
    (h : ∀ v' w', OwnI w' base v' (l ++ [z]) → Below base w w' → wpList Try.prog ops Q rest (a.put o.dst v') w') : wpList Try.prog ops Q (o :: rest) a (w.alloc (.cells #[.int .i64 z] 3)) := by
  obtain ⟨i3, hi, z0, z1, z2⟩ := info_parts infoI
  subst hg
  refine wpList_append_own _ hgd s x 52 ho base 3 i3 (.int .i64 0) 1 8 Try.underlying52 hi z0 z1 z2 rfl (by decide) v _ _ hs (World.ownsRow.alloc hown _) ⟨w.heap.size, 0, none⟩ 1 1 [.int .i64 z] hx rfl ?_ ?_ (by unfold maxLen; omega) (by omega) (Nat.le_trans hbase (bel1 w _).size) ?_
  · intro j u hj
    rw [addp, Nat.zero_add]
    have := Lies.row (heap_alloc_new w (.cells #[.int .i64 z] 3)) j u (by simpa using hj)
    rwa [Nat.zero_add] at this
  · intro u hu
    simp only [List.mem_cons, List.not_mem_nil, or_false] at hu
    subst hu
    rfl
  intro v' w' h1 h2 _
  refine h v' w' ?_ (((Below.refl _ w).alloc hbase _).grown h2 (Nat.le_trans hbase (bel1 w _).size) fun k hk => (World.ownsRow.lt hown k hk).1)
  unfold OwnI
  rw [List.length_append, List.map_append]
  exact h1
def preL (s : Sta) : List Int := (if 0 < s.dl then [s.dl] else []) ++ (if s.ts = 2 then [s.td] else [])
/-- The times of all that is under way. -/
def tmsL (s : Sta) : List Int := preL s ++ s.tm.map (·.d) ++ (if s.ts = 0 ∧ s.fresh = true then [s.time] else [])
theorem lenP (s : Sta) : (preL s).length ≤ 2 := by unfold preL; split <;> split <;> simp
theorem pre_00 {s : Sta} (h : s.dl ≤ 0) (k : ¬ s.ts = 2) : preL s = [] := by unfold preL; rw [if_neg (Int.not_lt.2 h), if_neg k]; rfl
theorem pre_01 {s : Sta} (h : s.dl ≤ 0) (k : s.ts = 2) : preL s = [s.td] := by unfold preL; rw [if_neg (Int.not_lt.2 h), if_pos k]; rfl
theorem pre_10 {s : Sta} (h : 0 < s.dl) (k : ¬ s.ts = 2) : preL s = [s.dl] := by unfold preL; rw [if_pos h, if_neg k]; rfl
theorem pre_11 {s : Sta} (h : 0 < s.dl) (k : s.ts = 2) : preL s = [s.dl, s.td] := by unfold preL; rw [if_pos h, if_pos k]; rfl
theorem tms_no (s : Sta) {l : List Int} (_ : preL s = l) {w : World} {base : Nat} {v : Value} (h : OwnI w base v (preL s ++ s.tm.map (·.d))) (hn : ¬ (s.ts = 0 ∧ s.fresh = true)) : OwnI w base v (tmsL s) := by
  unfold tmsL
  rw [if_neg hn, List.append_nil]
  exact h
theorem tms_yes (s : Sta) {l : List Int} (_ : preL s = l) {w : World} {base : Nat} {v : Value} (h : OwnI w base v (preL s ++ s.tm.map (·.d) ++ [s.time])) (hn : s.ts = 0 ∧ s.fresh = true) : OwnI w base v (tmsL s) := by
  unfold tmsL
  rw [if_pos hn]
  exact h
theorem OwnI.mono {w : World} {base base' : Nat} {v : Value} {l : List Int} (h : OwnI w base v l) (hb : base' ≤ base) : OwnI w base' v l := by
  obtain ⟨h1, h2 | ⟨g, c, cur, h3, h4, h5⟩⟩ := h
  · exact ⟨h1, .inl h2⟩
  · exact ⟨h1, .inr ⟨g, c, cur, h3, Nat.le_trans hb h4, h5⟩⟩
def TmP (s : Sta) (w : World) (e : Ending) (w' : World) : Prop := (∃ v, e = .returned v ∧ OwnI w' w.heap.size v (tmsL s)) ∧ Below w.heap.size w w'
set_option maxHeartbeats 8000000 in
set_option maxRecDepth 100000 in
theorem times_calls (n : Nat) (cs : Array Value) (s : Sta) (w : World) (h : Rs w n cs s) (hl : s.tm.length ≤ 12) : Calls Try.prog 17 #[.agg cs] w (TmP s w) := by
  obtain ⟨ta, tc, t1, t2⟩ := h.tm
  have HT2 : Hid (RowS (fun _ => True) w ta 2 (s.tm.map Tm.cells)) := t2
  have HL : Hid (s.tm.length ≤ 12) := hl
  have c3 := h.c3
  have c4 := h.c4
  have c16 := h.c16
  have c18 := h.c18
  have c21 := h.c21
  have HG0 : Hid ((w.alloc (.cells cs 33)).heap[w.heap.size]? = some (.cells cs 33 (0, 0))) := heap_alloc_new w _
  have HB0 : Hid (Below w.heap.size w (w.alloc (.cells cs 33))) := bel1 w _
  have HQ : Hid (∀ v w', OwnI w' (w.alloc (.cells cs 33)).heap.size v (tmsL s) → Below w.heap.size w w' → TmP s w (.returned v) w') := fun v w' a b => ⟨⟨v, rfl, a.mono (bel1 w _).size⟩, b⟩
  have g0 : ∀ j, (w.alloc (.cells cs 33)).cell? ⟨w.heap.size, j, none⟩ = cs[j]? := fun j => cell_of_row _ _ j cs 33 (0, 0) HG0.out
  clear h t2 hl
  generalize TmP s w = Q at HQ ⊢
  go_enter Try.func17, Try.ntmps17
  go_upto_region 2 with fail
  generalize w.alloc (.cells cs 33) = W0 at HG0 HB0 HQ g0 ⊢
  have H0 : Hid (Below W0.heap.size W0 W0 ∧ OwnI W0 W0.heap.size (.slice none 0 0) []) := ⟨Below.refl _ _, World.ownsRow_nil _ _ _ _⟩
  by_cases hd : 0 < s.dl
  case neg =>
    have HD : Hid (s.dl ≤ 0) := Int.not_lt.1 hd
    have dd : decide (0 < s.dl) = false := decide_eq_false hd
    clear hd
    by_cases ht : s.ts = 2
    case neg =>
      have HT : Hid (¬ s.ts = 2) := ht
      have dt : (s.ts == 2) = false := by simpa using ht
      clear ht
      go_wp2_with fail
      have HC : Hid (Below W0.heap.size W0 W0 ∧ OwnI W0 W0.heap.size (.slice none 0 0) (preL s)) := by show _ ∧ _; rw [pre_00 HD.out HT.out]; exact H0.out
      clear H0
      have HO : Hid (Below W0.heap.size W0 W0 ∧ OwnI W0 W0.heap.size (.slice none 0 0) (preL s ++ (s.tm.take 0).map (·.d))) := by show _ ∧ _; rw [List.take_zero, List.map_nil, List.append_nil]; exact HC.out
      clear HC
      go_loopw [3, 27] (fun v i wr => ∃ j : Nat, j ≤ s.tm.length ∧ i = .int .i64 j ∧ Hid (Below W0.heap.size W0 wr ∧ OwnI wr W0.heap.size v (preL s ++ (s.tm.take j).map (·.d)))) (fun _ i _ => s.tm.length - (intOf i).toNat)
      case atStart => exact ⟨0, Nat.zero_le _, rfl, HO⟩
      case round =>
        clear HO
        obtain ⟨j, hj, rfl, HO⟩ := hrel
        by_cases hlt : j < s.tm.length
        · obtain ⟨tt, htt⟩ : ∃ tt, s.tm[j]? = some tt := ⟨_, List.getElem?_eq_getElem hlt⟩
          obtain ⟨_, _, TB, tp, hta, _, hl⟩ := HT2.out j tt.cells (by rw [List.getElem?_map, htt]; rfl)
          have hbw : Below w.heap.size w wr := bel2 HB0.out HO.out.1
          have l0 := cellW (hl 0 (.string tt.s) rfl) hbw
          have l1 := cellW (hl 1 (.int .i64 tt.d) rfl) hbw
          rw [Nat.add_zero] at l0
          subst hta
          have hjl : (j : Int) < (s.tm.length : Int) := by omega
          have HW1 : Hid (wrap64 ((j : Int) + 1) = ((j + 1 : Nat) : Int)) := wr1 hlt (by have := HL.out; omega)
          have HTT : Hid (s.tm[j]? = some tt) := htt
          have HO2 : Hid (Below W0.heap.size W0 (wr.alloc (.cells #[.string tt.s, .int .i64 tt.d] 49)) ∧ OwnI (wr.alloc (.cells #[.string tt.s, .int .i64 tt.d] 49)) W0.heap.size u3 (preL s ++ (s.tm.take j).map (·.d))) := ⟨bel2 HO.out.1 (bel1 _ _), World.ownsRow.alloc HO.out.2 _⟩
          clear htt hl hbw
          go_wp2_with (at_builtin; go_must (refine app_int rfl _ _ rfl W0.heap.size _ (preL s ++ (s.tm.take j).map (·.d)) rfl HO2.out.2 (wr.heap.size + 1) (by simp) rfl tt.d ?qa HO2.out.1.size ?_))
          case qa => have := HL.out; have := lenP s; simp only [List.length_append, List.length_map, List.length_take] <;> omega
          intro v' w1 ho hb
          have HO1 : Hid (Below W0.heap.size W0 w1 ∧ OwnI w1 W0.heap.size v' (preL s ++ (s.tm.take (j + 1)).map (·.d))) := by
            refine ⟨HO2.out.1.trans hb, ?_⟩
            rw [List.take_add_one, HTT.out, List.map_append, ← List.append_assoc]
            first | exact ho | (rw [← List.map_take, ← List.append_assoc] at ho; exact ho)
          clear ho hb
          go_wp2_with fail
          first | exact ⟨⟨j + 1, hlt, by rw [HW1.out], HO1⟩, meas hlt HW1.out⟩ | ((repeat apply Exists.intro); exact ⟨⟨⟨j + 1, hlt, by rw [HW1.out], HO1⟩, meas hlt HW1.out⟩, rfl⟩)
        · obtain rfl : j = s.tm.length := by omega
          have HO2 : Hid (Below W0.heap.size W0 wr ∧ OwnI wr W0.heap.size u3 (preL s ++ s.tm.map (·.d))) := by
            have := HO.out
            rw [List.take_length] at this
            exact this
          have g3 : ∀ j, wr.cell? ⟨w.heap.size, j, none⟩ = cs[j]? := fun j => cell_of_row wr _ j cs 33 (0, 0) (row_below HO2.out.1 HG0.out)
          clear HO hlt hj
          by_cases h0 : s.ts = 0
          case neg =>
            have d0 : (s.ts == 0) = false := by simpa using h0
            have HF : Hid (¬ (s.ts = 0 ∧ s.fresh = true)) := fun h => h0 h.1
            clear h0
            go_wp2_with fail
            exact HQ.out _ _ (tms_no s (pre_00 HD.out HT.out) HO2.out.2 HF.out) (bel2 HB0.out HO2.out.1)
          have d0 : (s.ts == 0) = true := by simpa using h0
          have HT0 : Hid (s.ts = 0) := h0
          clear h0
          cases hfr : s.fresh with
          | false =>
            have HF : Hid (¬ (s.ts = 0 ∧ s.fresh = true)) := fun h => by rw [hfr] at h; exact absurd h.2 (by decide)
            rw [hfr] at c21
            clear hfr
            go_wp2_with fail
            exact HQ.out _ _ (tms_no s (pre_00 HD.out HT.out) HO2.out.2 HF.out) (bel2 HB0.out HO2.out.1)
          | true =>
            have HF : Hid (s.ts = 0 ∧ s.fresh = true) := ⟨HT0.out, hfr⟩
            rw [hfr] at c21
            clear hfr
            go_wp2_with (at_builtin; go_must (refine app_int rfl _ _ rfl W0.heap.size _ (preL s ++ s.tm.map (·.d)) rfl HO2.out.2 wr.heap.size rfl rfl s.time ?qb HO2.out.1.size ?_))
            case qb => have := HL.out; have := lenP s; simp only [List.length_append, List.length_map] <;> omega
            intro v' w1 ho hb
            have HO3 : Hid (Below W0.heap.size W0 w1 ∧ OwnI w1 W0.heap.size v' (preL s ++ s.tm.map (·.d) ++ [s.time])) := ⟨HO2.out.1.trans hb, by first | exact ho | (rw [← List.append_assoc] at ho; exact ho)⟩
            clear ho hb
            go_wp2_with fail
            exact HQ.out _ _ (tms_yes s (pre_00 HD.out HT.out) HO3.out.2 HF.out) (bel2 HB0.out HO3.out.1)
    · have HT : Hid (s.ts = 2) := ht
      have dt : (s.ts == 2) = true := by simpa using ht
      clear ht
      go_wp2_with (at_builtin; go_must (refine app_int rfl _ _ rfl W0.heap.size _ ([]) rfl H0.out.2 W0.heap.size rfl rfl (s.td) (by simp) H0.out.1.size ?_))
      intro v1 w1 ho hb
      have H1 : Hid (Below W0.heap.size W0 w1 ∧ OwnI w1 W0.heap.size v1 ([s.td])) := ⟨H0.out.1.trans hb, ho⟩
      have g1 : ∀ j, w1.cell? ⟨w.heap.size, j, none⟩ = cs[j]? := fun j => cell_of_row w1 _ j cs 33 (0, 0) (row_below H1.out.1 HG0.out)
      clear ho hb
      go_wp2_with fail
      have HC : Hid (Below W0.heap.size W0 w1 ∧ OwnI w1 W0.heap.size v1 (preL s)) := by show _ ∧ _; rw [pre_01 HD.out HT.out]; exact H1.out
      clear H1
      have HO : Hid (Below W0.heap.size W0 w1 ∧ OwnI w1 W0.heap.size v1 (preL s ++ (s.tm.take 0).map (·.d))) := by show _ ∧ _; rw [List.take_zero, List.map_nil, List.append_nil]; exact HC.out
      clear HC
      go_loopw [3, 27] (fun v i wr => ∃ j : Nat, j ≤ s.tm.length ∧ i = .int .i64 j ∧ Hid (Below W0.heap.size W0 wr ∧ OwnI wr W0.heap.size v (preL s ++ (s.tm.take j).map (·.d)))) (fun _ i _ => s.tm.length - (intOf i).toNat)
      case atStart => exact ⟨0, Nat.zero_le _, rfl, HO⟩
      case round =>
        clear HO
        obtain ⟨j, hj, rfl, HO⟩ := hrel
        by_cases hlt : j < s.tm.length
        · obtain ⟨tt, htt⟩ : ∃ tt, s.tm[j]? = some tt := ⟨_, List.getElem?_eq_getElem hlt⟩
          obtain ⟨_, _, TB, tp, hta, _, hl⟩ := HT2.out j tt.cells (by rw [List.getElem?_map, htt]; rfl)
          have hbw : Below w.heap.size w wr := bel2 HB0.out HO.out.1
          have l0 := cellW (hl 0 (.string tt.s) rfl) hbw
          have l1 := cellW (hl 1 (.int .i64 tt.d) rfl) hbw
          rw [Nat.add_zero] at l0
          subst hta
          have hjl : (j : Int) < (s.tm.length : Int) := by omega
          have HW1 : Hid (wrap64 ((j : Int) + 1) = ((j + 1 : Nat) : Int)) := wr1 hlt (by have := HL.out; omega)
          have HTT : Hid (s.tm[j]? = some tt) := htt
          have HO2 : Hid (Below W0.heap.size W0 (wr.alloc (.cells #[.string tt.s, .int .i64 tt.d] 49)) ∧ OwnI (wr.alloc (.cells #[.string tt.s, .int .i64 tt.d] 49)) W0.heap.size u3 (preL s ++ (s.tm.take j).map (·.d))) := ⟨bel2 HO.out.1 (bel1 _ _), World.ownsRow.alloc HO.out.2 _⟩
          clear htt hl hbw
          go_wp2_with (at_builtin; go_must (refine app_int rfl _ _ rfl W0.heap.size _ (preL s ++ (s.tm.take j).map (·.d)) rfl HO2.out.2 (wr.heap.size + 1) (by simp) rfl tt.d ?qa HO2.out.1.size ?_))
          case qa => have := HL.out; have := lenP s; simp only [List.length_append, List.length_map, List.length_take] <;> omega
          intro v' w1 ho hb
          have HO1 : Hid (Below W0.heap.size W0 w1 ∧ OwnI w1 W0.heap.size v' (preL s ++ (s.tm.take (j + 1)).map (·.d))) := by
            refine ⟨HO2.out.1.trans hb, ?_⟩
            rw [List.take_add_one, HTT.out, List.map_append, ← List.append_assoc]
            first | exact ho | (rw [← List.map_take, ← List.append_assoc] at ho; exact ho)
          clear ho hb
          go_wp2_with fail
          first | exact ⟨⟨j + 1, hlt, by rw [HW1.out], HO1⟩, meas hlt HW1.out⟩ | ((repeat apply Exists.intro); exact ⟨⟨⟨j + 1, hlt, by rw [HW1.out], HO1⟩, meas hlt HW1.out⟩, rfl⟩)
        · obtain rfl : j = s.tm.length := by omega
          have HO2 : Hid (Below W0.heap.size W0 wr ∧ OwnI wr W0.heap.size u3 (preL s ++ s.tm.map (·.d))) := by
            have := HO.out
            rw [List.take_length] at this
            exact this
          have g3 : ∀ j, wr.cell? ⟨w.heap.size, j, none⟩ = cs[j]? := fun j => cell_of_row wr _ j cs 33 (0, 0) (row_below HO2.out.1 HG0.out)
          clear HO hlt hj
          have d0 : (s.ts == 0) = false := by rw [HT.out]; rfl
          go_wp2_with fail
          exact HQ.out _ _ (tms_no s (pre_01 HD.out HT.out) HO2.out.2 (fun h => by rw [HT.out] at h; exact absurd h.1 (by decide))) (bel2 HB0.out HO2.out.1)
  · have HD : Hid (0 < s.dl) := hd
    have dd : decide (0 < s.dl) = true := decide_eq_true hd
    clear hd
    by_cases ht : s.ts = 2
    case neg =>
      have HT : Hid (¬ s.ts = 2) := ht
      have dt : (s.ts == 2) = false := by simpa using ht
      clear ht
      go_wp2_with (at_builtin; go_must (refine app_int rfl _ _ rfl W0.heap.size _ ([]) rfl H0.out.2 W0.heap.size rfl rfl (s.dl) (by simp) H0.out.1.size ?_))
      intro v1 w1 ho hb
      have H1 : Hid (Below W0.heap.size W0 w1 ∧ OwnI w1 W0.heap.size v1 ([s.dl])) := ⟨H0.out.1.trans hb, ho⟩
      have g1 : ∀ j, w1.cell? ⟨w.heap.size, j, none⟩ = cs[j]? := fun j => cell_of_row w1 _ j cs 33 (0, 0) (row_below H1.out.1 HG0.out)
      clear ho hb
      go_wp2_with fail
      have HC : Hid (Below W0.heap.size W0 w1 ∧ OwnI w1 W0.heap.size v1 (preL s)) := by show _ ∧ _; rw [pre_10 HD.out HT.out]; exact H1.out
      clear H1
      have HO : Hid (Below W0.heap.size W0 w1 ∧ OwnI w1 W0.heap.size v1 (preL s ++ (s.tm.take 0).map (·.d))) := by show _ ∧ _; rw [List.take_zero, List.map_nil, List.append_nil]; exact HC.out
      clear HC
      go_loopw [3, 27] (fun v i wr => ∃ j : Nat, j ≤ s.tm.length ∧ i = .int .i64 j ∧ Hid (Below W0.heap.size W0 wr ∧ OwnI wr W0.heap.size v (preL s ++ (s.tm.take j).map (·.d)))) (fun _ i _ => s.tm.length - (intOf i).toNat)
      case atStart => exact ⟨0, Nat.zero_le _, rfl, HO⟩
      case round =>
        clear HO
        obtain ⟨j, hj, rfl, HO⟩ := hrel
        by_cases hlt : j < s.tm.length
        · obtain ⟨tt, htt⟩ : ∃ tt, s.tm[j]? = some tt := ⟨_, List.getElem?_eq_getElem hlt⟩
          obtain ⟨_, _, TB, tp, hta, _, hl⟩ := HT2.out j tt.cells (by rw [List.getElem?_map, htt]; rfl)
          have hbw : Below w.heap.size w wr := bel2 HB0.out HO.out.1
          have l0 := cellW (hl 0 (.string tt.s) rfl) hbw
          have l1 := cellW (hl 1 (.int .i64 tt.d) rfl) hbw
          rw [Nat.add_zero] at l0
          subst hta
          have hjl : (j : Int) < (s.tm.length : Int) := by omega
          have HW1 : Hid (wrap64 ((j : Int) + 1) = ((j + 1 : Nat) : Int)) := wr1 hlt (by have := HL.out; omega)
          have HTT : Hid (s.tm[j]? = some tt) := htt
          have HO2 : Hid (Below W0.heap.size W0 (wr.alloc (.cells #[.string tt.s, .int .i64 tt.d] 49)) ∧ OwnI (wr.alloc (.cells #[.string tt.s, .int .i64 tt.d] 49)) W0.heap.size u3 (preL s ++ (s.tm.take j).map (·.d))) := ⟨bel2 HO.out.1 (bel1 _ _), World.ownsRow.alloc HO.out.2 _⟩
          clear htt hl hbw
          go_wp2_with (at_builtin; go_must (refine app_int rfl _ _ rfl W0.heap.size _ (preL s ++ (s.tm.take j).map (·.d)) rfl HO2.out.2 (wr.heap.size + 1) (by simp) rfl tt.d ?qa HO2.out.1.size ?_))
          case qa => have := HL.out; have := lenP s; simp only [List.length_append, List.length_map, List.length_take] <;> omega
          intro v' w1 ho hb
          have HO1 : Hid (Below W0.heap.size W0 w1 ∧ OwnI w1 W0.heap.size v' (preL s ++ (s.tm.take (j + 1)).map (·.d))) := by
            refine ⟨HO2.out.1.trans hb, ?_⟩
            rw [List.take_add_one, HTT.out, List.map_append, ← List.append_assoc]
            first | exact ho | (rw [← List.map_take, ← List.append_assoc] at ho; exact ho)
          clear ho hb
          go_wp2_with fail
          first | exact ⟨⟨j + 1, hlt, by rw [HW1.out], HO1⟩, meas hlt HW1.out⟩ | ((repeat apply Exists.intro); exact ⟨⟨⟨j + 1, hlt, by rw [HW1.out], HO1⟩, meas hlt HW1.out⟩, rfl⟩)
        · obtain rfl : j = s.tm.length := by omega
          have HO2 : Hid (Below W0.heap.size W0 wr ∧ OwnI wr W0.heap.size u3 (preL s ++ s.tm.map (·.d))) := by
            have := HO.out
            rw [List.take_length] at this
            exact this
          have g3 : ∀ j, wr.cell? ⟨w.heap.size, j, none⟩ = cs[j]? := fun j => cell_of_row wr _ j cs 33 (0, 0) (row_below HO2.out.1 HG0.out)
          clear HO hlt hj
          by_cases h0 : s.ts = 0
          case neg =>
            have d0 : (s.ts == 0) = false := by simpa using h0
            have HF : Hid (¬ (s.ts = 0 ∧ s.fresh = true)) := fun h => h0 h.1
            clear h0
            go_wp2_with fail
            exact HQ.out _ _ (tms_no s (pre_10 HD.out HT.out) HO2.out.2 HF.out) (bel2 HB0.out HO2.out.1)
          have d0 : (s.ts == 0) = true := by simpa using h0
          have HT0 : Hid (s.ts = 0) := h0
          clear h0
          cases hfr : s.fresh with
          | false =>
            have HF : Hid (¬ (s.ts = 0 ∧ s.fresh = true)) := fun h => by rw [hfr] at h; exact absurd h.2 (by decide)
            rw [hfr] at c21
            clear hfr
            go_wp2_with fail
            exact HQ.out _ _ (tms_no s (pre_10 HD.out HT.out) HO2.out.2 HF.out) (bel2 HB0.out HO2.out.1)
          | true =>
            have HF : Hid (s.ts = 0 ∧ s.fresh = true) := ⟨HT0.out, hfr⟩
            rw [hfr] at c21
            clear hfr
            go_wp2_with (at_builtin; go_must (refine app_int rfl _ _ rfl W0.heap.size _ (preL s ++ s.tm.map (·.d)) rfl HO2.out.2 wr.heap.size rfl rfl s.time ?qb HO2.out.1.size ?_))
            case qb => have := HL.out; have := lenP s; simp only [List.length_append, List.length_map] <;> omega
            intro v' w1 ho hb
            have HO3 : Hid (Below W0.heap.size W0 w1 ∧ OwnI w1 W0.heap.size v' (preL s ++ s.tm.map (·.d) ++ [s.time])) := ⟨HO2.out.1.trans hb, by first | exact ho | (rw [← List.append_assoc] at ho; exact ho)⟩
            clear ho hb
            go_wp2_with fail
            exact HQ.out _ _ (tms_yes s (pre_10 HD.out HT.out) HO3.out.2 HF.out) (bel2 HB0.out HO3.out.1)
    · have HT : Hid (s.ts = 2) := ht
      have dt : (s.ts == 2) = true := by simpa using ht
      clear ht
      go_wp2_with (at_builtin; go_must (refine app_int rfl _ _ rfl W0.heap.size _ ([]) rfl H0.out.2 W0.heap.size rfl rfl (s.dl) (by simp) H0.out.1.size ?_))
      intro v1 w1 ho hb
      have H1 : Hid (Below W0.heap.size W0 w1 ∧ OwnI w1 W0.heap.size v1 ([s.dl])) := ⟨H0.out.1.trans hb, ho⟩
      have g1 : ∀ j, w1.cell? ⟨w.heap.size, j, none⟩ = cs[j]? := fun j => cell_of_row w1 _ j cs 33 (0, 0) (row_below H1.out.1 HG0.out)
      clear ho hb
      go_wp2_with (at_builtin; go_must (refine app_int rfl _ _ rfl W0.heap.size _ ([s.dl]) rfl H1.out.2 w1.heap.size rfl rfl (s.td) (by simp) H1.out.1.size ?_))
      intro v2 w2 ho hb
      have H2 : Hid (Below W0.heap.size W0 w2 ∧ OwnI w2 W0.heap.size v2 ([s.dl, s.td])) := ⟨H1.out.1.trans hb, ho⟩
      have g2 : ∀ j, w2.cell? ⟨w.heap.size, j, none⟩ = cs[j]? := fun j => cell_of_row w2 _ j cs 33 (0, 0) (row_below H2.out.1 HG0.out)
      clear ho hb
      go_wp2_with fail
      have HC : Hid (Below W0.heap.size W0 w2 ∧ OwnI w2 W0.heap.size v2 (preL s)) := by show _ ∧ _; rw [pre_11 HD.out HT.out]; exact H2.out
      clear H2
      have HO : Hid (Below W0.heap.size W0 w2 ∧ OwnI w2 W0.heap.size v2 (preL s ++ (s.tm.take 0).map (·.d))) := by show _ ∧ _; rw [List.take_zero, List.map_nil, List.append_nil]; exact HC.out
      clear HC
      go_loopw [3, 27] (fun v i wr => ∃ j : Nat, j ≤ s.tm.length ∧ i = .int .i64 j ∧ Hid (Below W0.heap.size W0 wr ∧ OwnI wr W0.heap.size v (preL s ++ (s.tm.take j).map (·.d)))) (fun _ i _ => s.tm.length - (intOf i).toNat)
      case atStart => exact ⟨0, Nat.zero_le _, rfl, HO⟩
      case round =>
        clear HO
        obtain ⟨j, hj, rfl, HO⟩ := hrel
        by_cases hlt : j < s.tm.length
        · obtain ⟨tt, htt⟩ : ∃ tt, s.tm[j]? = some tt := ⟨_, List.getElem?_eq_getElem hlt⟩
          obtain ⟨_, _, TB, tp, hta, _, hl⟩ := HT2.out j tt.cells (by rw [List.getElem?_map, htt]; rfl)
          have hbw : Below w.heap.size w wr := bel2 HB0.out HO.out.1
          have l0 := cellW (hl 0 (.string tt.s) rfl) hbw
          have l1 := cellW (hl 1 (.int .i64 tt.d) rfl) hbw
          rw [Nat.add_zero] at l0
          subst hta
          have hjl : (j : Int) < (s.tm.length : Int) := by omega
          have HW1 : Hid (wrap64 ((j : Int) + 1) = ((j + 1 : Nat) : Int)) := wr1 hlt (by have := HL.out; omega)
          have HTT : Hid (s.tm[j]? = some tt) := htt
          have HO2 : Hid (Below W0.heap.size W0 (wr.alloc (.cells #[.string tt.s, .int .i64 tt.d] 49)) ∧ OwnI (wr.alloc (.cells #[.string tt.s, .int .i64 tt.d] 49)) W0.heap.size u3 (preL s ++ (s.tm.take j).map (·.d))) := ⟨bel2 HO.out.1 (bel1 _ _), World.ownsRow.alloc HO.out.2 _⟩
          clear htt hl hbw
          go_wp2_with (at_builtin; go_must (refine app_int rfl _ _ rfl W0.heap.size _ (preL s ++ (s.tm.take j).map (·.d)) rfl HO2.out.2 (wr.heap.size + 1) (by simp) rfl tt.d ?qa HO2.out.1.size ?_))
          case qa => have := HL.out; have := lenP s; simp only [List.length_append, List.length_map, List.length_take] <;> omega
          intro v' w1 ho hb
          have HO1 : Hid (Below W0.heap.size W0 w1 ∧ OwnI w1 W0.heap.size v' (preL s ++ (s.tm.take (j + 1)).map (·.d))) := by
            refine ⟨HO2.out.1.trans hb, ?_⟩
            rw [List.take_add_one, HTT.out, List.map_append, ← List.append_assoc]
            first | exact ho | (rw [← List.map_take, ← List.append_assoc] at ho; exact ho)
          clear ho hb
          go_wp2_with fail
          first | exact ⟨⟨j + 1, hlt, by rw [HW1.out], HO1⟩, meas hlt HW1.out⟩ | ((repeat apply Exists.intro); exact ⟨⟨⟨j + 1, hlt, by rw [HW1.out], HO1⟩, meas hlt HW1.out⟩, rfl⟩)
        · obtain rfl : j = s.tm.length := by omega
          have HO2 : Hid (Below W0.heap.size W0 wr ∧ OwnI wr W0.heap.size u3 (preL s ++ s.tm.map (·.d))) := by
            have := HO.out
            rw [List.take_length] at this
            exact this
          have g3 : ∀ j, wr.cell? ⟨w.heap.size, j, none⟩ = cs[j]? := fun j => cell_of_row wr _ j cs 33 (0, 0) (row_below HO2.out.1 HG0.out)
          clear HO hlt hj
          have d0 : (s.ts == 0) = false := by rw [HT.out]; rfl
          go_wp2_with fail
          exact HQ.out _ _ (tms_no s (pre_11 HD.out HT.out) HO2.out.2 (fun h => by rw [HT.out] at h; exact absurd h.1 (by decide))) (bel2 HB0.out HO2.out.1)
end Go.Proofs.Ytmcbgfcpalfcjaa
