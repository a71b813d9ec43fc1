/- The contract of the reference's next. -/
import Derived.Test.YthakbkkopneilaaDoorCD
namespace Go.Proofs.YthakbkkopneilaaDoor
open Go.ChangeShapes Go.WideShapes Go.ChangeAt Go.RowKit
/-- The place of the first segment of which P holds, counted from k. -/
def nxF (P : Sg → Bool) : List Sg → Nat → Option Nat
  | [], _ => none
  | t :: ts, k => if P t then some k else nxF P ts (k + 1)
theorem nxF_none (P : Sg → Bool) (h : ∀ t, P t = false) : ∀ (l : List Sg) k, nxF P l k = none
  | [], _ => rfl
  | t :: ts, k => by simp only [nxF, h t]; exact nxF_none P h ts (k + 1)
theorem nxF_at {P : Sg → Bool} {l : List Sg} {j : Nat} {t : Sg} (h : l[j]? = some t) : nxF P (l.drop j) j = if P t then some j else nxF P (l.drop (j + 1)) (j + 1) := by
  have hj := (List.getElem?_eq_some_iff.1 h).1
  rw [List.drop_eq_getElem_cons hj]
  rw [List.getElem?_eq_getElem hj] at h
  injection h with h
  rw [h]
  rfl
/-- Whether t goes on where s ends. -/
def go (s t : Sg) : Bool := fo s.n s.f s.rn s.tn t.n t.f t.hs
set_option maxHeartbeats 2000000 in
set_option maxRecDepth 100000 in
theorem rnxt_calls (v x : Value) (ra : Option Addr) (rc : Nat) (sz : Int) (s : Sg) (l : List Sg) (w : World) (hv : Sr w v l) (hl : l.length ≤ 1000000000) (hn : s.rn ≤ 9223372036854775807) (hf : -9223372036854775808 ≤ s.f) (hf2 : s.f ≤ 9223372036854775807) (hm : -9223372036854775808 ≤ s.n) (hm2 : s.n ≤ 9223372036854775807) (xa : Option Addr) (xn xc : Nat) (hx : x = .slice xa xn xc) :
    Calls Tryd.prog 41 #[v, .agg #[.int .i64 s.n, .int .i64 s.f, .bool s.hs, x, .slice ra s.rn rc, .int .i64 sz, .bool s.tn]] w fun e w' => e = .returned (.int .i64 (rb (nxF (go s) l 0))) ∧ Below w.heap.size w w' := by
  subst hx
  obtain ⟨a, c, rfl, h⟩ := hv
  have HV : Hid (∀ (i : Nat) t, l[i]? = some t → ∃ B o, a = some ⟨B, o, none⟩ ∧ SgAt w B (o + i * 7) t) := h
  have HL : Hid (l.length ≤ 1000000000) := hl
  obtain ⟨n, f, hs, rn, tn⟩ := s
  simp only at hn hf hf2 hm hm2 ⊢
  obtain ⟨P, hP⟩ : ∃ P, P = go ⟨n, f, hs, rn, tn⟩ := ⟨_, rfl⟩
  have HP : Hid (∀ t : Sg, P t = fo n f rn tn t.n t.f t.hs) := fun t => by rw [hP]; rfl
  rw [← hP]
  obtain ⟨M, hM⟩ : ∃ M, M = (n == 9223372036854775807) := ⟨_, rfl⟩
  obtain ⟨D, hD⟩ : ∃ D : Int, D = 9223372036854775807 - (rn : Int) := ⟨_, rfl⟩
  have hw : IntKind.i64.wrap (9223372036854775807 - (rn : Int)) = D := by rw [hD]; exact wrap_whole _ (by omega) (by omega)
  have dM : (n == 9223372036854775807) = M := hM.symm
  cases tn with
  | true =>
    have HN : Hid (nxF P l 0 = none) := nxF_none P (fun t => by rw [HP.out]; simp [fo]) l 0
    clear h hl hn hf hf2 hm hm2 hP hM hD
    go_enter Tryd.func41, Tryd.ntmps41
    go_wp2_with fail
    go_ret
    rw [HN.out]
    exact ⟨rfl, below_alloc _ _⟩
  | false =>
    cases M with
    | true =>
      have HN : Hid (nxF P l 0 = none) := nxF_none P (fun t => by rw [HP.out]; simp [fo, dM]) l 0
      clear h hl hn hf hf2 hm hm2 hP hM hD
      go_enter Tryd.func41, Tryd.ntmps41
      go_wp2_with fail
      go_ret
      rw [HN.out]
      exact ⟨rfl, below_alloc _ _⟩
    | false =>
      by_cases hb : D < f
      · have d : decide (D < f) = true := decide_eq_true hb
        have HN : Hid (nxF P l 0 = none) := nxF_none P (fun t => by rw [HP.out]; have e : bh f rn = (9223372036854775807, false) := by unfold bh; rw [if_pos (by omega)]
                                                                    simp [fo, e]) l 0
        clear h hl hn hf hf2 hm hm2 hP hM hD hb
        go_enter Tryd.func41, Tryd.ntmps41
        go_wp2_with fail
        go_ret
        rw [HN.out]
        exact ⟨rfl, below_alloc _ _⟩
      · have d : decide (D < f) = false := decide_eq_false hb
        have e : bh f rn = (f + (rn : Int), true) := by unfold bh; rw [if_neg (by omega)]
        have HQ : Hid (∀ t : Sg, P t = (t.n == n + 1 && !t.hs && t.f == f + (rn : Int))) := fun t => by
          rw [HP.out]
          simp only [fo, e, dM, Bool.false_or, Bool.or_false, Bool.true_and]
          cases t.hs <;> simp
        have hw2 : IntKind.i64.wrap (n + 1) = n + 1 := wrap_whole _ (by omega) (by have h := hM; simp at h; omega)
        have hw3 : IntKind.i64.wrap (f + (rn : Int)) = f + (rn : Int) := wrap_whole _ (by omega) (by omega)
        clear h hl hn hf hf2 hm hm2 hP hM hD hb e
        go_enter Tryd.func41, Tryd.ntmps41
        go_wp2_with fail
        have S0 : Hid (SegAt (w.alloc (Obj.cells #[.int .i64 n, .int .i64 f, .bool hs, .slice xa xn xc, .slice ra rn rc, .int .i64 sz, .bool false] 30)) w.heap.size (.int .i64 n) (.int .i64 f) (.bool hs) (.slice xa xn xc) (.slice ra rn rc) (.int .i64 sz) (.bool false)) := heap_last w _
        have B0 : Hid (Below w.heap.size w (w.alloc (Obj.cells #[.int .i64 n, .int .i64 f, .bool hs, .slice xa xn xc, .slice ra rn rc, .int .i64 sz, .bool false] 30))) := below_alloc _ _
        generalize (w.alloc (Obj.cells #[.int .i64 n, .int .i64 f, .bool hs, .slice xa xn xc, .slice ra rn rc, .int .i64 sz, .bool false] 30)) = W0 at S0 B0 ⊢
        go_loopw [5] (fun i wr => ∃ j : Nat, j ≤ l.length ∧ i = .int .i64 j ∧ Hid (nxF P l 0 = nxF P (l.drop j) j) ∧ Hid (Below w.heap.size w wr) ∧ Hid (Below W0.heap.size W0 wr)) (fun i _ => l.length - (intOf i).toNat)
        case atStart => exact ⟨0, Nat.zero_le _, rfl, rfl, B0, Below.refl _ _⟩
        case round =>
          obtain ⟨j, hj, rfl, HN, HB, HW⟩ := hrel
          by_cases hlt : j < l.length
          · have hjl : (j : Int) < (l.length : Int) := by omega
            have hj9 : (j : Int) < 1000000000 := by have := HL.out; omega
            obtain ⟨t, ht⟩ : ∃ t, l[j]? = some t := ⟨_, List.getElem?_eq_getElem hlt⟩
            obtain ⟨B, o, rfl, hat⟩ := HV.out j t ht
            obtain ⟨c0, c1, c2, _, _⟩ := hat.below HB.out
            obtain ⟨k0, k1, _, _, k4, _⟩ := (S0.out.below HW.out).all7
            have HN1 := nxF_at (P := P) ht
            rw [HQ.out t] at HN1
            obtain ⟨tn, tf, th, tr, tt⟩ := t
            simp only at c0 c1 c2 HN1
            obtain ⟨q1, hq1⟩ : ∃ q1, q1 = (tn == n + 1) := ⟨_, rfl⟩
            obtain ⟨q2, hq2⟩ : ∃ q2, q2 = (tf == f + (rn : Int)) := ⟨_, rfl⟩
            rw [← hq1, ← hq2] at HN1
            have d1 : (tn == n + 1) = q1 := hq1.symm
            have d2 : (tf == f + (rn : Int)) = q2 := hq2.symm
            clear ht hat hj hq1 hq2
            cases q1 with
            | false =>
              have HN2 : Hid (nxF P l 0 = nxF P (l.drop (j + 1)) (j + 1)) := by show _ = _; rw [HN.out, HN1]; simp
              clear HN1
              go_wp2_with fail
              go_quiet (fail)
              go_wp2_with fail
              refine ⟨⟨j + 1, hlt, by rw [Int.natCast_add]; rfl, HN2, HB.out.trans ((belN wr _).mono HB.out.size), HW.out.trans ((belN wr _).mono HW.out.size)⟩, ?_⟩
              simp only [intOf]
              omega
            | true =>
              cases th with
              | true =>
                have HN2 : Hid (nxF P l 0 = nxF P (l.drop (j + 1)) (j + 1)) := by show _ = _; rw [HN.out, HN1]; simp
                clear HN1
                go_wp2_with fail
                go_quiet (fail)
                go_wp2_with fail
                refine ⟨⟨j + 1, hlt, by rw [Int.natCast_add]; rfl, HN2, HB.out.trans ((belN wr _).mono HB.out.size), HW.out.trans ((belN wr _).mono HW.out.size)⟩, ?_⟩
                simp only [intOf]
                omega
              | false =>
                cases q2 with
                | false =>
                  have HN2 : Hid (nxF P l 0 = nxF P (l.drop (j + 1)) (j + 1)) := by show _ = _; rw [HN.out, HN1]; simp
                  clear HN1
                  go_wp2_with fail
                  go_quiet (fail)
                  go_wp2_with fail
                  refine ⟨⟨j + 1, hlt, by rw [Int.natCast_add]; rfl, HN2, HB.out.trans ((belN wr _).mono HB.out.size), HW.out.trans ((belN wr _).mono HW.out.size)⟩, ?_⟩
                  simp only [intOf]
                  omega
                | true =>
                  have HN2 : Hid (nxF P l 0 = some j) := by show _ = _; rw [HN.out, HN1]; simp
                  clear HN1
                  go_wp2_with fail
                  go_quiet (fail)
                  go_wp2_with fail
                  go_ret
                  rw [HN2.out]
                  exact ⟨rfl, HB.out.trans ((belN wr _).mono HB.out.size)⟩
          · obtain rfl : j = l.length := by omega
            have HN2 : Hid (nxF P l 0 = none) := by show _ = _; rw [HN.out, List.drop_length]; rfl
            go_wp2_with fail
            go_ret
            rw [HN2.out]
            exact ⟨rfl, HB.out⟩
end Go.Proofs.YthakbkkopneilaaDoor
