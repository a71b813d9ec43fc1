/- The contracts of readList and read. -/
import Derived.Test.YtjmonkhkcmcfiaaXB
import Derived.Deep.RegionHeld3
import Derived.BigQuiet
namespace Go.Proofs.Ytjmonkhkcmcfiaa
open Go.ChangeShapes Go.WideShapes Go.ChangeAt Go.RowKit
theorem kb_below {g : Nat} {w a b : World} (h : KB g w a) (k : Below w.heap.size a b) : KB g w b :=
  ⟨k.os.trans h.1, k.tape.trans h.2.1, k.output.trans h.2.2.1, Nat.le_trans h.2.2.2.1 k.size, fun i hi hg => (k.block i hi).trans (h.2.2.2.2 i hi hg)⟩
/-- A reader stays, while its two blocks do. -/
theorem St.keep {w w' : World} {g h : Nat} {l : List UInt8} {e : Int} (r : St w g h l e) (_hs : w.heap.size ≤ w'.heap.size) (h1 : w'.heap[g]? = w.heap[g]?) (h2 : w'.heap[h]? = w.heap[h]?) : St w' g h l e := by
  have fg : ∀ o, w'.cell? ⟨g, o, none⟩ = w.cell? ⟨g, o, none⟩ := fun o => World.cell?_of_block h1
  have fh : ∀ o, w'.cell? ⟨h, o, none⟩ = w.cell? ⟨h, o, none⟩ := fun o => World.cell?_of_block h2
  have zg : ∀ o, w'.frozen? ⟨g, o, none⟩ = w.frozen? ⟨g, o, none⟩ := fun o => World.frozen?_of_block h1
  rcases r with ⟨h0, p, c, a0, a1, a2, f1, f2, hl, hg, hb⟩ | ⟨h0, hl, a0, a2⟩
  · refine .inl ⟨h0, p, c, (fg 0).trans a0, (fg 1).trans a1, (fg 2).trans a2, (zg 1).trans f1, (zg 2).trans f2, hl, hg, fun hne => ?_⟩
    obtain ⟨o, hp, hcell⟩ := hb hne
    exact ⟨o, hp, fun i x hx => (fh _).trans (hcell i x hx)⟩
  · exact .inr ⟨h0, hl, (fg 0).trans a0, (fg 2).trans a2⟩
theorem St.lt {w : World} {g h : Nat} {l : List UInt8} {e : Int} (r : St w g h l e) : g < w.heap.size := by
  rcases r with ⟨_, p, c, a0, _⟩ | ⟨_, _, a0, _⟩
  · exact World.block_lt_of_cell? w ⟨g, 0, none⟩ a0
  · exact World.block_lt_of_cell? w ⟨g, 0, none⟩ a0
/-- What reading a value leaves. -/
def RdP (w : World) (g h n : Nat) (r : Tv × List UInt8 × Int) (x : Ending) (w' : World) : Prop :=
  ∃ v, x = .returned v ∧ IsN w.heap.size w' n v r.1 ∧ St w' g h r.2.1 r.2.2 ∧ KB g w w'
def ReadAt (f : List UInt8 → Int → Tv × List UInt8 × Int) (d n : Nat) : Prop := ∀ (w : World) (g h : Nat) (l : List UInt8) (e : Int), St w g h l e → h < w.heap.size →
    Calls Try.prog 93 #[.pointer (some ⟨g, 0, none⟩), .int .i64 (d : Int)] w (RdP w g h n (f l e))
/-- What reading a list leaves. -/
def LsP (w : World) (g h n : Nat) (r : List Tv × List UInt8 × Int) (x : Ending) (w' : World) : Prop :=
  ∃ a c, x = .returned (.slice a r.1.length c) ∧ r.1.length ≤ c ∧ c ≤ 9223372036854775807 ∧ RowN w.heap.size (IsN w.heap.size w' n) w' a r.1 ∧ St w' g h r.2.1 r.2.2 ∧ KB g w w'
def ListAt (f : List UInt8 → Int → List Tv × List UInt8 × Int) (d n : Nat) : Prop := ∀ (w : World) (g h : Nat) (l : List UInt8) (e : Int), St w g h l e → h < w.heap.size →
    Calls Try.prog 102 #[.pointer (some ⟨g, 0, none⟩), .int .i64 (d : Int)] w (LsP w g h n (f l e))
theorem fl_l (l : List UInt8) (e f : Int) (hf : (f != 0) = true) : (if e == 0 && f != 0 then [] else l) = flL l e := by
  unfold flL
  rw [hf]
  by_cases h : e = 0 <;> simp [h]
theorem fl_e (e f : Int) : (if e == 0 then f else e) = flE e f := by
  unfold flE
  by_cases h : e = 0 <;> simp [h]
set_option maxHeartbeats 1000000 in
theorem list0_calls (n : Nat) : ListAt (fun l e => ([], flL l e, flE e 5)) 0 n := by
  intro w g h l e r hh
  have F : Hid (Calls Try.prog 81 #[.pointer (some ⟨g, 0, none⟩), .int .i64 5] w fun r w' => r = .returned (.tuple #[]) ∧ St w' g h (flL l e) (flE e 5) ∧ KB g w w') := by
    have := fail_st w g h l e 5 r
    rwa [fl_l l e 5 (by decide), fl_e e 5] at this
  clear r
  go_enter Try.func102, Try.ntmps102
  go_wp2_with fail
  refine F.out.mono ?_
  rintro e1 w1 ⟨rfl, s1, k1⟩
  have S1 : Hid (St w1 g h (flL l e) (flE e 5)) := s1
  have K1 : Hid (KB g w w1) := k1
  clear s1 k1
  go_wp2_with fail
  go_ret
  exact ⟨none, 0, rfl, Nat.le_refl _, by omega, fun i t ht => by simp at ht, S1.out, K1.out⟩
theorem rdN_err {f : List UInt8 → Int → Tv × List UInt8 × Int} : ∀ (n : Nat) (l : List UInt8) (e : Int), (rdN f n l e).2.2 ≠ 0 → (rdN f n l e).1 = []
  | 0, l, e, _ => rfl
  | n + 1, l, e, h => by
    unfold rdN at h ⊢
    split at h
    · split at h
      · exact absurd rfl h
      · rename_i h0 h1
        rw [if_pos h0, if_neg h1]
    · rename_i h0
      rw [if_neg h0]
/-- What was read so far, and what comes of the rest. -/
def jn (acc : List Tv) (q : List Tv × List UInt8 × Int) : List Tv × List UInt8 × Int := if q.2.2 = 0 then (acc ++ q.1, q.2.1, 0) else ([], q.2.1, q.2.2)
theorem jn_nil {f : List UInt8 → Int → Tv × List UInt8 × Int} (n : Nat) (l : List UInt8) (e : Int) : jn [] (rdN f n l e) = rdN f n l e := by
  unfold jn
  split
  · rename_i h
    rw [List.nil_append]
    exact Prod.ext rfl (Prod.ext rfl h.symm)
  · rename_i h
    exact Prod.ext (rdN_err n l e h).symm rfl
theorem jn_more {f : List UInt8 → Int → Tv × List UInt8 × Int} (acc : List Tv) (n : Nat) (l : List UInt8) (h : (f l 0).2.2 = 0) : jn acc (rdN f (n + 1) l 0) = jn (acc ++ [(f l 0).1]) (rdN f n (f l 0).2.1 0) := by
  unfold jn
  conv => lhs; unfold rdN
  rw [if_pos h]
  by_cases h1 : (rdN f n (f l 0).2.1 0).2.2 = 0
  · simp [h1]
  · simp [h1]
theorem jn_end {f : List UInt8 → Int → Tv × List UInt8 × Int} (acc : List Tv) (n : Nat) (l : List UInt8) (h : (f l 0).2.2 ≠ 0) : jn acc (rdN f (n + 1) l 0) = ([], (f l 0).2.1, (f l 0).2.2) := by
  unfold jn
  conv => lhs; unfold rdN
  rw [if_neg h]
  simp [h]
set_option maxHeartbeats 1000000 in
set_option maxRecDepth 100000 in
theorem list_calls (f : List UInt8 → Int → Tv × List UInt8 × Int) (d n : Nat) (hd : d ≤ 4) (hR : ReadAt f d n) : ListAt (rdL f) (d + 1) n := by
  intro w g h l e r hh
  have NC := num_st w g h l e 12 r
  have n0 := sNum_nat 12 l e
  have nle : (sNum 12 l e).1 ≤ 12 := by
    unfold sNum
    split
    · split
      · split
        · simp
        · simp; omega
      · simp
    · simp
  have nz := sNum_zero 12 l e
  have hdef : rdL f l e = rdN f (sNum 12 l e).1.toNat (sNum 12 l e).2.1 (sNum 12 l e).2.2 := rfl
  rw [hdef]
  generalize (sNum 12 l e).1 = k at NC n0 nle nz ⊢
  generalize (sNum 12 l e).2.1 = l1 at NC ⊢
  generalize (sNum 12 l e).2.2 = e1 at NC nz ⊢
  obtain ⟨N, rfl⟩ := Int.eq_ofNat_of_zero_le n0
  rw [Int.toNat_natCast]
  have HNC : Hid (Calls Try.prog 56 #[.pointer (some ⟨g, 0, none⟩), .int .i64 12] w (Rs w g h (.int .i64 (N : Int)) l1 e1)) := NC
  have HZ : Hid (N = 0 ∨ e1 = 0) := by
    show _ ∨ _
    by_cases h0 : e1 = 0
    · exact .inr h0
    · exact .inl (by have := nz h0; omega)
  have HN : Hid (N ≤ 12) := by show _ ≤ _; omega
  have HR : Hid (ReadAt f d n) := hR
  have HH : Hid (h < w.heap.size ∧ g < w.heap.size) := ⟨hh, r.lt⟩
  have f0 : (((d + 1 : Nat) : Int) == 0) = false := by simp; omega
  obtain ⟨D, hD⟩ : ∃ D : Int, D = ((d + 1 : Nat) : Int) := ⟨_, rfl⟩
  rw [← hD] at f0 ⊢
  have hdw : IntKind.i64.wrap (D - 1) = (d : Int) := by rw [hD, IntKind.wrap_i64]; omega
  have hdw2 : wrap64 (D - 1) = (d : Int) := by rw [hD]; unfold wrap64; omega
  have hNb : (N : Int) ≤ 12 := by have := HN.out; omega
  clear NC n0 nle nz hdef r hR hh hD hd
  go_enter Try.func102, Try.ntmps102
  go_wp2_with fail
  refine HNC.out.mono ?_
  rintro x w1 ⟨rfl, s1, k1⟩
  have S1 : Hid (St w1 g h l1 e1) := s1
  have K1 : Hid (KB g w w1) := k1
  clear s1 k1
  go_wp2_with fail
  go_loopw [5, 12] (fun u i wr => ∃ (j : Nat) (acc : List Tv) (lj : List UInt8) (ej : Int), j ≤ N ∧ i = .int .i64 (j : Int) ∧ Hid (acc.length = j) ∧ Hid (Vs w.heap.size n wr u acc) ∧ Hid (St wr g h lj ej) ∧ Hid (KB g w wr) ∧ Hid (N = 0 ∨ ej = 0) ∧ Hid (rdN f N l1 e1 = jn acc (rdN f (N - j) lj ej))) (fun _ i _ => N - (intOf i).toNat)
  case atStart => exact ⟨0, [], l1, e1, Nat.zero_le _, rfl, rfl, Vs.nil _ _ _, S1, K1, HZ, (by show _ = _; rw [Nat.sub_zero, jn_nil])⟩
  case round =>
    obtain ⟨j, acc, lj, ej, hj, rfl, HA, HV, HS, HK, HE, HJ⟩ := hrel
    obtain ⟨ua, un, uc, hu⟩ : ∃ a n c, u5 = .slice a n c := by obtain ⟨a, c, h, _⟩ := HV.out.shape; exact ⟨_, _, _, h⟩
    by_cases hlt : j < N
    · have ej0 : ej = 0 := by rcases HE.out with h | h; omega; exact h
      subst ej0
      have hszw : w.heap.size ≤ wr.heap.size := HK.out.2.2.2.1
      have RC : Hid (Calls Try.prog 93 #[.pointer (some ⟨g, 0, none⟩), .int .i64 (d : Int)] wr (RdP wr g h n (f lj 0))) := HR.out wr g h lj 0 HS.out (Nat.lt_of_lt_of_le HH.out.1 hszw)
      have hjl : (j : Int) < (N : Int) := by omega
      subst hu
      clear hszw
      go_wp2_with fail
      refine RC.out.mono ?_
      rintro x w2 ⟨v, rfl, hi2, hs2, hk2⟩
      obtain ⟨vk, vx, vb, vs, va, vm, vc, rfl⟩ := hi2.shape
      have hz0 : w.heap.size ≤ wr.heap.size := HK.out.2.2.2.1
      have hz2 : wr.heap.size ≤ w2.heap.size := hk2.2.2.2.1
      have hvs2 : Vs w.heap.size n w2 (.slice ua un uc) acc := HV.out.keep (fun B h1 h2 => hk2.2.2.2.2 B h2 (by have := HH.out.2; omega))
      have hVW : Vs w.heap.size n (w2.alloc (.cells #[.int .i64 vk, .int .i64 vx, .int .u64 vb, .string vs, .slice va vm vc] 25)) (.slice ua un uc) acc := hvs2.keep (fun B _ h2 => (bel1 w2 _).block B h2)
      have hlto : ∀ B, (Value.slice ua un uc).ownBlock = some B → B < wr.heap.size := fun B hB => by obtain ⟨cells, ho, _⟩ := HV.out; exact (World.ownsRow.lt ho B hB).2
      have hq : IsQ (fun B => w.heap.size ≤ B ∧ (Value.slice ua un uc).ownBlock ≠ some B) w2 n (.agg #[.int .i64 vk, .int .i64 vx, .int .u64 vb, .string vs, .slice va vm vc]) (f lj 0).1 := hi2.isQ (fun B h1 _ => ⟨by omega, fun e => by have := hlto B e; omega⟩)
      obtain ⟨u', w3, hr3, hv3, hb3, hk3⟩ := vapp_run (src := w2.heap.size) hVW (box_at w2 _ _ _ _ _) (by intro z hz; simp only [List.mem_cons, List.not_mem_nil, or_false] at hz; rcases hz with rfl | rfl | rfl | rfl | rfl <;> rfl) (hq.keep (fun B hB hl => ⟨(bel1 w2 _).block B hl, hB⟩)) (by simp; omega) (by have := HA.out; have := HN.out; omega)
      have hgo : ∀ B, B < w.heap.size → w3.heap[B]? = w2.heap[B]? := fun B hB => (hb3.block B hB).trans ((bel1 w2 _).block B (by omega))
      have S3 : Hid (St w3 g h (f lj 0).2.1 (f lj 0).2.2) := hs2.keep (by have := hb3.size; simp at this; omega) (hgo g HH.out.2) (hgo h HH.out.1)
      have K3 : Hid (KB g w w3) := kb_below (HK.out.trans hk2) (((bel1 w2 _).mono (by omega)).trans hb3)
      have EC : Hid (Calls Try.prog 78 #[.pointer (some ⟨g, 0, none⟩)] w3 _) := err_st S3.out
      have V3 : Hid (Vs w.heap.size n w3 u' (acc ++ [(f lj 0).1])) := hv3
      obtain ⟨ua', un', uc', hu'⟩ : ∃ a n c, u' = .slice a n c := by obtain ⟨a, c, h, _⟩ := hv3.shape; exact ⟨_, _, _, h⟩
      subst hu'
      obtain ⟨m, hm⟩ : ∃ m, N - j = m + 1 := ⟨N - j - 1, by omega⟩
      have HJ2 : Hid (rdN f N l1 e1 = jn acc (rdN f (m + 1) lj 0)) := by show _ = _; rw [HJ.out, hm]
      have HM : Hid (N - (j + 1) = m) := by show _ = _; omega
      obtain ⟨e2, he2⟩ : ∃ e2, e2 = (f lj 0).2.2 := ⟨_, rfl⟩
      rw [← he2] at EC
      have HE2 : Hid (e2 = (f lj 0).2.2) := he2
      clear hi2 hs2 hk2 hz0 hz2 hvs2 hVW hlto hq hv3 hb3 hk3 hgo hm he2
      go_wp2_with (at_builtin; refine Lib.wpList_append_run _ rfl _ _ 23 23 rfl _ _ rfl rfl _ _ (hr3 _) ?_)
      refine EC.out.mono ?_
      rintro x w4 ⟨rfl, hw4⟩
      have hw5 := hw4.symm
      subst hw5
      clear hw4
      by_cases h0 : e2 = 0
      · have d0 : (e2 != 0) = false := by simp [h0]
        have HF0 : Hid ((f lj 0).2.2 = 0) := HE2.out.symm.trans h0
        clear h0
        go_wp2_with fail
        refine ⟨⟨j + 1, acc ++ [(f lj 0).1], (f lj 0).2.1, 0, hlt, by rw [Int.natCast_add]; rfl, (by show _ = _; rw [List.length_append, HA.out]; rfl), V3, (by have := S3.out; rwa [HF0.out] at this), K3, .inr rfl, (by show _ = _; rw [HJ2.out, HM.out, jn_more acc m lj HF0.out])⟩, ?_⟩
        simp only [intOf]
        omega
      · have d0 : (e2 != 0) = true := by simpa using h0
        have HF0 : Hid ((f lj 0).2.2 ≠ 0) := fun hc => h0 (HE2.out.trans hc)
        clear h0
        go_wp2_with fail
        go_ret
        rw [HJ2.out, jn_end acc m lj HF0.out]
        exact ⟨none, 0, rfl, Nat.le_refl _, by omega, fun i t ht => by simp at ht, S3.out, K3.out⟩
    · obtain rfl : j = N := by omega
      obtain ⟨va, vc, hv, hvc, hvm⟩ := HV.out.shape
      subst hv
      have HJ2 : Hid (rdN f j l1 e1 = (if ej = 0 then (acc, lj, 0) else ([], lj, ej))) := by
        show _ = _
        rw [HJ.out, Nat.sub_self]
        unfold jn rdN
        simp
      have HVC : Hid (acc.length ≤ vc ∧ vc ≤ 9223372036854775807) := ⟨hvc, hvm⟩
      obtain ⟨L, hL⟩ : ∃ L, L = acc.length := ⟨_, rfl⟩
      rw [← hL]
      have HL : Hid (L = acc.length) := hL
      clear hvc hvm hL hu
      go_wp2_with fail
      go_ret
      rw [HJ2.out]
      by_cases h0 : ej = 0
      · subst h0
        rw [if_pos rfl, HL.out]
        exact ⟨va, vc, rfl, HVC.out.1, HVC.out.2, HV.out.row, HS.out, HK.out⟩
      · rw [if_neg h0]
        have hj0 : acc = [] := List.eq_nil_of_length_eq_zero (by rcases HE.out with h | h; have := HA.out; omega; exact absurd h h0)
        have hLe := HL.out
        subst hj0
        simp at hLe
        subst hLe
        exact ⟨va, vc, rfl, Nat.zero_le _, HVC.out.2, fun i t ht => by simp at ht, HS.out, HK.out⟩
end Go.Proofs.Ytjmonkhkcmcfiaa
