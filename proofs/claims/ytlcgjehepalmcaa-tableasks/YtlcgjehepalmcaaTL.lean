/- The contracts of fits and Can; a table that can be, with one more. -/
import Derived.Test.YtlcgjehepalmcaaTK
import Derived.Test.YtlcgjehepalmcaaMB
namespace Go.Proofs.Ytlcgjehepalmcaa
open Go.ChangeShapes Go.WideShapes Go.ChangeAt Go.RowKit
def inB (n l m : Int) : Bool := decide (l ≤ n) && decide (n ≤ m)
theorem within_calls (n l m : Int) (w : World) : Calls Try.prog 41 #[.int .i64 n, .int .i64 l, .int .i64 m] w fun e w' => e = .returned (.bool (inB n l m)) ∧ w' = w := by
  unfold inB
  cases h : decide (l ≤ n) <;> cases h2 : decide (n ≤ m) <;>
  · go_enter Try.func41, Try.ntmps41
    go_wp2_with fail
    go_ret
    exact ⟨rfl, rfl⟩
/-- One of a table may be. -/
def fitB (d : Dn) : Bool := nmB d.s && (inB d.k 1 13 && (decide (d.y.length ≤ 4096) && inB d.r 1 10))
set_option maxHeartbeats 2000000 in
set_option maxRecDepth 100000 in
theorem dfits_calls (d : Dn) (p : Option Addr) (c : Nat) (w : World) : Calls Try.prog 24 #[.agg #[.string d.s, .int .i64 d.k, .slice p d.y.length c, .int .i64 d.r]] w fun e w' => e = .returned (.bool (fitB d)) ∧ Below w.heap.size w w' := by
  have KN : Hid (∀ W, Calls Try.prog 40 #[.string d.s] W fun e w' => e = .returned (.bool (nmB d.s)) ∧ w' = W) := name_calls d.s
  have KK : Hid (∀ W, Calls Try.prog 41 #[.int .i64 d.k, .int .i64 1, .int .i64 13] W fun e w' => e = .returned (.bool (inB d.k 1 13)) ∧ w' = W) := within_calls d.k 1 13
  have KR : Hid (∀ W, Calls Try.prog 41 #[.int .i64 d.r, .int .i64 1, .int .i64 10] W fun e w' => e = .returned (.bool (inB d.r 1 10)) ∧ w' = W) := within_calls d.r 1 10
  have hb : Hid (Below w.heap.size w (w.alloc (.cells #[.string d.s, .int .i64 d.k, .slice p d.y.length c, .int .i64 d.r] 37))) := bel1 _ _
  have hl : decide ((d.y.length : Int) ≤ 4096) = decide (d.y.length ≤ 4096) := by
    by_cases h : d.y.length ≤ 4096
    · rw [decide_eq_true h]; exact decide_eq_true (by omega)
    · rw [decide_eq_false h]; exact decide_eq_false (by omega)
  have HQ : Hid (fitB d = (nmB d.s && (inB d.k 1 13 && (decide (d.y.length ≤ 4096) && inB d.r 1 10)))) := rfl
  generalize fitB d = F at HQ ⊢
  obtain ⟨s, k, y, r⟩ := d
  dsimp only at KN KK KR hb hl HQ ⊢
  obtain ⟨⟨e0, e1, e2, e3⟩⟩ : Nonempty (At4 (w.alloc (.cells #[.string s, .int .i64 k, .slice p y.length c, .int .i64 r] 37)) w.heap.size 0 (.string s) (.int .i64 k) (.slice p y.length c) (.int .i64 r)) := ⟨box4 _ _ _ _ _⟩
  generalize nmB s = b0 at KN HQ
  generalize inB k 1 13 = b1 at KK HQ
  generalize inB r 1 10 = b3 at KR HQ
  simp only [Nat.zero_add] at e1 e2 e3
  generalize hL : y.length = L at hb hl HQ e0 e1 e2 e3 ⊢
  clear hL
  generalize decide (L ≤ 4096) = b2 at hl HQ
  go_enter Try.func24, Try.ntmps24
  go_upto_region 1 with fail
  change Code.wp _ _ _ _ (w.alloc (.cells #[.string s, .int .i64 k, .slice p L c, .int .i64 r] 37))
  generalize w.alloc (.cells #[.string s, .int .i64 k, .slice p L c, .int .i64 r] 37) = W at hb e0 e1 e2 e3 ⊢
  go_wp2_with fail
  refine (KN.out _).mono ?_
  rintro e w1 ⟨rfl, hw⟩
  subst hw
  cases b0 with
  | false =>
    have HF : Hid (F = false) := HQ.out
    go_wp2_with fail
    go_ret
    exact ⟨by rw [HF.out]; rfl, hb.out⟩
  | true =>
    have HQ1 : Hid (F = (b1 && (b2 && b3))) := by show _ = _; have := HQ.out; rwa [Bool.true_and] at this
    go_wp2_with fail
    refine (KK.out _).mono ?_
    rintro e w2 ⟨rfl, hw⟩
    subst hw
    cases b1 with
    | false =>
      have HF : Hid (F = false) := HQ1.out
      go_wp2_with fail
      go_ret
      exact ⟨by rw [HF.out]; rfl, hb.out⟩
    | true =>
      cases b2 with
      | false =>
        have HF : Hid (F = false) := HQ1.out
        go_wp2_with fail
        go_ret
        exact ⟨by rw [HF.out]; rfl, hb.out⟩
      | true =>
        have HF : Hid (F = b3) := by show _ = _; have := HQ1.out; rwa [Bool.true_and, Bool.true_and] at this
        go_wp2_with fail
        refine (KR.out _).mono ?_
        rintro e w3 ⟨rfl, hw⟩
        subst hw
        cases b3 <;>
        · go_wp2_with fail
          go_ret
          exact ⟨by rw [HF.out]; rfl, hb.out⟩
/-- The order of texts. -/
theorem bl_asymm : ∀ a b : List UInt8, Op.bytesLess a b = true → Op.bytesLess b a = false
  | [], [], h => by simp [Op.bytesLess] at h
  | [], _ :: _, _ => rfl
  | _ :: _, [], h => by simp [Op.bytesLess] at h
  | a :: x, b :: y, h => by
    simp only [Op.bytesLess, Bool.or_eq_true, Bool.and_eq_true, decide_eq_true_eq, beq_iff_eq] at h
    simp only [Op.bytesLess, Bool.or_eq_false_iff, Bool.and_eq_false_iff, decide_eq_false_iff_not, beq_eq_false_iff_ne]
    rcases h with h | ⟨rfl, h⟩
    · exact ⟨fun h2 => by rw [UInt8.lt_iff_toNat_lt] at h h2; omega, .inl (fun e => by subst e; rw [UInt8.lt_iff_toNat_lt] at h; omega)⟩
    · exact ⟨fun h2 => by rw [UInt8.lt_iff_toNat_lt] at h2; omega, .inr (bl_asymm x y h)⟩
theorem bl_trans : ∀ a b c : List UInt8, Op.bytesLess a b = true → Op.bytesLess b c = true → Op.bytesLess a c = true
  | _, _, [], _, h => by simp [Op.bytesLess] at h
  | _, [], _ :: _, h, _ => by simp [Op.bytesLess] at h
  | [], _ :: _, _ :: _, _, _ => rfl
  | a :: x, b :: y, c :: z, h, g => by
    simp only [Op.bytesLess, Bool.or_eq_true, Bool.and_eq_true, decide_eq_true_eq, beq_iff_eq] at *
    rcases h with h | ⟨rfl, h⟩ <;> rcases g with g | ⟨rfl, g⟩
    · exact .inl (by rw [UInt8.lt_iff_toNat_lt] at *; omega)
    · exact .inl h
    · exact .inl g
    · exact .inr ⟨rfl, bl_trans x y z h g⟩
theorem bl_tri : ∀ a b : List UInt8, Op.bytesLess a b = false → a ≠ b → Op.bytesLess b a = true
  | [], [], _, h => absurd rfl h
  | [], _ :: _, h, _ => by simp [Op.bytesLess] at h
  | _ :: _, [], _, _ => rfl
  | a :: x, b :: y, h, hne => by
    simp only [Op.bytesLess, Bool.or_eq_false_iff, Bool.and_eq_false_iff, decide_eq_false_iff_not, beq_eq_false_iff_ne] at h
    simp only [Op.bytesLess, Bool.or_eq_true, Bool.and_eq_true, decide_eq_true_eq, beq_iff_eq]
    by_cases e : a = b
    · subst e
      refine .inr ⟨rfl, bl_tri x y ?_ (fun e => hne (by rw [e]))⟩
      rcases h.2 with h2 | h2
      · exact absurd rfl h2
      · exact h2
    · refine .inl ?_
      have h1 := h.1
      rw [UInt8.lt_iff_toNat_lt] at *
      have : a.toNat ≠ b.toNat := fun e2 => e (UInt8.toNat_inj.1 e2)
      omega
/-- Not above. -/
def leS (a b : ByteArray) : Bool := Op.bytesLess a.toList b.toList || a.toList == b.toList
theorem leS_gt (a b : ByteArray) : (!leS a b) = gtS a b := by unfold leS gtS; rw [Bool.not_or]
theorem lt_of_not {a b : ByteArray} (h : gtS a b = false) (he : eqS a b = false) : Op.bytesLess a.toList b.toList = true := by
  unfold gtS at h
  unfold eqS at he
  rw [he] at h
  simpa using h
theorem gt_of_lt {a b : ByteArray} (h : Op.bytesLess a.toList b.toList = true) : gtS b a = true := by
  unfold gtS
  rw [bl_asymm _ _ h]
  simp only [Bool.not_false, Bool.true_and, Bool.not_eq_eq_eq_not, Bool.not_true, beq_eq_false_iff_ne, ne_eq]
  intro e
  rw [e] at h
  have := bl_asymm _ _ h
  rw [h] at this
  cases this
theorem lt_of_gt {a b : ByteArray} (h : gtS b a = true) : Op.bytesLess a.toList b.toList = true := by
  unfold gtS at h
  simp only [Bool.and_eq_true, Bool.not_eq_eq_eq_not, Bool.not_true, beq_eq_false_iff_ne, ne_eq] at h
  exact bl_tri _ _ h.1 h.2
/-- Entries that may be, and rise, all above last. -/
def rzB : ByteArray → List Dn → Bool
  | _, [] => true
  | last, d :: t => fitB d && (!leS d.s last) && rzB d.s t
/-- A table can be. -/
def canB (ds : List Dn) : Bool := decide (ds.length ≤ 30) && rzB ⟨#[]⟩ ds
theorem plc_cons (x : Dn) (t : List Dn) (q : ByteArray) : plc (x :: t) q = if gtS x.s q then 0 else plc t q + 1 := by
  unfold plc
  rw [List.findIdx_cons]
  cases gtS x.s q <;> rfl
theorem rz_ins (d : Dn) : ∀ (ds : List Dn) (last : ByteArray), rzB last ds = true → (∀ x ∈ ds, eqS x.s d.s = false) → rzB last (insD ds (plc ds d.s) d) = (fitB d && !leS d.s last)
  | [], last, _, _ => by simp [insD, rzB]
  | x :: t, last, h, he => by
    simp only [rzB, Bool.and_eq_true] at h
    obtain ⟨⟨h1, h2⟩, h3⟩ := h
    rw [plc_cons]
    cases hg : gtS x.s d.s with
    | true =>
      simp only [if_true, insD, List.take_zero, List.nil_append, List.drop_zero, rzB]
      rw [h1, h3, leS_gt x.s d.s, hg]
      simp
    | false =>
      simp only [Bool.false_eq_true, if_false]
      have e : insD (x :: t) (plc t d.s + 1) d = x :: insD t (plc t d.s) d := by simp [insD]
      rw [e]
      simp only [rzB]
      rw [rz_ins d t x.s h3 (fun y hy => he y (List.mem_cons_of_mem _ hy)), h1, h2]
      have l1 := lt_of_not hg (he x (List.mem_cons_self ..))
      rw [leS_gt, leS_gt, gt_of_lt l1, gt_of_lt (bl_trans _ _ _ (lt_of_gt (by rw [← leS_gt]; exact h2)) l1)]
      simp
theorem can_ins {ds : List Dn} {d : Dn} (h : canB ds = true) (hl : ds.length < 30) (he : fnd ds d.s = none) : canB (insD ds (plc ds d.s) d) = canB [d] := by
  unfold canB at *
  simp only [Bool.and_eq_true] at h
  have hne : ∀ x ∈ ds, eqS x.s d.s = false := fun x hx => by
    unfold fnd at he
    rw [List.find?_eq_none] at he
    simpa using he x hx
  rw [rz_ins d ds _ h.2 hne, insD_len (plc_le _ _), decide_eq_true (show ds.length + 1 ≤ 30 by omega)]
  simp [rzB]
set_option maxHeartbeats 4000000 in
set_option maxRecDepth 100000 in
theorem can_calls (ds : List Dn) (a : Option Addr) (n c : Nat) (hn : ds.length = n) (w : World) (h : Tb w a ds) :
    Calls Try.prog 14 #[.slice a n c] w fun e w' => e = .returned (.bool (canB ds)) ∧ Below w.heap.size w w' := by
  by_cases h30 : n ≤ 30
  · have d30 : decide ((n : Int) > 30) = false := decide_eq_false (by omega)
    have d31 : decide (30 < (n : Int)) = false := decide_eq_false (by omega)
    have d32 : decide (30 < n) = false := decide_eq_false (by omega)
    have HT : Hid (canB ds = rzB ⟨#[]⟩ ds) := by show _ = _; unfold canB; rw [hn, decide_eq_true h30, Bool.true_and]
    have HH : Hid (Tb w a ds) := h
    have HN : Hid (ds.length = n) := hn
    have HL : Hid (n ≤ 30) := h30
    generalize canB ds = C at HT ⊢
    clear h hn h30
    go_enter Try.func14, Try.ntmps14
    go_wp2_with fail
    go_loopw [3, 5, 11] (fun ls _ i wr => ∃ (j : Nat) (last : ByteArray), j ≤ n ∧ i = .int .i64 (j : Int) ∧ ls = .string last ∧ Hid (C = rzB last (ds.drop j)) ∧ Hid (Below w.heap.size w wr)) (fun _ _ i _ => n - (intOf i).toNat)
    case atStart => exact ⟨0, _, Nat.zero_le _, rfl, rfl, HT, Below.refl _ _⟩
    case round =>
      obtain ⟨j, last, hj, rfl, rfl, HC, HB⟩ := hrel
      by_cases hlt : j < n
      · obtain ⟨d, hd⟩ : ∃ d, ds[j]? = some d := ⟨_, List.getElem?_eq_getElem (by rw [HN.out]; exact hlt)⟩
        obtain ⟨B, o, p, cc, rfl, ⟨e0, e1, e2, e3⟩, hh⟩ := (HH.out.below HB.out) j d hd
        have hdr : ds.drop j = d :: ds.drop (j + 1) := by
          have hjl : j < ds.length := by rw [HN.out]; exact hlt
          rw [List.drop_eq_getElem_cons hjl]
          rw [List.getElem?_eq_getElem hjl] at hd
          injection hd with hd
          rw [hd]
        have HC2 : Hid (C = (fitB d && (!leS d.s last) && rzB d.s (ds.drop (j + 1)))) := by have := HC.out; rw [hdr] at this; exact this
        have KF : Hid (∀ W, Calls Try.prog 24 #[.agg #[.string d.s, .int .i64 d.k, .slice p d.y.length cc, .int .i64 d.r]] W fun e w' => e = .returned (.bool (fitB d)) ∧ Below W.heap.size W w') := fun W => dfits_calls d p cc W
        have HW : Hid (wrap64 ((j : Int) + 1) = ((j + 1 : Nat) : Int)) := wr1 hlt (by have := HL.out; omega)
        have hjn : (j : Int) < (n : Int) := by omega
        have n1 : (wr.alloc (.cells #[.string ⟨#[]⟩, .int .i64 0, .slice none 0 0, .int .i64 0] 37)).heap[wr.heap.size]? = some (.cells #[.string ⟨#[]⟩, .int .i64 0, .slice none 0 0, .int .i64 0] 37 (0, 0)) := heap_alloc_last wr _
        have m1 : (wr.alloc (.cells #[.string d.s, .int .i64 d.k, .slice p d.y.length cc, .int .i64 d.r] 37)).heap[wr.heap.size]? = some (.cells #[.string d.s, .int .i64 d.k, .slice p d.y.length cc, .int .i64 d.r] 37 (0, 0)) := heap_alloc_last wr _
        have HB1 : Hid (Below w.heap.size w (wr.alloc (.cells #[.string d.s, .int .i64 d.k, .slice p d.y.length cc, .int .i64 d.r] 37))) := bel2 HB.out (bel1 wr _)
        clear hh hd hdr
        generalize fitB d = F at KF HC2
        go_upto_region 7 with (refine wpList_store_row rfl 37 _ _ rfl wr.heap.size _ rfl rfl 37 _ n1 info37s rfl (one4 _ _ _ _ _ _) ?_)
        rw [World.setRow_alloc_new]
        generalize wr.alloc (.cells #[.string d.s, .int .i64 d.k, .slice p d.y.length cc, .int .i64 d.r] 37) = W1 at HB1 m1 ⊢
        clear e0 e1 e2 e3 n1
        go_wp2_with (refine wpList_load_row rfl 37 _ rfl wr.heap.size rfl 37 _ (0, 0) _ m1 Try.underlying37 rfl info37s ?_)
        refine (KF.out W1).mono ?_
        rintro e w1 ⟨rfl, hb⟩
        have HB2 : Hid (Below w.heap.size w w1) := bel2 HB1.out hb
        have x0 : w1.cell? ⟨wr.heap.size, 0, none⟩ = some (.string d.s) := row_cell (row_below hb m1) rfl
        clear hb KF m1
        cases F with
        | false =>
          have HF : Hid (C = false) := by have := HC2.out; rw [Bool.false_and, Bool.false_and] at this; exact this
          go_wp2_with fail
          go_ret
          exact ⟨by rw [HF.out]; rfl, HB2.out⟩
        | true =>
          cases hle : leS d.s last with
          | true =>
            have HF : Hid (C = false) := by show _ = _; have := HC2.out; rw [hle] at this; simpa using this
            have hle2 : (Op.bytesLess d.s.toList last.toList || d.s.toList == last.toList) = true := hle
            clear hle
            cases hx : Op.bytesLess d.s.toList last.toList with
            | true =>
              go_wp2_with fail
              go_ret
              exact ⟨by rw [HF.out]; rfl, HB2.out⟩
            | false =>
              rw [hx, Bool.false_or] at hle2
              go_wp2_with fail
              go_ret
              exact ⟨by rw [HF.out]; rfl, HB2.out⟩
          | false =>
            have HF : Hid (C = rzB d.s (ds.drop (j + 1))) := by show _ = _; have := HC2.out; rw [hle] at this; simpa using this
            have hle2 : (Op.bytesLess d.s.toList last.toList || d.s.toList == last.toList) = false := hle
            rw [Bool.or_eq_false_iff] at hle2
            obtain ⟨hx, hy⟩ := hle2
            clear hle
            go_wp2_with fail
            exact ⟨⟨j + 1, _, hlt, by first | rw [HW.out] | exact congrArg _ (Int.natCast_succ j).symm, rfl, HF, HB2⟩, by first | exact meas hlt HW.out | exact meas hlt (Int.natCast_succ j).symm⟩
      · obtain rfl : j = n := by omega
        have hta : ds.drop j = [] := by rw [← HN.out, List.drop_length]
        have HF : Hid (C = true) := by have := HC.out; rw [hta] at this; exact this
        have hjn : decide ((j : Int) < (j : Int)) = false := decide_eq_false (by omega)
        go_wp2_with fail
        go_ret
        exact ⟨by rw [HF.out]; rfl, HB.out⟩
  · have d31 : decide (30 < (n : Int)) = true := decide_eq_true (by omega)
    have d32 : decide (30 < n) = true := decide_eq_true (by omega)
    have HT : Hid (canB ds = false) := by show _ = _; unfold canB; rw [hn, decide_eq_false h30, Bool.false_and]
    clear h hn h30
    go_enter Try.func14, Try.ntmps14
    go_wp2_with fail
    go_ret
    exact ⟨by rw [HT.out]; rfl, Below.refl _ _⟩
end Go.Proofs.Ytlcgjehepalmcaa
