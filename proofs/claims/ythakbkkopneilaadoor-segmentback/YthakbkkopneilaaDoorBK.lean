/- The walk of SegmentBack. -/
import Derived.Test.YthakbkkopneilaaDoorBI
import Derived.Test.YthakbkkopneilaaDoorBJ
import Derived.Deep.RegionLaw
import Derived.BigRegion
import Derived.Deep.DeepCutAuto
import Derived.Deep.CutBlock
import Derived.Deep.RegionHeld3
namespace Go.Proofs.YthakbkkopneilaaDoor
open Go.ChangeShapes Go.WideShapes Go.ChangeAt Go.RowKit
theorem cut_num (cut : Int) (W : Nat) (hW : W ≤ 20180) : ∃ ct : Nat, wrap64 ((IntKind.u64.wrap cut).tmod ((W : Int) + 1)) = (ct : Int) ∧ ct ≤ W := by
  rw [IntKind.wrap_u64]
  have h0 : 0 ≤ cut % 18446744073709551616 := Int.emod_nonneg _ (by omega)
  rw [Int.tmod_eq_emod_of_nonneg h0]
  have h1 : 0 ≤ cut % 18446744073709551616 % ((W : Int) + 1) := Int.emod_nonneg _ (by omega)
  have h2 : cut % 18446744073709551616 % ((W : Int) + 1) < (W : Int) + 1 := Int.emod_lt_of_pos _ (by omega)
  refine ⟨(cut % 18446744073709551616 % ((W : Int) + 1)).toNat, ?_, by omega⟩
  unfold wrap64
  omega
theorem bodyL_snoc (sn : Option (List UInt8)) (rs : List (List UInt8)) (p : List UInt8) : bodyL sn (rs ++ [p]) = bodyL sn rs ++ sealL 3 p := by
  have h : ∀ rs : List (List UInt8), flat3 (rs ++ [p]) = flat3 rs ++ sealL 3 p := by
    intro rs
    induction rs with
    | nil => simp [flat3]
    | cons q qs ih => simp only [List.cons_append, flat3, ih, List.append_assoc]
  cases sn with
  | none => exact h rs
  | some s => simp only [bodyL, h, List.append_assoc]
theorem itemsL_snoc (sn : Option (List UInt8)) (rs : List (List UInt8)) (p : List UInt8) : itemsL sn (rs ++ [p]) = itemsL sn rs ++ [p] := by
  cases sn <;> simp [itemsL]
theorem items_len (sn : Option (List UInt8)) (rs : List (List UInt8)) : (itemsL sn rs).length ≤ rs.length + 1 := by
  cases sn <;> simp [itemsL]
theorem items_wide (sn : Option (List UInt8)) (rs : List (List UInt8)) (h : ∀ p ∈ rs, p.length ≤ 500) : rwide (itemsL sn rs) ≤ rwide (itemsL sn []) + rs.length * 509 := by
  have hr : ∀ rs : List (List UInt8), (∀ p ∈ rs, p.length ≤ 500) → rwide rs ≤ rs.length * 509 := by
    intro rs
    induction rs with
    | nil => intro _; simp [rwide]
    | cons p ps ih =>
      intro h
      have h1 := h p (by simp)
      have h2 := ih (fun q hq => h q (by simp [hq]))
      simp only [rwide, List.length_cons]
      omega
  have := hr rs h
  cases sn with
  | none => simp only [itemsL, rwide]; omega
  | some s => simp only [itemsL, rwide]; omega
theorem take_min {l : List UInt8} {q k : Nat} (hq : q = min l.length k) : l.take q = l.take k := by
  rw [hq]
  by_cases h : l.length ≤ k
  · rw [Nat.min_eq_left h, List.take_length, List.take_of_length_le h]
  · rw [Nat.min_eq_right (by omega)]
theorem num_62 (x : Int) : ∃ r : Int, wrap64 ((IntKind.u64.wrap x).tmod 4611686018427387904) = r ∧ 0 ≤ r ∧ r < 4611686018427387904 := by
  rw [IntKind.wrap_u64]
  have h0 : 0 ≤ x % 18446744073709551616 := Int.emod_nonneg _ (by omega)
  rw [Int.tmod_eq_emod_of_nonneg h0]
  have h1 : 0 ≤ x % 18446744073709551616 % 4611686018427387904 := Int.emod_nonneg _ (by omega)
  have h2 : x % 18446744073709551616 % 4611686018427387904 < 4611686018427387904 := Int.emod_lt_of_pos _ (by omega)
  refine ⟨_, rfl, ?_, ?_⟩ <;> unfold wrap64 <;> omega
set_option maxHeartbeats 8000000 in
set_option maxRecDepth 100000 in
theorem back_walk (number first cut : Int) (has : Bool) (sa : Option Addr) (sc : Nat) (S : List UInt8) (ra : Option Addr) (rc : Nat) (recs : List (List UInt8)) (w : World)
    (hS : Hb w (.slice sa S.length sc) S) (hR : LR w (.slice ra recs.length rc) recs) (hrc : recs.length ≤ rc) (ht : Tb w) :
    Calls Tryd.prog 6 #[.int .i64 number, .int .i64 first, .bool has, .slice sa S.length sc, .slice ra recs.length rc, .int .i64 cut] w fun e w' => e = .returned (.bool true) ∧ Below w.heap.size w w' := by
  obtain ⟨n1, hn1, hn10, hn1b⟩ := num_62 number
  obtain ⟨f1, hf1, hf10, hf1b⟩ := num_62 first
  obtain ⟨N, hN⟩ : ∃ N, 1 + n1 = N := ⟨_, rfl⟩
  have HNF : Hid (1 ≤ N ∧ N < 9223372036854775808 ∧ 0 ≤ f1 ∧ f1 < 9223372036854775808) := ⟨by omega, by omega, by omega, by omega⟩
  have HC : Hid (Calls Tryd.prog 8 #[.int .i64 N, .int .i64 f1] w (NB w (headL N f1))) := head_calls N f1 HNF.out.2.1 HNF.out.2.2.2 w ht
  have HT : Hid (∀ W, Below w.heap.size w W → Tb W) := fun W hW => ht.below hW
  have HS : Hid (Hb w (.slice sa S.length sc) S) := hS
  have HR : Hid (LR w (.slice ra recs.length rc) recs) := hR
  have HRC : Hid (recs.length ≤ rc) := hrc
  obtain ⟨hd, hhd⟩ : ∃ hd, hd = headL N f1 := ⟨_, rfl⟩
  obtain ⟨H, hH⟩ : ∃ H, H = hd.length := ⟨_, rfl⟩
  have HHd : Hid (hd = headL N f1 ∧ H = hd.length ∧ 9 ≤ H ∧ H ≤ 100) := by
    refine ⟨hhd, hH, ?_⟩
    have hp := headP_length N f1 HNF.out.2.1 HNF.out.2.2.2
    have : hd.length = 9 + (headP N f1).length := by rw [hhd]; exact sealL_length _ _
    omega
  rw [← hhd] at HC
  clear hS hR hrc ht hhd hH
  go_enter Tryd.func6, Tryd.ntmps6
  go_wp2_with fail
  refine HC.out.mono ?_
  rintro e w1 ⟨v1, rfl, ho1, hb1⟩
  obtain ⟨p1, c1, hv1⟩ : ∃ p1 c1, v1 = .slice p1 H c1 := by obtain ⟨a, c, h, _⟩ := ho1.hb; exact ⟨a, c, by rw [h, HHd.out.2.1]⟩
  subst hv1
  have B1 : Hid (Below w.heap.size w w1) := hb1
  have BC : Hid (Calls Tryd.prog 23 #[.slice p1 H c1] w1 (NB w1 hd)) := bclone_calls _ _ hd w1 ho1 (fun e => by have := HHd.out; rw [e] at this; simp at this; omega) (by have := HHd.out; omega)
  clear ho1 hb1 hn1 hn10 hn1b hf10 hf1b hN HC
  go_wp2_with fail
  refine BC.out.mono ?_
  rintro e w2 ⟨v2, rfl, ho2, hb2⟩
  have b2 : Below w.heap.size w w2 := B1.out.trans (hb2.mono B1.out.size)
  have b3 : Below w2.heap.size w2 (w2.alloc (Obj.cells #[Value.int IntKind.i64 (H : Int)] 3)) := below_alloc w2 _
  obtain ⟨W4, hW4⟩ : ∃ W4, W4 = (w2.alloc (Obj.cells #[Value.int IntKind.i64 (H : Int)] 3)).alloc (Obj.cells #[Value.int IntKind.i64 N, Value.int IntKind.i64 f1, Value.bool false, Value.slice none 0 0, Value.slice none 0 0, Value.int IntKind.i64 0, Value.bool false] 30) := ⟨_, rfl⟩
  have b4 : Below w2.heap.size w2 W4 := by rw [hW4]; exact below_step b3 (below_alloc _ _)
  have O4 : Hid (Own w.heap.size W4 v2 hd) := (ho2.below b4).lower B1.out.size
  have Z4 : Hid (Zs w.heap.size W4 (.slice (some ⟨w2.heap.size, 0, none⟩) 1 1) [(H : Int)]) := by
    rw [hW4]
    exact Zs.below (⟨by simp, .inr ⟨w2.heap.size, 1, _, rfl, b2.size, heap_last w2 _, Nat.le_refl _, by unfold maxLen; omega, rfl, rfl⟩⟩) (below_alloc _ _)
  obtain ⟨g, hg⟩ : ∃ g, g = w2.heap.size + 1 := ⟨_, rfl⟩
  have s4 : SegAt W4 g (.int .i64 N) (.int .i64 f1) (.bool false) (.slice none 0 0) (.slice none 0 0) (.int .i64 0) (.bool false) := by
    rw [hW4, hg]
    have := heap_last (w2.alloc (Obj.cells #[Value.int IntKind.i64 (H : Int)] 3)) (Obj.cells #[Value.int IntKind.i64 N, Value.int IntKind.i64 f1, Value.bool false, Value.slice none 0 0, Value.slice none 0 0, Value.int IntKind.i64 0, Value.bool false] 30)
    have e : (w2.alloc (Obj.cells #[Value.int IntKind.i64 (H : Int)] 3)).heap.size = w2.heap.size + 1 := by simp
    rwa [e] at this
  have S4 : Hid (SegAt W4 g (.int .i64 N) (.int .i64 f1) (.bool false) (.slice none 0 0) (.slice none 0 0) (.int .i64 0) (.bool false)) := s4
  have BB4 : Hid (Below w.heap.size w W4) := b2.trans (b4.mono b2.size)
  have HG0 : Hid (w.heap.size ≤ g) := by show _ ≤ _; have := b2.size; omega
  have HW4 : Hid (W4 = _) := hW4
  have HG : Hid (g = w2.heap.size + 1) := hg
  obtain ⟨a2, m2, c2, rfl⟩ := ho2.hb.shape
  obtain ⟨sn, hsn⟩ : ∃ sn : Option (List UInt8), sn = if has then some (S.take 500) else none := ⟨_, rfl⟩
  have HSN : Hid (sn = if has then some (S.take 500) else none) := hsn
  clear ho2 hb2 b2 b3 b4 s4 hW4 hg hsn BC
  go_upto_if 44 with fail

  clear hf1
  rw [← HW4.out, ← HG.out]
  go_cut [14, 15] (fun t14 t15 wc => Hid (Own w.heap.size wc t14 (hd ++ bodyL sn [])) ∧ Hid (Zs w.heap.size wc t15 (marksL H (itemsL sn []))) ∧ Hid (∃ xa xn xc, SegAt wc g (.int .i64 N) (.int .i64 f1) (.bool has) (.slice xa xn xc) (.slice none 0 0) (.int .i64 0) (.bool false) ∧ Hb w (.slice xa xn xc) (sn.getD [])) ∧ Hid (Below w.heap.size w wc))
  case first =>
    cases has with
    | false =>
      have e0 : sn = none := by have := HSN.out; simpa using this
      go_wp2_with fail
      go_meet
      case rel =>
        rw [e0]
        refine ⟨?_, Z4, ⟨none, 0, 0, S4.out, Hb.nil w⟩, BB4⟩
        show Own _ _ _ _
        rw [show hd ++ bodyL none [] = hd from List.append_nil hd]
        exact O4.out
    | true =>
      have e0 : sn = some (S.take 500) := by have := HSN.out; simpa using this
      obtain ⟨q, hq⟩ : ∃ q, q = min S.length 500 := ⟨_, rfl⟩
      have hqm : min (S.length : Int) 500 = (q : Int) := by omega
      have hsc : S.length ≤ sc := (Hb.take HS.out S.length (Nat.le_refl _)).2.1
      have s22 := cut_h22 sa S.length sc q (by omega)
      have HX : Hid (Hb w (.slice sa q sc) (S.take 500)) := by
        have := (Hb.take HS.out q (by omega)).2.2
        rwa [take_min hq] at this
      have k2 := S4.out.cell 2
      have k3 := S4.out.cell 3
      simp only [List.getElem?_toArray, List.getElem?_cons_succ, List.getElem?_cons_zero] at k2 k3
      have y2 := S4.out.free 2
      have y3 := S4.out.free 3
      have hq5 : (S.take 500).length = q ∧ q ≤ 500 := by rw [List.length_take, hq]; omega
      have HQ5 : Hid ((S.take 500).length = q ∧ q ≤ 500) := hq5
      have HE0 : Hid (sn = some (S.take 500)) := e0
      clear hsc hq hq5 e0
      go_wp2_with fail
      go_region
      have s5 : SegAt (W4.setCell ⟨g, 2, none⟩ (.bool true)) g (.int .i64 N) (.int .i64 f1) (.bool true) (.slice none 0 0) (.slice none 0 0) (.int .i64 0) (.bool false) := S4.out.set 2 _
      have s6 : SegAt ((W4.setCell ⟨g, 2, none⟩ (.bool true)).setCell ⟨g, 3, none⟩ (.slice sa q sc)) g (.int .i64 N) (.int .i64 f1) (.bool true) (.slice sa q sc) (.slice none 0 0) (.int .i64 0) (.bool false) := s5.set 3 _
      have kk : KT (fun t => t ≠ 30) W4 ((W4.setCell ⟨g, 2, none⟩ (.bool true)).setCell ⟨g, 3, none⟩ (.slice sa q sc)).drew := (KT.set S4.out 2 _).trans (KT.set s5 3 _)
      have bw : Below w.heap.size w ((W4.setCell ⟨g, 2, none⟩ (.bool true)).setCell ⟨g, 3, none⟩ (.slice sa q sc)).drew := ((BB4.out.setCell (p := ⟨g, _, none⟩) HG0.out _).setCell (p := ⟨g, _, none⟩) HG0.out _).drew
      have s7 : SegAt ((W4.setCell ⟨g, 2, none⟩ (.bool true)).setCell ⟨g, 3, none⟩ (.slice sa q sc)).drew g (.int .i64 N) (.int .i64 f1) (.bool true) (.slice sa q sc) (.slice none 0 0) (.int .i64 0) (.bool false) := s6
      have o5 := O4.out.kt kk (by decide)
      have z5 := Z4.out.kt kk (by decide)
      generalize ((W4.setCell ⟨g, 2, none⟩ (.bool true)).setCell ⟨g, 3, none⟩ (.slice sa q sc)).drew = W5 at kk bw s7 o5 z5 ⊢
      have c3 : W5.cell? ⟨g, 3, none⟩ = some (.slice sa q sc) := by rw [s7.cell 3]; rfl
      have SC : Hid (Calls Tryd.prog 10 #[.slice sa q sc] W5 (NB W5 (sealL 2 (S.take 500)))) := by
        have := snap_calls (.slice sa q sc) (S.take 500) W5 (HX.out.below bw) (HT.out W5 bw) (by have := HQ5.out; omega)
        rwa [show sealR 2 (S.take 500) = sealL 2 (S.take 500) from if_pos (by have := HQ5.out; omega)] at this
      have S7 : Hid (SegAt W5 g (.int .i64 N) (.int .i64 f1) (.bool true) (.slice sa q sc) (.slice none 0 0) (.int .i64 0) (.bool false)) := s7
      have BW : Hid (Below w.heap.size w W5) := bw
      have O5 : Hid (Own w.heap.size W5 (.slice a2 m2 c2) hd) := o5
      have Z5 : Hid (Zs w.heap.size W5 (.slice (some ⟨w2.heap.size, 0, none⟩) 1 1) [(H : Int)]) := z5
      clear s5 s6 s7 kk bw o5 z5 k2 k3 y2 y3 s22 hqm
      go_wp2_with fail
      refine SC.out.mono ?_
      rintro e w6 ⟨v6, rfl, ho6, hb6⟩
      have bw6 : Below w.heap.size w w6 := BW.out.trans (hb6.mono BW.out.size)
      obtain ⟨v7, w7, hr7, ho7, hb7, k7⟩ := app_run2 (O5.out.below hb6) ho6.holds bw6.size (by rw [sealL_length]; have := HHd.out; have := HQ5.out; omega)
      obtain ⟨a6, m6, c6, rfl⟩ := ho6.hb.shape
      obtain ⟨L7, hL7⟩ : ∃ L, L = H + (9 + q) := ⟨_, rfl⟩
      obtain ⟨p7, c7, hv7⟩ : ∃ p c, v7 = .slice p L7 c := by obtain ⟨a, c, h, _⟩ := ho7.hb; exact ⟨a, c, by rw [h, List.length_append, sealL_length, HQ5.out.1, ← HHd.out.2.1, hL7]⟩
      subst hv7
      have bw7 : Below w.heap.size w w7 := bw6.trans hb7
      have z7 := (Z5.out.below hb6).kt k7 (by decide)
      have s7 := (S7.out.below hb6).kt k7 (by decide)
      obtain ⟨v8, w8, hr8, z8, k8, b8⟩ := iapp_run (src := w7.heap.size) (y := (L7 : Int)) (W := w7.alloc (Obj.cells #[Value.int IntKind.i64 (L7 : Int)] 3)) (z7.below (below_alloc w7 _)) (cell_of_row _ _ 0 _ 3 (0, 0) (heap_last w7 _)) (Nat.le_trans bw7.size (below_alloc w7 _).size) (by simp)
      have kx : KT (fun t => t ≠ 3) w7 w8 := (KT.below (below_alloc w7 _)).trans k8
      have O8 : Hid (Own w.heap.size w8 (.slice p7 L7 c7) (hd ++ bodyL sn [])) := by
        show Own _ _ _ _
        rw [HE0.out]
        simp only [bodyL, flat3, List.append_nil]
        exact ho7.kt kx (by decide)
      have Z8 : Hid (Zs w.heap.size w8 v8 (marksL H (itemsL sn []))) := by
        show Zs _ _ _ _
        rw [HE0.out]
        have e : marksL H (itemsL (some (S.take 500)) []) = [(H : Int)] ++ [(L7 : Int)] := by
          simp only [itemsL, marksL, hL7, HQ5.out.1]
          rfl
        rw [e]
        exact z8
      have S8 : Hid (SegAt w8 g (.int .i64 N) (.int .i64 f1) (.bool true) (.slice sa q sc) (.slice none 0 0) (.int .i64 0) (.bool false)) := s7.kt kx (by decide)
      have B8 : Hid (Below w.heap.size w w8) := (bw7.alloc bw7.size _).trans b8
      have HX8 : Hid (Hb w (.slice sa q sc) (sn.getD [])) := by show Hb _ _ _; rw [HE0.out]; exact HX.out
      clear ho6 hb6 bw6 ho7 hb7 k7 bw7 z7 s7 z8 k8 b8 kx hL7
      go_wp2_with (at_builtin; first | refine Lib.wpList_append_run _ rfl _ _ 22 22 rfl _ _ rfl rfl _ _ (hr7 _) ?_ | refine Lib.wpList_append_run _ rfl _ _ 37 37 rfl _ _ rfl rfl _ _ (hr8 _) ?_)
      go_meet
      case rel => exact ⟨O8, Z8, ⟨_, _, _, S8.out, HX8.out⟩, B8⟩
  case rest =>
    obtain ⟨HO0, HZ0, HS0, HB0⟩ := hcut
    obtain ⟨xa, xn, xc, hs0, hx0⟩ := HS0.out
    have S0 : Hid (SegAt wc g (.int .i64 N) (.int .i64 f1) (.bool has) (.slice xa xn xc) (.slice none 0 0) (.int .i64 0) (.bool false)) := hs0
    have X0 : Hid (Hb w (.slice xa xn xc) (sn.getD [])) := hx0
    obtain ⟨m, hm⟩ : ∃ m, m = min recs.length 12 := ⟨_, rfl⟩
    have hmm : min (recs.length : Int) 12 = (m : Int) := by omega
    have s28 := cut_h28 ra recs.length rc m (by have := HRC.out; omega)
    obtain ⟨rs, hrs⟩ : ∃ rs, rs = (recs.take m).map (·.take 500) := ⟨_, rfl⟩
    have HRS : Hid (rs.length = m ∧ m ≤ 12 ∧ ∀ p ∈ rs, p.length ≤ 500) := by
      refine ⟨by rw [hrs]; simp; omega, by omega, fun p hp => ?_⟩
      rw [hrs] at hp
      obtain ⟨q, _, rfl⟩ := List.mem_map.1 hp
      simp
      omega
    have HRX : Hid (∀ j, j < m → ∃ p B o x, rs[j]? = some (p.take 500) ∧ ra = some ⟨B, o, none⟩ ∧ w.cell? ⟨B, o + j, none⟩ = some x ∧ Hb w x p) := by
      intro j hj
      have hlt : j < recs.length := by omega
      obtain ⟨a', c', e, hh⟩ := HR.out
      cases e
      obtain ⟨B, o, x, h1, h2, h3⟩ := hh j _ (List.getElem?_eq_getElem hlt)
      refine ⟨_, B, o, x, ?_, h1, h2, h3⟩
      rw [hrs, List.getElem?_map, List.getElem?_take_of_lt hj, List.getElem?_eq_getElem hlt]
      rfl
    have HSNl : Hid (rwide (itemsL sn []) ≤ 509) := by
      show _ ≤ _
      rw [HSN.out]
      cases has
      · simp [itemsL, rwide]
      · simp [itemsL, rwide]
        omega
    have hm12 : (m : Int) ≤ 12 := by omega
    clear hs0 hx0 hm hrs HS0
    go_wp2_with fail
    go_loopw [14, 15, 68] (fun t14 t15 i wr => ∃ j : Nat, j ≤ m ∧ i = .int .i64 (j : Int) ∧ Hid (Own w.heap.size wr t14 (hd ++ bodyL sn (rs.take j))) ∧ Hid (Zs w.heap.size wr t15 (marksL H (itemsL sn (rs.take j)))) ∧ Hid (∃ Rv, SegAt wr g (.int .i64 N) (.int .i64 f1) (.bool has) (.slice xa xn xc) Rv (.int .i64 0) (.bool false) ∧ Ts w.heap.size w wr Rv (rs.take j)) ∧ Hid (Below w.heap.size w wr)) (fun _ _ i _ => m - (intOf i).toNat)
    case atStart => exact ⟨0, Nat.zero_le _, rfl, HO0, HZ0, ⟨_, S0.out, Ts.nil _ _ _⟩, HB0⟩
    case round =>
      obtain ⟨j, hj, rfl, HO, HZ, HSR, HB⟩ := hrel
      obtain ⟨Rv, hsr, hts⟩ := HSR.out
      obtain ⟨Ra, Rc, hRv, hRc⟩ := hts.shape
      obtain ⟨Rn, hRn⟩ : ∃ Rn, Rn = (rs.take j).length := ⟨_, rfl⟩
      rw [← hRn] at hRv hRc
      subst hRv
      have SR : Hid (SegAt wr g (.int .i64 N) (.int .i64 f1) (.bool has) (.slice xa xn xc) (.slice Ra Rn Rc) (.int .i64 0) (.bool false)) := hsr
      have TS : Hid (Ts w.heap.size w wr (.slice Ra Rn Rc) (rs.take j)) := hts
      have HRn : Hid (Rn = (rs.take j).length ∧ Rn ≤ Rc) := ⟨hRn, hRc⟩
      clear hsr hts hRn hRc HSR
      obtain ⟨La, Lc, hu14⟩ : ∃ a c, u14 = .slice a (hd ++ bodyL sn (rs.take j)).length c := by obtain ⟨a, c, h, _⟩ := HO.out.hb; exact ⟨a, c, h⟩
      obtain ⟨LL, hLL⟩ : ∃ LL, LL = (hd ++ bodyL sn (rs.take j)).length := ⟨_, rfl⟩
      rw [← hLL] at hu14
      subst hu14
      have HLL : Hid (LL = H + rwide (itemsL sn (rs.take j)) ∧ LL ≤ 10000) := by
        have e : LL = H + rwide (itemsL sn (rs.take j)) := by rw [hLL, List.length_append, bodyL_length, ← HHd.out.2.1]
        refine ⟨e, ?_⟩
        have a1 := items_wide sn (rs.take j) (fun p hp => HRS.out.2.2 p (List.mem_of_mem_take hp))
        have a2 : (rs.take j).length ≤ 12 := by have := HRS.out; simp; omega
        have a3 := HSNl.out
        have a4 := HHd.out
        omega
      clear hLL
      by_cases hlt : j < m
      · obtain ⟨p, B, o, x, hp, ha, hc, hx⟩ := HRX.out j hlt
        subst ha
        obtain ⟨ya, yc, rfl, hyc, hyh⟩ := hx
        obtain ⟨q, hq⟩ : ∃ q, q = min p.length 500 := ⟨_, rfl⟩
        have hqm : min (p.length : Int) 500 = (q : Int) := by omega
        have s22 := cut_h22 ya p.length yc q (by omega)
        have HX : Hid (Hb w (.slice ya q yc) (p.take 500)) := by
          have := (Hb.take (a := ya) (n := p.length) (c := yc) (l := p) ⟨_, _, rfl, hyc, hyh⟩ q (by omega)).2.2
          rwa [take_min hq] at this
        have HQ5 : Hid ((p.take 500).length = q ∧ q ≤ 500) := by refine ⟨?_, by omega⟩; rw [List.length_take, hq, Nat.min_comm]
        have e0 := cell_below hc HB.out
        have hjl : (j : Int) < (m : Int) := by omega
        have HP : Hid (rs[j]? = some (p.take 500)) := hp
        have k4 : wr.cell? ⟨g, 4, none⟩ = some (.slice Ra Rn Rc) := by rw [SR.out.cell 4]; rfl
        obtain ⟨v3, w3, hr3, t3, k3, b3⟩ := tapp_run (src := wr.heap.size) (x := .slice ya q yc) (p := p.take 500) (W := wr.alloc (Obj.cells #[.slice ya q yc] 22)) (TS.out.kt (S := fun _ => True) (KT.below (below_alloc wr _)) trivial) (cell_of_row _ _ 0 _ 22 (0, 0) (heap_last wr _)) HX.out (Nat.le_trans HB.out.size (below_alloc wr _).size) (by have := HRS.out; simp; omega)
        have kx3 : KT (fun t => t ≠ 22) wr w3 := (KT.below (below_alloc wr _)).trans k3
        have bw3 : Below w.heap.size w w3 := (HB.out.alloc HB.out.size _).trans b3
        have s3 := SR.out.kt kx3 (by decide)
        obtain ⟨Ra3, Rc3, hv3, _⟩ := t3.shape
        obtain ⟨Rn3, hRn3⟩ : ∃ Rn, Rn = (rs.take j ++ [p.take 500]).length := ⟨_, rfl⟩
        rw [← hRn3] at hv3
        subst hv3
        have k4' : w3.cell? ⟨g, 4, none⟩ = some (.slice Ra Rn Rc) := by rw [s3.cell 4]; rfl
        have y4 := s3.free 4
        have s4 : SegAt (w3.setCell ⟨g, 4, none⟩ (.slice Ra3 Rn3 Rc3)) g (.int .i64 N) (.int .i64 f1) (.bool has) (.slice xa xn xc) (.slice Ra3 Rn3 Rc3) (.int .i64 0) (.bool false) := s3.set 4 _
        obtain ⟨W5, hW5⟩ : ∃ W5, W5 = w3.setCell ⟨g, 4, none⟩ (.slice Ra3 Rn3 Rc3) := ⟨_, rfl⟩
        rw [← hW5] at s4
        have kx5 : KT (fun t => t ≠ 30) w3 W5 := by rw [hW5]; exact KT.set s3 4 _
        have bw5 : Below w.heap.size w W5 := by rw [hW5]; exact bw3.setCell (p := ⟨g, _, none⟩) HG0.out _
        have T5 : Hid (Ts w.heap.size w W5 (.slice Ra3 Rn3 Rc3) (rs.take j ++ [p.take 500])) := t3.kt kx5 (by decide)
        have O5 : Hid (Own w.heap.size W5 (.slice La LL Lc) (hd ++ bodyL sn (rs.take j))) := (HO.out.kt kx3 (by decide)).kt kx5 (by decide)
        have Z5 : Hid (Zs w.heap.size W5 u15 (marksL H (itemsL sn (rs.take j)))) := (HZ.out.kt kx3 (by decide)).kt kx5 (by decide)
        have S5 : Hid (SegAt W5 g (.int .i64 N) (.int .i64 f1) (.bool has) (.slice xa xn xc) (.slice Ra3 Rn3 Rc3) (.int .i64 0) (.bool false)) := s4
        have B5 : Hid (Below w.heap.size w W5) := bw5
        have RC : Hid (Calls Tryd.prog 12 #[.slice ya q yc] W5 (NB W5 (sealL 3 (p.take 500)))) := by
          have := record_calls (.slice ya q yc) (p.take 500) W5 (HX.out.below bw5) (HT.out W5 bw5) (by have := HQ5.out; omega)
          rwa [show sealR 3 (p.take 500) = sealL 3 (p.take 500) from if_pos (by have := HQ5.out; omega)] at this
        have HW5 : Hid (W5 = w3.setCell ⟨g, 4, none⟩ (.slice Ra3 Rn3 Rc3)) := hW5
        obtain ⟨za, zn, zc, rfl⟩ : ∃ a n c, u15 = .slice a n c := by obtain ⟨a, c, h⟩ := HZ.out.shape; exact ⟨_, _, _, h⟩
        clear hc hyc hyh hq hp t3 k3 b3 kx3 bw3 s3 hRn3 s4 hW5 kx5 bw5
        go_wp2_with (at_builtin; refine Lib.wpList_append_run _ rfl _ _ 28 28 rfl _ _ rfl rfl _ _ (hr3 _) ?_)
        rw [← HW5.out]
        refine RC.out.mono ?_
        rintro e w6 ⟨v6, rfl, ho6, hb6⟩
        have bw6 : Below w.heap.size w w6 := B5.out.trans (hb6.mono B5.out.size)
        obtain ⟨v7, w7, hr7, ho7, hb7, k7⟩ := app_run2 (O5.out.below hb6) ho6.holds bw6.size (by rw [sealL_length, List.length_append, bodyL_length]; have := HLL.out; have := HQ5.out; have := HHd.out; omega)
        obtain ⟨a6, m6, c6, rfl⟩ := ho6.hb.shape
        obtain ⟨L7, hL7⟩ : ∃ L, L = LL + (9 + q) := ⟨_, rfl⟩
        obtain ⟨p7, c7, hv7⟩ : ∃ p c, v7 = .slice p L7 c := by
          obtain ⟨a, c, h, _⟩ := ho7.hb
          refine ⟨a, c, ?_⟩
          rw [h, List.length_append, List.length_append, bodyL_length, sealL_length, HQ5.out.1, ← HHd.out.2.1, hL7, HLL.out.1]
        subst hv7
        have bw7 : Below w.heap.size w w7 := bw6.trans hb7
        have z7 := (Z5.out.below hb6).kt k7 (by decide)
        have s7 := (S5.out.below hb6).kt k7 (by decide)
        have t7 := (T5.out.kt (S := fun _ => True) (KT.below hb6) trivial).kt k7 (by decide)
        obtain ⟨v8, w8, hr8, z8, k8, b8⟩ := iapp_run (src := w7.heap.size) (y := (L7 : Int)) (W := w7.alloc (Obj.cells #[Value.int IntKind.i64 (L7 : Int)] 3)) (z7.below (below_alloc w7 _)) (cell_of_row _ _ 0 _ 3 (0, 0) (heap_last w7 _)) (Nat.le_trans bw7.size (below_alloc w7 _).size) (by rw [marksL_length]; have := items_len sn (rs.take j); have := HRS.out; simp at *; omega)
        have kx : KT (fun t => t ≠ 3) w7 w8 := (KT.below (below_alloc w7 _)).trans k8
        have hsn1 : rs.take (j + 1) = rs.take j ++ [p.take 500] := by rw [List.take_add_one, HP.out]; rfl
        have O8 : Hid (Own w.heap.size w8 (.slice p7 L7 c7) (hd ++ bodyL sn (rs.take (j + 1)))) := by
          show Own _ _ _ _
          rw [hsn1, bodyL_snoc, ← List.append_assoc]
          exact ho7.kt kx (by decide)
        have Z8 : Hid (Zs w.heap.size w8 v8 (marksL H (itemsL sn (rs.take (j + 1))))) := by
          show Zs _ _ _ _
          rw [hsn1, itemsL_snoc, marksL_snoc, rwide_append]
          have e : H + (rwide (itemsL sn (rs.take j)) + rwide [p.take 500]) = L7 := by simp only [rwide, HQ5.out.1, hL7, HLL.out.1]; omega
          rw [e]
          exact z8
        have S8 : Hid (SegAt w8 g (.int .i64 N) (.int .i64 f1) (.bool has) (.slice xa xn xc) (.slice Ra3 Rn3 Rc3) (.int .i64 0) (.bool false)) := s7.kt kx (by decide)
        have T8 : Hid (Ts w.heap.size w w8 (.slice Ra3 Rn3 Rc3) (rs.take (j + 1))) := by show Ts _ _ _ _ _; rw [hsn1]; exact t7.kt kx (by decide)
        have B8 : Hid (Below w.heap.size w w8) := (bw7.alloc bw7.size _).trans b8
        clear ho6 hb6 bw6 ho7 hb7 k7 bw7 z7 s7 t7 z8 k8 b8 kx hL7 hsn1
        go_wp2_with (at_builtin; first | refine Lib.wpList_append_run _ rfl _ _ 22 22 rfl _ _ rfl rfl _ _ (hr7 _) ?_ | refine Lib.wpList_append_run _ rfl _ _ 37 37 rfl _ _ rfl rfl _ _ (hr8 _) ?_)
        refine ⟨⟨j + 1, hlt, by rw [Int.natCast_add]; rfl, O8, Z8, ⟨_, S8.out, T8.out⟩, B8⟩, ?_⟩
        simp only [intOf]
        omega
      · obtain rfl : j = m := by omega
        have hall : rs.take j = rs := by rw [← HRS.out.1, List.take_length]
        rw [hall] at HO HZ TS HLL HRn
        clear hall hmm s28 HRX
        obtain ⟨K, hK⟩ : ∃ K, K = rwide (itemsL sn rs) := ⟨_, rfl⟩
        have HK : Hid (K = rwide (itemsL sn rs) ∧ LL = H + K ∧ K ≤ 10000 ∧ H ≤ 100) := ⟨hK, by rw [hK]; exact HLL.out.1, by have := HLL.out; omega, HHd.out.2.2.2⟩
        obtain ⟨all, hall⟩ : ∃ all, all = hd ++ bodyL sn rs := ⟨_, rfl⟩
        rw [← hall] at HO
        have HAL : Hid (all = headL N f1 ++ bodyL sn rs ∧ all.length = LL) := by refine ⟨by rw [hall, HHd.out.1], ?_⟩; rw [hall, List.length_append, bodyL_length, ← HHd.out.2.1, HLL.out.1]
        have HSL : Hid (∀ s, sn = some s → s.length ≤ 1048576) := by
          intro s hs
          rw [HSN.out] at hs
          cases has
          · simp at hs
          · simp at hs
            rw [← hs]
            simp
            omega
        have HRL : Hid (∀ p ∈ rs, p.length ≤ 1048576) := fun p hp => by have := HRS.out.2.2 p hp; omega
        have k5 : wr.cell? ⟨g, 5, none⟩ = some (.int .i64 0) := by rw [SR.out.cell 5]; rfl
        have y5 := SR.out.free 5
        have s1 : SegAt (wr.setCell ⟨g, 5, none⟩ (.int .i64 (LL : Int))) g (.int .i64 N) (.int .i64 f1) (.bool has) (.slice xa xn xc) (.slice Ra Rn Rc) (.int .i64 (LL : Int)) (.bool false) := SR.out.set 5 _
        obtain ⟨W1, hW1⟩ : ∃ W1, W1 = wr.setCell ⟨g, 5, none⟩ (.int .i64 (LL : Int)) := ⟨_, rfl⟩
        rw [← hW1] at s1
        have kx1 : KT (fun t => t ≠ 30) wr W1 := by rw [hW1]; exact KT.set SR.out 5 _
        have bw1 : Below w.heap.size w W1 := by rw [hW1]; exact HB.out.setCell (p := ⟨g, _, none⟩) HG0.out _
        have O1 : Hid (Own w.heap.size W1 (.slice La LL Lc) all) := HO.out.kt kx1 (by decide)
        have Z1 : Hid (Zs w.heap.size W1 u15 (marksL H (itemsL sn rs))) := HZ.out.kt kx1 (by decide)
        have T1 : Hid (Ts w.heap.size w W1 (.slice Ra Rn Rc) rs) := TS.out.kt kx1 (by decide)
        have S1 : Hid (SegAt W1 g (.int .i64 N) (.int .i64 f1) (.bool has) (.slice xa xn xc) (.slice Ra Rn Rc) (.int .i64 (LL : Int)) (.bool false)) := s1
        have BW1 : Hid (Below w.heap.size w W1) := bw1
        have PC : Hid (Calls Tryd.prog 15 #[.slice La LL Lc] W1 (PX W1 all (some (N, f1, sn, rs, LL)))) := by
          have := parse_calls (.slice La LL Lc) all W1 O1.out.hb (HT.out W1 bw1) (by have := HAL.out.2; have := HK.out; omega)
          rw [HAL.out.1, back_all HNF.out.1 HNF.out.2.1 HNF.out.2.2.1 HNF.out.2.2.2 sn rs HSL.out HRL.out, ← HAL.out.1] at this
          have e : (headL N f1).length + rwide (itemsL sn rs) = LL := by rw [← HHd.out.1, ← HHd.out.2.1, HLL.out.1]
          rwa [e] at this
        have HW1 : Hid (W1 = wr.setCell ⟨g, 5, none⟩ (.int .i64 (LL : Int))) := hW1
        obtain ⟨za, zn, zc, rfl⟩ : ∃ a n c, u15 = .slice a n c := by obtain ⟨a, c, h⟩ := HZ.out.shape; exact ⟨_, _, _, h⟩
        clear hW1 s1 kx1 bw1 hall hK HO HZ TS
        go_wp2_with fail
        rw [← HW1.out]
        refine PC.out.mono ?_
        rintro e w2' ⟨hb2, x, R, rfl, ox, lR⟩
        obtain ⟨ya, yn, yc, rfl⟩ := ox.hb.shape
        obtain ⟨Qa, Qn, Qc, rfl⟩ := lR.shape
        have e1 : sn.isSome = has := by rw [HSN.out]; cases has <;> simp
        have e2 : decide (LL < all.length) = false := by rw [HAL.out.2]; simp
        rw [e1, e2]
        obtain ⟨W2, hW2⟩ : ∃ W2, W2 = w2'.alloc (Obj.cells #[.int .i64 N, .int .i64 f1, .bool has, .slice ya yn yc, .slice Qa Qn Qc, .int .i64 (LL : Int), .bool false] 30) := ⟨_, rfl⟩
        have b22 : Below w2'.heap.size w2' W2 := by rw [hW2]; exact below_alloc _ _
        have b12 : Below W1.heap.size W1 W2 := hb2.trans (b22.mono hb2.size)
        have q1 : SegAt W2 g (.int .i64 N) (.int .i64 f1) (.bool has) (.slice xa xn xc) (.slice Ra Rn Rc) (.int .i64 (LL : Int)) (.bool false) := S1.out.below b12
        have q2 : SegAt W2 w2'.heap.size (.int .i64 N) (.int .i64 f1) (.bool has) (.slice ya yn yc) (.slice Qa Qn Qc) (.int .i64 (LL : Int)) (.bool false) := by rw [hW2]; exact heap_last w2' _
        obtain ⟨g2, hg2⟩ : ∃ g2, g2 = w2'.heap.size := ⟨_, rfl⟩
        rw [← hg2] at q2
        have BW2 : Hid (Below w.heap.size w W2) := BW1.out.trans (b12.mono BW1.out.size)
        have T2 : Hid (Ts w.heap.size w W2 (.slice Ra Rn Rc) rs) := T1.out.kt (S := fun _ => True) (KT.below b12) trivial
        obtain ⟨ga, gc, hv, hgc, hlr⟩ := T2.out.lr BW2.out rs.length (Nat.le_refl _)
        simp only [Value.slice.injEq] at hv
        obtain ⟨rfl, hRn, rfl⟩ := hv
        rw [List.take_length, ← hRn] at hlr
        have SC : Hid (Calls Tryd.prog 17 #[.agg #[.int .i64 N, .int .i64 f1, .bool has, .slice ya yn yc, .slice Qa Qn Qc, .int .i64 (LL : Int), .bool false], .agg #[.int .i64 N, .int .i64 f1, .bool has, .slice xa xn xc, .slice Ra Rn Rc, .int .i64 (LL : Int), .bool false]] W2 fun e w' => e = .returned (.bool true) ∧ Below W2.heap.size W2 w') := ssame_calls _ _ _ _ _ _ _ _ _ (sn.getD []) rs W2 (ox.below b22).hb (X0.out.below BW2.out) ((lR.kt (S := fun _ => True) (KT.below b22) trivial trivial).lr) hlr (by have := HRS.out; omega)
        have O2 : Hid (Own w.heap.size W2 (.slice La LL Lc) all) := O1.out.below b12
        have Z2 : Hid (Zs w.heap.size W2 (.slice za zn zc) (marksL H (itemsL sn rs))) := Z1.out.below b12
        have HW2 : Hid (W2 = w2'.alloc (Obj.cells #[.int .i64 N, .int .i64 f1, .bool has, .slice ya yn yc, .slice Qa Qn Qc, .int .i64 (LL : Int), .bool false] 30)) := hW2
        have HG2 : Hid (g2 = w2'.heap.size) := hg2
        have Q1 : Hid (SegAt W2 g (.int .i64 N) (.int .i64 f1) (.bool has) (.slice xa xn xc) (.slice Ra Rn Rc) (.int .i64 (LL : Int)) (.bool false)) := q1
        have Q2 : Hid (SegAt W2 g2 (.int .i64 N) (.int .i64 f1) (.bool has) (.slice ya yn yc) (.slice Qa Qn Qc) (.int .i64 (LL : Int)) (.bool false)) := q2
        clear hW2 b22 b12 q1 q2 hg2 hgc hlr hRn ox lR hb2 e1 e2 k5 y5 PC HW1
        go_upto_region 19 with fail
        rw [← HW2.out, ← HG2.out]
        obtain ⟨t0, t1, t2, t3, t4, t5, t6, -⟩ := Q1.out.all7
        obtain ⟨r0, r1, r2, r3, r4, r5, r6, -⟩ := Q2.out.all7
        go_wp2_with fail
        refine SC.out.mono ?_
        rintro e w3 ⟨rfl, hb3⟩
        have bw3 : Below w.heap.size w w3 := BW2.out.trans (hb3.mono BW2.out.size)
        have hLK : (LL : Int) - (H : Int) = (K : Int) := by have := HK.out; omega
        obtain ⟨c, hc, hcK⟩ := cut_num cut K (by have := HK.out; omega)
        obtain ⟨ct, hct⟩ : ∃ ct : Nat, ct = H + c := ⟨_, rfl⟩
        have hHc : (H : Int) + (c : Int) = (ct : Int) := by omega
        have hctL : ct ≤ LL := by have := HK.out; omega
        have hLc : LL ≤ Lc := by obtain ⟨_, _, e, h, _⟩ := O2.out.hb; cases e; exact h
        have s22 := cut_h22 La LL Lc ct (by omega)
        have hKb : (K : Int) ≤ 10000 := by have := HK.out; omega
        have hHb : (H : Int) ≤ 100 := by have := HK.out; omega
        have hcb : (c : Int) ≤ 10000 := by omega
        obtain ⟨m', sn', hm', hmc, hmn, hsn', hpz⟩ := back_cut HNF.out.1 HNF.out.2.1 HNF.out.2.2.1 HNF.out.2.2.2 sn rs HSL.out HRL.out c (by rw [← HK.out.1]; exact hcK)
        obtain ⟨Z, hZ⟩ : ∃ Z, Z = H + rwide ((itemsL sn rs).take m') := ⟨_, rfl⟩
        obtain ⟨nn, hnn⟩ : ∃ nn, nn = if sn'.isSome then m' - 1 else m' := ⟨_, rfl⟩
        have hHd : (headL N f1).length = H := by rw [← HHd.out.1, ← HHd.out.2.1]
        have htk : all.take ct = headL N f1 ++ (bodyL sn rs).take c := by rw [HAL.out.1, hct, ← hHd, take_head]
        rw [hHd, ← hZ, ← hnn, ← htk] at hpz
        have hbt : Hb w3 (.slice La ct Lc) (all.take ct) := (Hb.take (O2.out.below hb3).hb ct hctL).2.2
        have htl : (all.take ct).length = ct := by rw [List.length_take, HAL.out.2]; omega
        obtain ⟨tb, htb⟩ : ∃ tb, tb = decide (Z < ct) := ⟨_, rfl⟩
        have PC2 : Hid (Calls Tryd.prog 15 #[.slice La ct Lc] w3 (PX w3 (all.take ct) (some (N, f1, sn', rs.take nn, Z)))) := by
          have := parse_calls (.slice La ct Lc) (all.take ct) w3 hbt (HT.out w3 bw3) (by rw [htl]; have := HK.out; omega)
          rwa [hpz] at this
        have HTL : Hid (decide (Z < (all.take ct).length) = tb) := by show _ = _; rw [htl, htb]
        have HCT : Hid (Z ≤ ct ∧ ct ≤ LL ∧ tb = decide (Z < ct)) := ⟨by omega, hctL, htb⟩
        have HM : Hid (m' ≤ (itemsL sn rs).length ∧ (m' < (itemsL sn rs).length → ct < H + rwide ((itemsL sn rs).take (m' + 1))) ∧ Z = H + rwide ((itemsL sn rs).take m') ∧ nn = (if sn'.isSome then m' - 1 else m') ∧ sn'.isSome = (sn.isSome && decide (0 < m'))) := ⟨hm', fun h => by have := hmn h; omega, hZ, hnn, hsn'⟩
        have BW3 : Hid (Below w.heap.size w w3) := bw3
        have B23 : Hid (Below W2.heap.size W2 w3) := hb3
        clear bw3 hb3 hm' hmc hmn hsn' hpz hZ hnn hHd htk hbt htl htb hct t0 t1 t2 t3 t4 t5 t6 r0 r1 r2 r3 r4 r5 r6 SC Q2 hctL hLc hcK
        go_wp2_with fail
        refine PC2.out.mono ?_
        rintro e w4 ⟨hb4, x2, R2, rfl, ox2, lR2⟩
        rw [HTL.out]
        obtain ⟨ya2, yn2, yc2, rfl⟩ := ox2.hb.shape
        obtain ⟨Ea, En, Ec, rfl⟩ := lR2.shape
        obtain ⟨hp, hhp⟩ : ∃ hp, hp = sn'.isSome := ⟨_, rfl⟩
        rw [← hhp]
        obtain ⟨W4, hW4⟩ : ∃ W4, W4 = w4.alloc (Obj.cells #[.int .i64 N, .int .i64 f1, .bool hp, .slice ya2 yn2 yc2, .slice Ea En Ec, .int .i64 (Z : Int), .bool tb] 30) := ⟨_, rfl⟩
        have b44 : Below w4.heap.size w4 W4 := by rw [hW4]; exact below_alloc _ _
        have b34 : Below w3.heap.size w3 W4 := hb4.trans (b44.mono hb4.size)
        have b24 : Below W2.heap.size W2 W4 := below_step B23.out b34
        have q3 : SegAt W4 w4.heap.size (.int .i64 N) (.int .i64 f1) (.bool hp) (.slice ya2 yn2 yc2) (.slice Ea En Ec) (.int .i64 (Z : Int)) (.bool tb) := by rw [hW4]; exact heap_last w4 _
        obtain ⟨g3, hg3⟩ : ∃ g3, g3 = w4.heap.size := ⟨_, rfl⟩
        rw [← hg3] at q3
        have BW4 : Hid (Below w.heap.size w W4) := BW3.out.trans (b34.mono BW3.out.size)
        have Z4' := Z2.out.below b24
        have hzn : zn = (itemsL sn rs).length + 1 := by
          obtain ⟨pa, pc, h⟩ := Z4'.shape
          simp only [Value.slice.injEq] at h
          rw [marksL_length] at h
          exact h.2.1
        have HZN : Hid (zn = (itemsL sn rs).length + 1 ∧ zn ≤ 100) := ⟨hzn, by have := items_len sn rs; have := HRS.out; omega⟩
        have IR : Hid (Ir W4 (.slice za zn zc) (marksL H (itemsL sn rs))) := Z4'.ir
        have IRF : Hid (∀ (i : Nat) z, (marksL H (itemsL sn rs))[i]? = some z → ∃ B o, za = some ⟨B, o, none⟩ ∧ W4.cell? ⟨B, o + i, none⟩ = some (.int .i64 z)) := by
          intro i z hz
          obtain ⟨a', c', e, h⟩ := IR.out
          cases e
          exact h i z hz
        have IX : Hid (Calls Tryd.prog 24 #[.slice za zn zc, .int .i64 (Z : Int)] W4 fun e w' => e = .returned (.int .i64 (m' : Int)) ∧ w' = W4) := by
          refine index_calls _ (marksL H (itemsL sn rs)) (Z : Int) m' W4 IR.out ?_ ?_ (by rw [marksL_length]; have := HZN.out; omega)
          · rw [marksL_at _ _ _ HM.out.1, HM.out.2.2.1]
          · intro i hi
            rw [marksL_at _ _ _ (by have := HM.out.1; omega), HM.out.2.2.1]
            have := rwide_take_lt (itemsL sn rs) i m' hi HM.out.1
            intro e
            injection e with e
            omega
        have T4 : Hid (Ts w.heap.size w W4 (.slice Ra Rn Rc) rs) := T2.out.kt (S := fun _ => True) (KT.below b24) trivial
        have L4 : Hid (LR W4 (.slice Ea En Ec) (rs.take nn)) := (lR2.kt (S := fun _ => True) (KT.below b44) trivial trivial).lr
        have q4 : SegAt W4 g (.int .i64 N) (.int .i64 f1) (.bool has) (.slice xa xn xc) (.slice Ra Rn Rc) (.int .i64 (LL : Int)) (.bool false) := Q1.out.below b24
        have Q3 : Hid (SegAt W4 g3 (.int .i64 N) (.int .i64 f1) (.bool hp) (.slice ya2 yn2 yc2) (.slice Ea En Ec) (.int .i64 (Z : Int)) (.bool tb)) := q3
        have Q4 : Hid (SegAt W4 g (.int .i64 N) (.int .i64 f1) (.bool has) (.slice xa xn xc) (.slice Ra Rn Rc) (.int .i64 (LL : Int)) (.bool false)) := q4
        have HW4' : Hid (W4 = w4.alloc (Obj.cells #[.int .i64 N, .int .i64 f1, .bool hp, .slice ya2 yn2 yc2, .slice Ea En Ec, .int .i64 (Z : Int), .bool tb] 30)) := hW4
        have HG3 : Hid (g3 = w4.heap.size) := hg3
        have HHP : Hid (hp = (has && decide (0 < m')) ∧ nn = (if hp then m' - 1 else m')) := by
          have e1 : sn.isSome = has := by rw [HSN.out]; cases has <;> simp
          refine ⟨by rw [hhp, HM.out.2.2.2.2, e1], ?_⟩
          rw [hhp]
          exact HM.out.2.2.2.1
        have hnR : nn ≤ rs.length := by
          have a := HM.out.1
          have b := HHP.out
          have e1 : sn.isSome = has := by rw [HSN.out]; cases has <;> simp
          rw [b.2]
          cases hs : sn with
          | none =>
            rw [hs] at a e1
            simp only [itemsL] at a
            split <;> omega
          | some s =>
            rw [hs] at a e1
            simp only [itemsL, List.length_cons] at a
            have h1 : has = true := e1.symm
            rw [h1] at b
            by_cases h0 : 0 < m'
            · rw [b.1]
              simp [h0]
              omega
            · have : m' = 0 := by omega
              subst this
              split <;> omega
        obtain ⟨ga, gc, hv, hgc, hlr⟩ := T4.out.lr BW4.out nn hnR
        simp only [Value.slice.injEq] at hv
        obtain ⟨rfl, hRn2, rfl⟩ := hv
        have s28 := cut_h28 Ra Rn Rc nn (by omega)
        have ET : Hid (∀ W, Below W4.heap.size W4 W → Calls Tryd.prog 25 #[.slice Ea En Ec, .slice Ra nn Rc] W fun e w' => e = .returned (.bool true) ∧ Below W.heap.size W w') := fun W hW => by
          refine (stexts_calls _ _ (rs.take nn) (rs.take nn) W (by have := HRS.out; simp; omega) (L4.out.below hW) (hlr.below hW)).mono ?_
          rintro e w' ⟨⟨r, rfl, hr⟩, rfl⟩
          exact ⟨by rw [hr.2 rfl], Below.refl _ _⟩
        have CE : Hid (∀ W, Below W4.heap.size W4 W → W.cell? ⟨g3, 6, none⟩ = some (.bool tb) ∧ W.cell? ⟨g3, 5, none⟩ = some (.int .i64 (Z : Int)) ∧ W.cell? ⟨g3, 2, none⟩ = some (.bool hp) ∧ W.cell? ⟨g3, 4, none⟩ = some (.slice Ea En Ec) ∧ W.cell? ⟨g, 4, none⟩ = some (.slice Ra Rn Rc)) := fun W hW => by
          obtain ⟨_, _, a2, _, a4, a5, a6, _⟩ := (Q3.out.below hW).all7
          obtain ⟨_, _, _, _, b4, _, _, _⟩ := (Q4.out.below hW).all7
          exact ⟨a6, a5, a2, a4, b4⟩
        have hZct : (Z : Int) ≤ (ct : Int) := by have := HCT.out; omega
        have dtb : decide ((Z : Int) < (ct : Int)) = tb := by rw [HCT.out.2.2]; simp
        have dtb2 : decide (Z < ct) = tb := HCT.out.2.2.symm
        have ctb : (ct : Int) ≤ 100000 := by have := HCT.out; have := HK.out; omega
        have mb : (m' : Int) ≤ 100 := by have := HM.out; have := HZN.out; omega
        have znb : (zn : Int) ≤ 100 := by have := HZN.out; omega
        have nnb : (nn : Int) ≤ 100 := by have := HRS.out; omega
        clear hW4 b44 b34 b24 q3 q4 hg3 hhp Z4' hzn hb4 ox2 lR2 hnR hlr hgc hRn2 hHc hc hLK s22 hKb hHb hcb PC2
        go_upto_region 23 with fail
        rw [← HW4'.out, ← HG3.out]
        obtain ⟨t6, t5, t2, t4, r4⟩ := CE.out W4 (Below.refl _ _)
        go_wp2_with fail
        refine IX.out.mono ?_
        rintro e w5 ⟨rfl, hw5⟩
        have hw6 := hw5.symm
        subst hw6
        clear hw5
        have dtt : (tb == tb) = true := by simp
        obtain ⟨m1, hm1⟩ : ∃ m1 : Nat, m1 = m' + 1 := ⟨_, rfl⟩
        have hm1i : (m' : Int) + 1 = (m1 : Int) := by omega
        go_upto_region 24 with fail
        go_cut [161] (fun b wc => b = .bool false ∧ wc = W4)
        case first =>
          by_cases hE : m1 < zn
          · obtain ⟨E, hEE⟩ : ∃ E, E = H + rwide ((itemsL sn rs).take m1) := ⟨_, rfl⟩
            obtain ⟨EB, EO, rfl, hEc⟩ := IRF.out m1 (E : Int) (by rw [marksL_at _ _ _ (by have := HZN.out; omega), hEE])
            have hcE : (ct : Int) < (E : Int) := by
              have h1 := HM.out.2.1 (by have := HZN.out; omega)
              rw [hm1] at hEE
              omega
            have dE : decide ((E : Int) ≤ (ct : Int)) = false := decide_eq_false (by omega)
            have dz : decide ((m1 : Int) < (zn : Int)) = true := decide_eq_true (by omega)
            have hmz : (m1 : Int) < (zn : Int) := by omega
            clear hEE hE hm1
            go_wp2_with fail
            go_meet
            case rel => exact ⟨by rw [show decide ((m' : Int) < 0) = false from decide_eq_false (by omega), show decide (ct < Z) = false from decide_eq_false (by omega), show decide (E ≤ ct) = false from decide_eq_false (by omega)]; rfl, rfl⟩
          · have dz : decide ((m1 : Int) < (zn : Int)) = false := decide_eq_false (by omega)
            have hzm : (zn : Int) ≤ (m1 : Int) := by omega
            clear hE hm1
            go_wp2_with fail
            go_meet
            case rel => exact ⟨by rw [show decide ((m' : Int) < 0) = false from decide_eq_false (by omega), show decide (ct < Z) = false from decide_eq_false (by omega)]; rfl, rfl⟩
        case rest =>
          obtain ⟨rfl, hwc⟩ := hcut
          subst hwc
          clear hm1 hm1i IRF IR IX
          cases has with
          | false =>
            have ehp : hp = false := by have := HHP.out.1; simpa using this
            have enn : nn = m' := by have := HHP.out.2; rw [ehp] at this; simpa using this
            subst ehp
            subst enn
            go_upto_region 29 with fail
            first | (go_region_held (fun w' => w'.cell? ⟨g3, 6, none⟩ = some (.bool tb) ∧ w'.cell? ⟨g3, 5, none⟩ = some (.int .i64 (Z : Int)) ∧ w'.cell? ⟨g3, 2, none⟩ = some (.bool false) ∧ w'.cell? ⟨g3, 4, none⟩ = some (.slice Ea En Ec) ∧ w'.cell? ⟨g, 4, none⟩ = some (.slice Ra Rn Rc)) (go_keep) (first | (go_at_call 25; refine (ET.out _ (Below.refl _ wc).drew).mono ?_; rintro e w7 ⟨rfl, hb7⟩; have T7 : Hid (Below wc.heap.size wc w7) := (Below.refl _ wc).drew.trans hb7; obtain ⟨y6, y5, y2, y4, z4⟩ := CE.out w7 T7.out; clear hb7) | (go_at_call 14; refine (awake_calls _ (HT.out _ (BW4.out.trans (T7.out.mono BW4.out.size)))).mono ?_; rintro e w8 ⟨rfl, hb8⟩; have T8 : Hid (Below wc.heap.size wc w8) := below_step T7.out hb8; obtain ⟨x6, x5, x2, x4, v4⟩ := CE.out w8 T8.out; clear hb8))) | fail
            all_goals go_wp2_with fail
            all_goals go_ret
            all_goals exact ⟨rfl, BW4.out.trans (T8.out.mono BW4.out.size)⟩
          | true =>
            by_cases h0 : 0 < m'
            · have ehp : hp = true := by have := HHP.out.1; rw [this]; simp [h0]
              have enn : nn = m' - 1 := by have := HHP.out.2; rw [ehp] at this; simpa using this
              have d0 : decide ((0 : Int) < (m' : Int)) = true := decide_eq_true (by omega)
              have hsub : (m' : Int) - 1 = (nn : Int) := by omega
              have hm0 : (0 : Int) < (m' : Int) := by omega
              subst ehp
              clear enn h0
              go_upto_region 29 with fail
              go_region_held3 (fun w' => w'.cell? ⟨g3, 6, none⟩ = some (.bool tb) ∧ w'.cell? ⟨g3, 5, none⟩ = some (.int .i64 (Z : Int)) ∧ w'.cell? ⟨g3, 2, none⟩ = some (.bool true) ∧ w'.cell? ⟨g3, 4, none⟩ = some (.slice Ea En Ec) ∧ w'.cell? ⟨g, 4, none⟩ = some (.slice Ra Rn Rc)) (go_keep) (first | (go_at_call 25; refine (ET.out _ (Below.refl _ wc).drew).mono ?_; rintro e w7 ⟨rfl, hb7⟩; have T7 : Hid (Below wc.heap.size wc w7) := (Below.refl _ wc).drew.trans hb7; obtain ⟨y6, y5, y2, y4, z4⟩ := CE.out w7 T7.out; clear hb7) | (go_at_call 14; refine (awake_calls _ (HT.out _ (BW4.out.trans (T7.out.mono BW4.out.size)))).mono ?_; rintro e w8 ⟨rfl, hb8⟩; have T8 : Hid (Below wc.heap.size wc w8) := below_step T7.out hb8; obtain ⟨x6, x5, x2, x4, v4⟩ := CE.out w8 T8.out; clear hb8))
              all_goals go_wp2_with fail
              all_goals go_ret
              all_goals exact ⟨rfl, BW4.out.trans (T8.out.mono BW4.out.size)⟩
            · have em : m' = 0 := by omega
              have ehp : hp = false := by have := HHP.out.1; rw [this, em]; simp
              have enn : nn = 0 := by have := HHP.out.2; rw [ehp, em] at this; simpa using this
              have d0 : decide ((0 : Int) < (m' : Int)) = false := decide_eq_false (by omega)
              have hm0 : (m' : Int) ≤ 0 := by omega
              have enm : nn = m' := by omega
              subst ehp
              clear em enn h0
              subst enm
              go_upto_region 29 with fail
              go_region_held3 (fun w' => w'.cell? ⟨g3, 6, none⟩ = some (.bool tb) ∧ w'.cell? ⟨g3, 5, none⟩ = some (.int .i64 (Z : Int)) ∧ w'.cell? ⟨g3, 2, none⟩ = some (.bool false) ∧ w'.cell? ⟨g3, 4, none⟩ = some (.slice Ea En Ec) ∧ w'.cell? ⟨g, 4, none⟩ = some (.slice Ra Rn Rc)) (go_keep) (first | (go_at_call 25; refine (ET.out _ (Below.refl _ wc).drew).mono ?_; rintro e w7 ⟨rfl, hb7⟩; have T7 : Hid (Below wc.heap.size wc w7) := (Below.refl _ wc).drew.trans hb7; obtain ⟨y6, y5, y2, y4, z4⟩ := CE.out w7 T7.out; clear hb7) | (go_at_call 14; refine (awake_calls _ (HT.out _ (BW4.out.trans (T7.out.mono BW4.out.size)))).mono ?_; rintro e w8 ⟨rfl, hb8⟩; have T8 : Hid (Below wc.heap.size wc w8) := below_step T7.out hb8; obtain ⟨x6, x5, x2, x4, v4⟩ := CE.out w8 T8.out; clear hb8))
              all_goals go_wp2_with fail
              all_goals go_ret
              all_goals exact ⟨rfl, BW4.out.trans (T8.out.mono BW4.out.size)⟩
end Go.Proofs.YthakbkkopneilaaDoor
