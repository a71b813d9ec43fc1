/- limits: Check at a request; awake. -/
import Derived.Test.YtddigndamimmpaaDoorCB
import Derived.Test.YtddigndamimmpaaDoorLD
import Derived.Test.YtddigndamimmpaaDoorLE
import Derived.Test.YtddigndamimmpaaDoorLF
import Derived.Test.YtddigndamimmpaaDoorLG
namespace Go.Proofs.YtddigndamimmpaaDoor
open Go.ChangeShapes Go.WideShapes Go.ChangeAt Go.RowKit
def fl8 (b0 b1 b2 b3 b4 b5 b6 b7 : Bool) : Int := flv (fun j => [b0, b1, b2, b3, b4, b5, b6, b7].getD j false) 8
theorem flv_8 (bb : Nat → Bool) : flv bb 8 = fl8 (bb 0) (bb 1) (bb 2) (bb 3) (bb 4) (bb 5) (bb 6) (bb 7) := rfl
set_option maxRecDepth 100000 in
theorem andNot_fin : ∀ x ∈ ([0, 175, 15, 77, 107, 3, 7, 35, 1, 33, 305, 53] : List Int), ∀ b0 b1 b2 b3 b4 b5 b6 b7 : Bool, (bits BinOp.andNot IntKind.i64 (fl8 b0 b1 b2 b3 b4 b5 b6 b7) x == 0) = ((!b0 || x.toNat.testBit 1) && (!b1 || x.toNat.testBit 2) && (!b2 || x.toNat.testBit 3) && (!b3 || x.toNat.testBit 4) && (!b4 || x.toNat.testBit 5) && (!b5 || x.toNat.testBit 6) && (!b6 || x.toNat.testBit 7) && (!b7 || x.toNat.testBit 8)) := by decide +kernel
theorem fld_mem (k : Int) : fld k ∈ ([0, 175, 15, 77, 107, 3, 7, 35, 1, 33, 305, 53] : List Int) := by
  rcases fld_set k with h | h | h | h | h | h | h | h | h | h | h | h <;> rw [h] <;> decide
theorem andNot_fil (k : Int) (bb : Nat → Bool) : bits BinOp.andNot IntKind.i64 (flv bb 8) (fld k) = 0 ↔ ∀ j : Nat, j < 8 → bb j = true → hs k (j + 1) = true := by
  have h := andNot_fin (fld k) (fld_mem k) (bb 0) (bb 1) (bb 2) (bb 3) (bb 4) (bb 5) (bb 6) (bb 7)
  rw [← flv_8] at h
  rw [← beq_iff_eq (a := bits BinOp.andNot IntKind.i64 (flv bb 8) (fld k)), h]
  simp only [Bool.and_eq_true, Bool.or_eq_true, Bool.not_eq_true']
  constructor
  · rintro ⟨⟨⟨⟨⟨⟨⟨h0, h1⟩, h2⟩, h3⟩, h4⟩, h5⟩, h6⟩, h7⟩ j hj hb
    have : j = 0 ∨ j = 1 ∨ j = 2 ∨ j = 3 ∨ j = 4 ∨ j = 5 ∨ j = 6 ∨ j = 7 := by omega
    rcases this with rfl | rfl | rfl | rfl | rfl | rfl | rfl | rfl <;> simp_all [hs]
  · intro H
    have hh : ∀ j, j < 8 → bb j = false ∨ (fld k).toNat.testBit (j + 1) = true := fun j hj => by
      cases hb : bb j
      · exact .inl rfl
      · exact .inr (H j hj hb)
    exact ⟨⟨⟨⟨⟨⟨⟨hh 0 (by decide), hh 1 (by decide)⟩, hh 2 (by decide)⟩, hh 3 (by decide)⟩, hh 4 (by decide)⟩, hh 5 (by decide)⟩, hh 6 (by decide)⟩, hh 7 (by decide)⟩
theorem and_h1 (k : Int) : bits BinOp.and IntKind.i64 (fld k) 2 = if hs k 1 then 2 else 0 := by
  unfold hs
  rcases fld_set k with h | h | h | h | h | h | h | h | h | h | h | h <;> rw [h] <;> decide +kernel
theorem and_h2 (k : Int) : bits BinOp.and IntKind.i64 (fld k) 4 = if hs k 2 then 4 else 0 := by
  unfold hs
  rcases fld_set k with h | h | h | h | h | h | h | h | h | h | h | h <;> rw [h] <;> decide +kernel
theorem and_h4 (k : Int) : bits BinOp.and IntKind.i64 (fld k) 16 = if hs k 4 then 16 else 0 := by
  unfold hs
  rcases fld_set k with h | h | h | h | h | h | h | h | h | h | h | h <;> rw [h] <;> decide +kernel
theorem fld_ne (k : Int) : fld k ≠ 0 ↔ 1 ≤ k ∧ k ≤ 13 := by
  constructor
  · intro h
    by_cases hk : 1 ≤ k ∧ k ≤ 13
    · exact hk
    · exact absurd (by unfold fld; rw [if_neg hk]) h
  · intro h
    have : k = 1 ∨ k = 2 ∨ k = 3 ∨ k = 4 ∨ k = 5 ∨ k = 6 ∨ k = 7 ∨ k = 8 ∨ k = 9 ∨ k = 10 ∨ k = 11 ∨ k = 12 ∨ k = 13 := by omega
    rcases this with rfl | rfl | rfl | rfl | rfl | rfl | rfl | rfl | rfl | rfl | rfl | rfl | rfl <;> decide
/-- What may be asked, but for the lists. -/
def Ok1 (n : Nat) (tv : Tv) (k : Int) (f q m : ByteArray) (vk ru nu wa pf : Int) (pc : Nat) (pm : Int) (cn an : Nat) : Prop :=
  (1 ≤ k ∧ k ≤ 13) ∧ (∀ j : Nat, j < 8 → fbs q m vk ru nu wa pf pc pm cn an j = true → hs k (j + 1) = true) ∧ txt (hs k 1) (hs k 2) k f q m = true ∧ nbf (nb2.getD k.toNat (0, 0)).1 (nb2.getD k.toNat (0, 0)).2 (hs k 4) ru nu wa = true ∧ May (n + 1) tv ∧ may pf pc pm = true
def Ok3 (n : Nat) (l : List Cm) (al : List An) (nu : Int) (cn : Nat) : Prop := (Cmay n l ∧ (cn = 0 ∨ nu ≠ 0)) ∧ Amay (n + 1) al
theorem LkP.of {P P' P2 P3 : Prop} {w w' : World} {e : Ending} (h : P ↔ P') (hc : LkP P P2 P3 w e w') : LkP P' P2 P3 w e w' := by
  obtain ⟨r, he, h1, h2, h3, h4, hb⟩ := hc
  exact ⟨r, he, fun q => h1 (fun x => q (h.1 x)), fun q => h2 (h.2 q), fun q => h3 (h.2 q), fun q => h4 (h.2 q), hb⟩
theorem lcheck_calls (n : Nat) (tv : Tv) (l : List Cm) (al : List An) (k : Int) (f q m : ByteArray) (vk vx vb : Int) (vs : ByteArray) (la : Option Addr) (ll lc : Nat) (ru nu wa pf : Int) (pc : Nat) (pm : Int) (ca : Option Addr) (cn cc : Nat) (aa : Option Addr) (an ac : Nat) (w : World) (hpc : pc < 18446744073709551616) (hv : Is w (n + 1) (.agg #[.int .i64 vk, .int .i64 vx, .int .u64 vb, .string vs, .slice la ll lc]) tv) (hC : Cms w n ca l) (hA : Ans w (n + 1) aa al) (hcn : cn = l.length) (han : an = al.length) (hT : Tb w) :
    Calls Tryd.prog 7 #[.agg #[.int .i64 k, .string f, .string q, .string m, .int .i64 vk, .int .i64 vx, .int .u64 vb, .string vs, .slice la ll lc, .int .i64 ru, .int .i64 nu, .int .i64 wa, .int .i64 pf, .int .u64 (pc : Int), .int .i64 pm, .slice ca cn cc, .slice aa an ac]] w (LkP (Ok1 n tv k f q m vk ru nu wa pf pc pm cn an) (cn ≤ 12 ∧ an ≤ 8) (Ok3 n l al nu cn) w) := by
  refine (lcheck_gen (flv (fbs q m vk ru nu wa pf pc pm cn an) 8) _ (txt (hs k 1) (hs k 2) k f q m) (nbf (nb2.getD k.toNat (0, 0)).1 (nb2.getD k.toNat (0, 0)).2 (hs k 4) ru nu wa) (May (n + 1) tv) (may pf pc pm) (Cmay n l ∧ (cn = 0 ∨ nu ≠ 0)) (Amay (n + 1) al) k f q m vk vx vb vs la ll lc ru nu wa pf pc pm ca cn cc aa an ac (fld k) w rfl (fun W hB => fields_calls k W (hT.below hB)) (fun W => filled_calls k f q m vk vx vb vs la ll lc ru nu wa pf pc pm ca cn cc aa an ac (fld k) W) (fun W => textsFit_calls (hs k 1) (hs k 2) k f q m vk vx vb vs la ll lc ru nu wa pf pc pm ca cn cc aa an ac (fld k) (and_h1 k) (and_h2 k) W) (fun h0 W hB => ?_) (fun W hB => check_calls (n + 1) _ tv W (hv.below hB)) (fun W => pcheck_calls pf pc pm hpc W) (fun h12 W hB => commandsFit_calls n l k f q m vk vx vb vs la ll lc ru nu wa pf pc pm ca cn cc aa an ac (fld k) hcn (by omega) W (hC.below hB)) (fun h8 W hB => answersFit_calls (n + 1) al k f q m vk vx vb vs la ll lc ru nu wa pf pc pm ca cn cc aa an ac (fld k) han (by omega) W (hA.below hB))).mono fun e w' h => LkP.of ?_ h
  · have hk := (fld_ne k).1 h0
    exact numbersFit_calls k.toNat (by omega) (hs k 4) k f q m vk vx vb vs la ll lc ru nu wa pf pc pm ca cn cc aa an ac (fld k) (by omega) (and_h4 k) W (hT.below hB)
  · rw [fld_ne, andNot_fil]
    rfl
theorem ok_a : Ok1 0 zE 9 ⟨#[97]⟩ ⟨#[]⟩ ⟨#[]⟩ 0 0 0 0 0 0 0 0 0 := by
  refine ⟨by decide, ?_, by decide +kernel, by decide +kernel, zE_mayN 0, by decide +kernel⟩
  intro j hj hb
  have : j = 0 ∨ j = 1 ∨ j = 2 ∨ j = 3 ∨ j = 4 ∨ j = 5 ∨ j = 6 ∨ j = 7 := by omega
  rcases this with rfl | rfl | rfl | rfl | rfl | rfl | rfl | rfl <;> simp [fbs] at hb
theorem ok_x : ¬ Ok1 0 zE 9 ⟨#[97]⟩ ⟨#[]⟩ ⟨#[120]⟩ 0 0 0 0 0 0 0 0 0 := fun h => by
  have := h.2.1 1 (by decide) (by decide +kernel)
  revert this
  decide +kernel
theorem cms_nil (w : World) (n : Nat) (a : Option Addr) : Cms w n a [] := fun i c h => by simp at h
theorem ans_nil (w : World) (n : Nat) (a : Option Addr) : Ans w n a [] := fun i c h => by simp at h
theorem awc_a (w : World) (hT : Tb w) : Calls Tryd.prog 7 #[.agg #[.int .i64 9, .string ⟨#[97]⟩, .string ⟨#[]⟩, .string ⟨#[]⟩, .int .i64 0, .int .i64 0, .int .u64 0, .string ⟨#[]⟩, .slice none 0 0, .int .i64 0, .int .i64 0, .int .i64 0, .int .i64 0, .int .u64 0, .int .i64 0, .slice none 0 0, .slice none 0 0]] w fun e w' => e = .returned (.int .i64 0) ∧ Below w.heap.size w w' := by
  refine (lcheck_calls 0 zE [] [] 9 ⟨#[97]⟩ ⟨#[]⟩ ⟨#[]⟩ 0 0 0 ⟨#[]⟩ none 0 0 0 0 0 0 0 0 none 0 0 none 0 0 w (by decide) (zE_is w 0) (cms_nil _ _ _) (ans_nil _ _ _) rfl rfl hT).mono ?_
  rintro e w' ⟨r, rfl, _, _, h3, _, hb⟩
  exact ⟨by rw [h3 ok_a ⟨by decide, by decide⟩ ⟨⟨fun i c h => by simp at h, .inl rfl⟩, fun i c h => by simp at h⟩], hb⟩
theorem awc_x (w : World) (hT : Tb w) : Calls Tryd.prog 7 #[.agg #[.int .i64 9, .string ⟨#[97]⟩, .string ⟨#[]⟩, .string ⟨#[120]⟩, .int .i64 0, .int .i64 0, .int .u64 0, .string ⟨#[]⟩, .slice none 0 0, .int .i64 0, .int .i64 0, .int .i64 0, .int .i64 0, .int .u64 0, .int .i64 0, .slice none 0 0, .slice none 0 0]] w fun e w' => e = .returned (.int .i64 1) ∧ Below w.heap.size w w' := by
  refine (lcheck_calls 0 zE [] [] 9 ⟨#[97]⟩ ⟨#[]⟩ ⟨#[120]⟩ 0 0 0 ⟨#[]⟩ none 0 0 0 0 0 0 0 0 none 0 0 none 0 0 w (by decide) (zE_is w 0) (cms_nil _ _ _) (ans_nil _ _ _) rfl rfl hT).mono ?_
  rintro e w' ⟨r, rfl, h1, _, _, _, hb⟩
  exact ⟨by rw [h1 ok_x], hb⟩
theorem fields_13 (w : World) (hT : Tb w) : Calls Tryd.prog 10 #[.int .i64 13] w fun e w' => e = .returned (.int .i64 1) ∧ w' = w := fields_calls 13 w hT
theorem AtR.set3 {w : World} {B : Nat} (h : AtR w B 9 ⟨#[97]⟩ ⟨#[]⟩ ⟨#[]⟩ 0 0 0 ⟨#[]⟩ none 0 0 0 0 0 0 0 0 none 0 0 none 0 0) : AtR (w.setCell ⟨B, 3, none⟩ (.string ⟨#[120]⟩)) B 9 ⟨#[97]⟩ ⟨#[]⟩ ⟨#[120]⟩ 0 0 0 ⟨#[]⟩ none 0 0 0 0 0 0 0 0 none 0 0 none 0 0 := by
  obtain ⟨x0, x1, x2, x3, x4, x5, x6, x7, x8, x9, x10, x11, x12, x13, x14, x15, x16⟩ := h
  refine ⟨?_, ?_, ?_, ?_, ?_, ?_, ?_, ?_, ?_, ?_, ?_, ?_, ?_, ?_, ?_, ?_, ?_⟩ <;> go_simp
set_option maxHeartbeats 2000000 in
theorem awake_calls (w : World) (hT : Tb w) : Calls Tryd.prog 9 #[] w fun e w' => e = .returned (.bool true) ∧ Below w.heap.size w w' := by
  have HT : Hid (Tb w) := hT
  clear hT
  go_enter Tryd.func9, Tryd.ntmps9
  go_upto_region 2 with fail
  have HX : Hid (AtR (w.alloc (.cells #[.int .i64 9, .string ⟨#[97]⟩, .string ⟨#[]⟩, .string ⟨#[]⟩, .int .i64 0, .int .i64 0, .int .u64 0, .string ⟨#[]⟩, .slice none 0 0, .int .i64 0, .int .i64 0, .int .i64 0, .int .i64 0, .int .u64 0, .int .i64 0, .slice none 0 0, .slice none 0 0] 31)) w.heap.size 9 ⟨#[97]⟩ ⟨#[]⟩ ⟨#[]⟩ 0 0 0 ⟨#[]⟩ none 0 0 0 0 0 0 0 0 none 0 0 none 0 0) := AtR.box w 9 ⟨#[97]⟩ ⟨#[]⟩ ⟨#[]⟩ 0 0 0 ⟨#[]⟩ none 0 0 0 0 0 0 0 0 none 0 0 none 0 0
  have HB : Hid (Below w.heap.size w (w.alloc (.cells #[.int .i64 9, .string ⟨#[97]⟩, .string ⟨#[]⟩, .string ⟨#[]⟩, .int .i64 0, .int .i64 0, .int .u64 0, .string ⟨#[]⟩, .slice none 0 0, .int .i64 0, .int .i64 0, .int .i64 0, .int .i64 0, .int .u64 0, .int .i64 0, .slice none 0 0, .slice none 0 0] 31))) := bel1 _ _
  have HZ : Hid ((w.alloc (.cells #[.int .i64 9, .string ⟨#[97]⟩, .string ⟨#[]⟩, .string ⟨#[]⟩, .int .i64 0, .int .i64 0, .int .u64 0, .string ⟨#[]⟩, .slice none 0 0, .int .i64 0, .int .i64 0, .int .i64 0, .int .i64 0, .int .u64 0, .int .i64 0, .slice none 0 0, .slice none 0 0] 31)).frozen? ⟨w.heap.size, 3, none⟩ = false ∧ w.heap.size < (w.alloc (.cells #[.int .i64 9, .string ⟨#[97]⟩, .string ⟨#[]⟩, .string ⟨#[]⟩, .int .i64 0, .int .i64 0, .int .u64 0, .string ⟨#[]⟩, .slice none 0 0, .int .i64 0, .int .i64 0, .int .i64 0, .int .i64 0, .int .u64 0, .int .i64 0, .slice none 0 0, .slice none 0 0] 31)).heap.size) := ⟨by go_simp, by simp⟩
  generalize w.alloc (.cells #[.int .i64 9, .string ⟨#[97]⟩, .string ⟨#[]⟩, .string ⟨#[]⟩, .int .i64 0, .int .i64 0, .int .u64 0, .string ⟨#[]⟩, .slice none 0 0, .int .i64 0, .int .i64 0, .int .i64 0, .int .i64 0, .int .u64 0, .int .i64 0, .slice none 0 0, .slice none 0 0] 31) = W1 at HX HB HZ ⊢
  go_wp2_with (first | (refine wpList_load_mid (by rfl) 31 _ rfl w.heap.size 0 rfl [.int .i64 9, .string ⟨#[97]⟩, .string ⟨#[]⟩, .string ⟨#[]⟩, .int .i64 0, .int .i64 0, .int .u64 0, .string ⟨#[]⟩, .slice none 0 0, .int .i64 0, .int .i64 0, .int .i64 0, .int .i64 0, .int .u64 0, .int .i64 0, .slice none 0 0, .slice none 0 0] _ HX.out.range Tryd.underlying31 rfl rq31 ?_))
  refine Calls.mono (awc_a _ (HT.out.below HB.out)) ?_
  rintro e w1 ⟨rfl, hb⟩
  replace HX : Hid (AtR w1 w.heap.size 9 ⟨#[97]⟩ ⟨#[]⟩ ⟨#[]⟩ 0 0 0 ⟨#[]⟩ none 0 0 0 0 0 0 0 0 none 0 0 none 0 0) := HX.out.below hb
  replace HB : Hid (Below w.heap.size w w1) := bel2 HB.out hb
  have z3 : w1.frozen? ⟨w.heap.size, 3, none⟩ = false := (hb.frozen HZ.out.2).trans HZ.out.1
  clear hb
  obtain ⟨x0, x1, x2, x3, x4, x5, x6, x7, x8, x9, x10, x11, x12, x13, x14, x15, x16⟩ := HX.out
  clear x0 x1 x2 x4 x5 x6 x7 x8 x9 x10 x11 x12 x13 x14 x15 x16
  go_upto_region 5 with fail
  clear x3 z3
  replace HX : Hid (AtR (w1.setCell ⟨w.heap.size, 3, none⟩ (.string ⟨#[120]⟩)) w.heap.size 9 ⟨#[97]⟩ ⟨#[]⟩ ⟨#[120]⟩ 0 0 0 ⟨#[]⟩ none 0 0 0 0 0 0 0 0 none 0 0 none 0 0) := HX.out.set3
  replace HB : Hid (Below w.heap.size w (w1.setCell ⟨w.heap.size, 3, none⟩ (.string ⟨#[120]⟩))) := HB.out.setCell (Nat.le_refl _) _
  generalize w1.setCell ⟨w.heap.size, 3, none⟩ (.string ⟨#[120]⟩) = w2 at HX HB ⊢
  go_wp2_with (first | (refine wpList_load_mid (by rfl) 31 _ rfl w.heap.size 0 rfl [.int .i64 9, .string ⟨#[97]⟩, .string ⟨#[]⟩, .string ⟨#[120]⟩, .int .i64 0, .int .i64 0, .int .u64 0, .string ⟨#[]⟩, .slice none 0 0, .int .i64 0, .int .i64 0, .int .i64 0, .int .i64 0, .int .u64 0, .int .i64 0, .slice none 0 0, .slice none 0 0] _ HX.out.range Tryd.underlying31 rfl rq31 ?_))
  refine Calls.mono (awc_x _ (HT.out.below HB.out)) ?_
  rintro e w3 ⟨rfl, hb⟩
  replace HB : Hid (Below w.heap.size w w3) := bel2 HB.out hb
  clear hb HX
  go_wp2_with fail
  refine Calls.mono (fields_13 _ (HT.out.below HB.out)) ?_
  rintro e w4 ⟨rfl, e1⟩
  have e2 := e1.symm
  subst e2
  clear e1
  go_wp2_with fail
  go_ret
  exact ⟨rfl, HB.out⟩
set_option maxHeartbeats 2000000 in
theorem fields_walk (k : Int) (w : World) (hT : Tb w) : Calls Tryd.prog 4 #[.int .i64 k] w fun e w' => e = .returned (.bool true) ∧ Below w.heap.size w w' := by
  have FC : Hid (∀ k W, Below w.heap.size w W → _) := fun k W hB => fields_calls k W (hT.below hB)
  have RC : Hid (∀ k W, _) := fun k W => rfields_calls k W
  have AC : Hid (∀ W, Below w.heap.size w W → _) := fun W hB => awake_calls W (hT.below hB)
  clear hT
  generalize fld = F at FC RC
  go_enter Tryd.func4, Tryd.ntmps4
  go_wp2_with fail
  go_loopw [3, 4] (fun _ i wr => ∃ j : Nat, j ≤ 20 ∧ i = .int .i64 (j : Int) ∧ Hid (Below w.heap.size w wr)) (fun _ i _ => 20 - (intOf i).toNat)
  case atStart => exact ⟨0, Nat.zero_le _, rfl, Below.refl _ _⟩
  case round =>
    obtain ⟨j, hj, rfl, HB⟩ := hrel
    by_cases hlt : j < 20
    · have HW : Hid (wrap64 ((j : Int) + 1) = ((j + 1 : Nat) : Int)) := wr1 hlt (by omega)
      have hjl : (j : Int) < 20 := by omega
      go_wp2_with fail
      refine Calls.mono (FC.out _ _ HB.out) ?_
      rintro e w1 ⟨rfl, e1⟩
      have e2 := e1.symm
      subst e2
      clear e1
      go_wp2_with fail
      refine Calls.mono (RC.out _ _) ?_
      rintro e w2 ⟨rfl, hb⟩
      replace HB : Hid (Below w.heap.size w w2) := bel2 HB.out hb
      clear hb
      go_wp2_with fail
      exact ⟨⟨j + 1, hlt, by first | rfl | rw [HW.out], HB⟩, by first | exact meas hlt rfl | exact meas hlt HW.out⟩
    · obtain rfl : j = 20 := by omega
      go_wp2_with fail
      refine Calls.mono (FC.out _ _ HB.out) ?_
      rintro e w1 ⟨rfl, e1⟩
      have e2 := e1.symm
      subst e2
      clear e1
      go_wp2_with fail
      refine Calls.mono (RC.out _ _) ?_
      rintro e w2 ⟨rfl, hb⟩
      replace HB : Hid (Below w.heap.size w w2) := bel2 HB.out hb
      clear hb
      go_wp2_with fail
      refine Calls.mono (AC.out _ HB.out) ?_
      rintro e w3 ⟨rfl, hb⟩
      replace HB : Hid (Below w.heap.size w w3) := bel2 HB.out hb
      clear hb
      go_wp2_with fail
      go_ret
      exact ⟨rfl, HB.out⟩
def tab0 : Obj → Obj
  | .cells _ t frozen => .cells (fl.map fun z => Value.int .i64 z).toArray t frozen
  | o => o
def tab1 : Obj → Obj
  | .cells _ t frozen => .cells (nb2.map fun z => [Value.int .i64 z.1, Value.int .i64 z.2]).flatten.toArray t frozen
  | o => o
noncomputable def laidWorld (os : Os) : World :=
  { World.holding Tryd.prog os ⟨#[], #[], []⟩ with heap := ((World.holding Tryd.prog os ⟨#[], #[], []⟩).heap.modify 0 tab0).modify 1 tab1 }
theorem own : ownKnob Tryd.prog.godebug = none := by kernel_rfl
end Go.Proofs.YtddigndamimmpaaDoor
