/- The walks of write and batch, of the closures 76, 77, 78, 79. -/
import Derived.Test.YtkaaddahegkmgaaBC
namespace Go.Proofs.Ytkaaddahegkmgaa
open Go.ChangeShapes Go.WideShapes Go.ChangeAt Go.RowKit
set_option maxHeartbeats 4000000 in
set_option maxRecDepth 100000 in
theorem write_walkC {σ : Type} {J : σ → World → Prop} {s : Ways σ} (w : World) (cap : Value) (hc : Clo w.heap.size 76 77 78 79 cap J s) (t : Wt) (B p : Nat) (ev : Value) (h5 : At5 w B p (.string t.br) (.string t.fk) (.int .i64 t.kp) (.int .i64 t.ta) ev) (hl : LR w ev t.ev) (W : World) (hW : Below w.heap.size w W) (st : σ) (hJ : J st W) (hg : GW s st t) :
    Calls Try.prog 102 #[.agg #[.func (.func 76) #[] #[cap], .func (.func 77) #[] #[cap], .func (.func 78) #[] #[cap], .func (.func 79) #[] #[cap]], .pointer (some ⟨B, p, none⟩)] W (CloP w.heap.size J (wyW s st t) W) := by
  obtain ⟨ea, ec, rfl, hel⟩ := hl.shape
  have HC : Hid (Clo w.heap.size 76 77 78 79 cap J s) := hc
  have HL : Hid (LR w (.slice ea t.ev.length ec) t.ev) := hl
  have H5 : Hid (At5 w B p (.string t.br) (.string t.fk) (.int .i64 t.kp) (.int .i64 t.ta) (.slice ea t.ev.length ec)) := h5
  have HW : Hid (Below w.heap.size w W) := hW
  have HG : Hid (GW s st t) := hg
  have HEL : Hid (t.ev.length ≤ 9223372036854775807) := hel
  have K0' : Hid (Wk w.heap.size J W ((W.alloc (.cells #[.func (.func 76) #[] #[cap], .func (.func 77) #[] #[cap], .func (.func 78) #[] #[cap], .func (.func 79) #[] #[cap]] 119)).alloc (.cells #[.pointer (some ⟨B, p, none⟩)] 138)) W.heap.size (.func (.func 76) #[] #[cap]) (.func (.func 77) #[] #[cap]) (.func (.func 78) #[] #[cap]) (.func (.func 79) #[] #[cap]) ⟨B, p, none⟩ 138 st) := ⟨Bx.new W _ _ _ _ _ _, hc.below _ _ _ hJ (bel2 (bel1 _ _) (bel1 _ _)), Fr.below (bel2 (bel1 _ _) (bel1 _ _)) (hc.low _ _ hJ)⟩
  clear hc hl h5 hW hg hJ hel
  go_enter Try.func102, Try.ntmps102
  go_wp2_with fail
  generalize hW1 : (W.alloc (Obj.cells #[.func (.func 76) #[] #[cap], .func (.func 77) #[] #[cap], .func (.func 78) #[] #[cap], .func (.func 79) #[] #[cap]] 119)).alloc (Obj.cells #[.pointer (some ⟨B, p, none⟩)] 138) = W1
  have K0 : Hid (Wk w.heap.size J W W1 W.heap.size (.func (.func 76) #[] #[cap]) (.func (.func 77) #[] #[cap]) (.func (.func 78) #[] #[cap]) (.func (.func 79) #[] #[cap]) ⟨B, p, none⟩ 138 (st)) := by rw [← hW1]; exact K0'.out
  clear hW1 K0'
  obtain ⟨b00, b01, b02, b03, b04⟩ := K0.out.bx.cells
  have D0 : Hid (Wk w.heap.size J W W1.drew W.heap.size (.func (.func 76) #[] #[cap]) (.func (.func 77) #[] #[cap]) (.func (.func 78) #[] #[cap]) (.func (.func 79) #[] #[cap]) ⟨B, p, none⟩ 138 (_)) := K0.out.drew HC.out.below (HC.out.low _ _ K0.out.st) (by decide)
  go_region_held3 (fun w' => w'.cell? ⟨W.heap.size, 1, none⟩ = some (.func (.func 77) #[] #[cap]) ∧ w'.cell? ⟨W.heap.size + 1, 0, none⟩ = some (.pointer (some ⟨B, p, none⟩))) (go_keep) (first
    | (go_at_call 77; refine (HC.out.text st _ _ t.br _ _ D0.out.st HG.out.g1 (Pers.old H5.out.1 (HW.out.trans D0.out.fr.1))).mono ?_; rintro e w1 ⟨rfl, hj, hf⟩; have K1 : Hid (Wk w.heap.size J W w1 W.heap.size (.func (.func 76) #[] #[cap]) (.func (.func 77) #[] #[cap]) (.func (.func 78) #[] #[cap]) (.func (.func 79) #[] #[cap]) ⟨B, p, none⟩ 138 (s.T st t.br 1 64)) := D0.out.step hf hj (by decide); obtain ⟨b10, b11, b12, b13, b14⟩ := K1.out.bx.cells; clear hj hf)
    )
  clear b00 b01 b02 b03 b04 b10 b11 b12 b13 b14 D0
  go_wp2_with fail
  obtain ⟨b10, b11, b12, b13, b14⟩ := K1.out.bx.cells
  have D1 : Hid (Wk w.heap.size J W w1.drew W.heap.size (.func (.func 76) #[] #[cap]) (.func (.func 77) #[] #[cap]) (.func (.func 78) #[] #[cap]) (.func (.func 79) #[] #[cap]) ⟨B, p, none⟩ 138 (_)) := K1.out.drew HC.out.below (HC.out.low _ _ K1.out.st) (by decide)
  go_region_held3 (fun w' => w'.cell? ⟨W.heap.size, 1, none⟩ = some (.func (.func 77) #[] #[cap]) ∧ w'.cell? ⟨W.heap.size + 1, 0, none⟩ = some (.pointer (some ⟨B, p, none⟩))) (go_keep) (first
    | (go_at_call 77; refine (HC.out.text _ _ _ t.fk _ _ D1.out.st HG.out.g2 (Pers.old H5.out.2.1 (HW.out.trans D1.out.fr.1))).mono ?_; rintro e w2 ⟨rfl, hj, hf⟩; have K2 : Hid (Wk w.heap.size J W w2 W.heap.size (.func (.func 76) #[] #[cap]) (.func (.func 77) #[] #[cap]) (.func (.func 78) #[] #[cap]) (.func (.func 79) #[] #[cap]) ⟨B, p, none⟩ 138 (s.T (s.T st t.br 1 64) t.fk 0 64)) := D1.out.step hf hj (by decide); obtain ⟨b20, b21, b22, b23, b24⟩ := K2.out.bx.cells; clear hj hf)
    )
  clear b10 b11 b12 b13 b14 b20 b21 b22 b23 b24 D1
  go_wp2_with fail
  obtain ⟨b20, b21, b22, b23, b24⟩ := K2.out.bx.cells
  have D2 : Hid (Wk w.heap.size J W w2.drew W.heap.size (.func (.func 76) #[] #[cap]) (.func (.func 77) #[] #[cap]) (.func (.func 78) #[] #[cap]) (.func (.func 79) #[] #[cap]) ⟨B, p, none⟩ 138 (_)) := K2.out.drew HC.out.below (HC.out.low _ _ K2.out.st) (by decide)
  go_region_held3 (fun w' => w'.cell? ⟨W.heap.size, 0, none⟩ = some (.func (.func 76) #[] #[cap]) ∧ w'.cell? ⟨W.heap.size + 1, 0, none⟩ = some (.pointer (some ⟨B, p, none⟩))) (go_keep) (first
    | (go_at_call 76; refine (HC.out.num _ _ _ t.kp _ D2.out.st HG.out.g3 (Pers.old H5.out.2.2.1 (HW.out.trans D2.out.fr.1))).mono ?_; rintro e w3 ⟨rfl, hj, hf⟩; have K3 : Hid (Wk w.heap.size J W w3 W.heap.size (.func (.func 76) #[] #[cap]) (.func (.func 77) #[] #[cap]) (.func (.func 78) #[] #[cap]) (.func (.func 79) #[] #[cap]) ⟨B, p, none⟩ 138 (s.N (s.T (s.T st t.br 1 64) t.fk 0 64) t.kp 120)) := D2.out.step hf hj (by decide); obtain ⟨b30, b31, b32, b33, b34⟩ := K3.out.bx.cells; clear hj hf)
    )
  clear b20 b21 b22 b23 b24 b30 b31 b32 b33 b34 D2
  go_wp2_with fail
  obtain ⟨b30, b31, b32, b33, b34⟩ := K3.out.bx.cells
  have D3 : Hid (Wk w.heap.size J W w3.drew W.heap.size (.func (.func 76) #[] #[cap]) (.func (.func 77) #[] #[cap]) (.func (.func 78) #[] #[cap]) (.func (.func 79) #[] #[cap]) ⟨B, p, none⟩ 138 (_)) := K3.out.drew HC.out.below (HC.out.low _ _ K3.out.st) (by decide)
  go_region_held3 (fun w' => w'.cell? ⟨W.heap.size, 0, none⟩ = some (.func (.func 76) #[] #[cap]) ∧ w'.cell? ⟨W.heap.size + 1, 0, none⟩ = some (.pointer (some ⟨B, p, none⟩))) (go_keep) (first
    | (go_at_call 76; refine (HC.out.num _ _ _ t.ta _ D3.out.st HG.out.g4 (Pers.old H5.out.2.2.2.1 (HW.out.trans D3.out.fr.1))).mono ?_; rintro e w4 ⟨rfl, hj, hf⟩; have K4 : Hid (Wk w.heap.size J W w4 W.heap.size (.func (.func 76) #[] #[cap]) (.func (.func 77) #[] #[cap]) (.func (.func 78) #[] #[cap]) (.func (.func 79) #[] #[cap]) ⟨B, p, none⟩ 138 (s.N (s.N (s.T (s.T st t.br 1 64) t.fk 0 64) t.kp 120) t.ta 120)) := D3.out.step hf hj (by decide); obtain ⟨b40, b41, b42, b43, b44⟩ := K4.out.bx.cells; clear hj hf)
    )
  clear b30 b31 b32 b33 b34 b40 b41 b42 b43 b44 D3
  go_wp2_with fail
  obtain ⟨b40, b41, b42, b43, b44⟩ := K4.out.bx.cells
  have m4_0 := (Pers.old H5.out.2.2.2.2 (HW.out.trans K4.out.fr.1)) _ (Fr.refl _ _)
  have D4 : Hid (Wk w.heap.size J W w4.drew W.heap.size (.func (.func 76) #[] #[cap]) (.func (.func 77) #[] #[cap]) (.func (.func 78) #[] #[cap]) (.func (.func 79) #[] #[cap]) ⟨B, p, none⟩ 138 (_)) := K4.out.drew HC.out.below (HC.out.low _ _ K4.out.st) (by decide)
  go_region_held3 (fun w' => w'.cell? ⟨W.heap.size, 3, none⟩ = some (.func (.func 79) #[] #[cap]) ∧ w'.cell? ⟨W.heap.size + 1, 0, none⟩ = some (.pointer (some ⟨B, p, none⟩)) ∧ w'.cell? ⟨B, p + 4, none⟩ = some (.slice ea t.ev.length ec)) (go_keep) (first
    | (go_at_call 79; refine (HC.out.count _ _ (t.ev.length : Int) _ _ D4.out.st HG.out.g5).mono ?_; rintro e w5 ⟨rfl, hj, hf⟩; have K5 : Hid (Wk w.heap.size J W w5 W.heap.size (.func (.func 76) #[] #[cap]) (.func (.func 77) #[] #[cap]) (.func (.func 78) #[] #[cap]) (.func (.func 79) #[] #[cap]) ⟨B, p, none⟩ 138 (s.C (s.N (s.N (s.T (s.T st t.br 1 64) t.fk 0 64) t.kp 120) t.ta 120) (t.ev.length : Int) 120)) := D4.out.step hf hj (by decide); obtain ⟨b50, b51, b52, b53, b54⟩ := K5.out.bx.cells; have m5_0 := (Pers.old H5.out.2.2.2.2 (HW.out.trans K5.out.fr.1)) w5 (Fr.refl _ _); clear hj hf)
    )
  clear b40 b41 b42 b43 b44 b50 b51 b52 b53 b54 m4_0 m5_0 D4
  go_wp2_with fail
  obtain ⟨HR, HELL⟩ : Hid (∀ (i : Nat) y, t.ev[i]? = some y → ∃ B o x, ea = some ⟨B, o, none⟩ ∧ w.cell? ⟨B, o + i, none⟩ = some x ∧ Lib.HoldsBytes w x y) ∧ Hid (t.ev.length ≤ 9223372036854775807) := by
    obtain ⟨a', c', he, hl, hr⟩ := HL.out
    cases he
    exact ⟨hr, hl⟩
  clear K0 K1 K2 K3 K4
  go_loopw [43] (fun i wr => ∃ j : Nat, j ≤ t.ev.length ∧ i = .int .i64 (j : Int) ∧ Hid (Wk w.heap.size J W wr W.heap.size (.func (.func 76) #[] #[cap]) (.func (.func 77) #[] #[cap]) (.func (.func 78) #[] #[cap]) (.func (.func 79) #[] #[cap]) ⟨B, p, none⟩ 138 (wyE s (wy0 s st t) (t.ev.take j)))) (fun i _ => t.ev.length - (intOf i).toNat)
  case atStart => exact ⟨0, Nat.zero_le _, rfl, K5⟩
  case round =>
    obtain ⟨j, hj, rfl, K6⟩ := hrel
    by_cases hlt : j < t.ev.length
    · obtain ⟨Be, oe, x, rfl, hx, hh⟩ := HR.out j _ (List.getElem?_eq_getElem hlt)
      obtain ⟨xp, xn, xc, rfl⟩ : ∃ p n c, x = .slice p n c := by obtain ⟨p, c, rfl, _⟩ := hh; exact ⟨_, _, _, rfl⟩
      have HX : Hid (w.cell? ⟨Be, oe + j, none⟩ = some (.slice xp xn xc) ∧ Lib.HoldsBytes w (.slice xp xn xc) t.ev[j]) := ⟨hx, hh⟩
      have hjl : (j : Int) < (t.ev.length : Int) := by omega
      have HWr : Hid (wrap64 ((j : Int) + 1) = ((j + 1 : Nat) : Int)) := wr1 hlt HELL.out
      have HGE : Hid (s.gB (wyE s (wy0 s st t) (t.ev.take j)) t.ev[j]) := HG.out.g6 j hlt
      have HMo : Hid (wyE s (wy0 s st t) (t.ev.take (j + 1)) = s.B (wyE s (wy0 s st t) (t.ev.take j)) t.ev[j] 1 4096) := wyE_more s _ _ j hlt
      obtain ⟨b60, b61, b62, b63, b64⟩ := K6.out.bx.cells
      have m6 := (Pers.old H5.out.2.2.2.2 (HW.out.trans K6.out.fr.1)) _ (Fr.refl _ _)
      have D6 : Hid (Wk w.heap.size J W wr.drew W.heap.size (.func (.func 76) #[] #[cap]) (.func (.func 77) #[] #[cap]) (.func (.func 78) #[] #[cap]) (.func (.func 79) #[] #[cap]) ⟨B, p, none⟩ 138 (_)) := K6.out.drew HC.out.below (HC.out.low _ _ K6.out.st) (by decide)
      clear hx hh
      go_wp2_with fail
      go_region_held3 (fun w' => w'.cell? ⟨W.heap.size, 2, none⟩ = some (.func (.func 78) #[] #[cap]) ∧ w'.cell? ⟨W.heap.size + 1, 0, none⟩ = some (.pointer (some ⟨B, p, none⟩)) ∧ w'.cell? ⟨B, p + 4, none⟩ = some (.slice (some ⟨Be, oe, none⟩) t.ev.length ec)) (go_keep) (first
        | (go_at_call 78; refine (HC.out.bytes _ _ _ xp xn xc _ _ _ D6.out.st HGE.out (Pers.old HX.out.1 (HW.out.trans D6.out.fr.1)) (fun W' f => holds_below HX.out.2 ((HW.out.trans D6.out.fr.1).trans f.1))).mono ?_; rintro e w7 ⟨rfl, hj7, hf⟩; have K7 : Hid (Wk w.heap.size J W w7 W.heap.size (.func (.func 76) #[] #[cap]) (.func (.func 77) #[] #[cap]) (.func (.func 78) #[] #[cap]) (.func (.func 79) #[] #[cap]) ⟨B, p, none⟩ 138 (s.B (wyE s (wy0 s st t) (t.ev.take j)) t.ev[j] 1 4096)) := D6.out.step hf hj7 (by decide); obtain ⟨b70, b71, b72, b73, b74⟩ := K7.out.bx.cells; have m7 := (Pers.old H5.out.2.2.2.2 (HW.out.trans K7.out.fr.1)) _ (Fr.refl _ _); clear hj7 hf)
        )
      go_wp2_with fail
      refine ⟨⟨j + 1, hlt, by rw [HWr.out], ?_⟩, meas hlt HWr.out⟩
      show Hid _
      rw [HMo.out]
      exact K7
    · obtain rfl : j = t.ev.length := by omega
      go_wp2_with fail
      first | go_end0 | refine bodyPost_ret (results_none rfl _ _ _) rfl ?_
      refine ⟨rfl, ?_, K6.out.fr⟩
      have := K6.out.st
      rw [List.take_length] at this
      exact this
end Go.Proofs.Ytkaaddahegkmgaa
