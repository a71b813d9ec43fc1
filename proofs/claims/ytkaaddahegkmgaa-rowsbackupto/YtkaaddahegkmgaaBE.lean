/- The walk of batch, of the closures 76, 77, 78, 79. -/
import Derived.Test.YtkaaddahegkmgaaBD
namespace Go.Proofs.Ytkaaddahegkmgaa
open Go.ChangeShapes Go.WideShapes Go.ChangeAt Go.RowKit
set_option maxHeartbeats 4000000 in
set_option maxRecDepth 100000 in
theorem batch_walkC {σ : Type} {J : σ → World → Prop} {s : Ways σ} (w : World) (cap : Value) (hc : Clo w.heap.size 76 77 78 79 cap J s) (b : Bt) (rp : Option Addr) (rn rc : Nat) (wa : Option Addr) (wd : Nat) (hr : Lib.HoldsBytes w (.slice rp rn rc) b.row) (hn : b.ws.length ≤ 9223372036854775807) (hw : WR w wa b.ws) (W : World) (hW : Below w.heap.size w W) (qb : Nat) (hq : Bk W qb #[.string b.key, .int .i64 b.ex, .slice rp rn rc, .slice wa b.ws.length wd] 29) (st : σ) (hJ : J st W) (hg : GB s st b) :
    Calls Try.prog 80 #[.agg #[.func (.func 76) #[] #[cap], .func (.func 77) #[] #[cap], .func (.func 78) #[] #[cap], .func (.func 79) #[] #[cap]], .pointer (some ⟨qb, 0, none⟩)] W (CloP w.heap.size J (byB s st b) W) := by
  have HC : Hid (Clo w.heap.size 76 77 78 79 cap J s) := hc
  have HRw : Hid (Lib.HoldsBytes w (.slice rp rn rc) b.row) := hr
  have HN : Hid (b.ws.length ≤ 9223372036854775807) := hn
  have HWR : Hid (WR w wa b.ws) := hw
  have HW : Hid (Below w.heap.size w W) := hW
  have HQ : Hid (Bk W qb #[.string b.key, .int .i64 b.ex, .slice rp rn rc, .slice wa b.ws.length wd] 29) := hq
  have HG : Hid (GB s st b) := hg
  have HWW : Hid (∀ (t : Wt) (B p : Nat) (ev : Value) (W2 : World) (st : σ), At5 w B p (.string t.br) (.string t.fk) (.int .i64 t.kp) (.int .i64 t.ta) ev → LR w ev t.ev → Below w.heap.size w W2 → J st W2 → GW s st t → Calls Try.prog 102 #[.agg #[.func (.func 76) #[] #[cap], .func (.func 77) #[] #[cap], .func (.func 78) #[] #[cap], .func (.func 79) #[] #[cap]], .pointer (some ⟨B, p, none⟩)] W2 (CloP w.heap.size J (wyW s st t) W2)) := fun t B p ev W2 st h5 hl hW hJ hg => write_walkC w cap hc t B p ev h5 hl W2 hW st hJ hg
  have K0' : Hid (Wk w.heap.size J W ((W.alloc (.cells #[.func (.func 76) #[] #[cap], .func (.func 77) #[] #[cap], .func (.func 78) #[] #[cap], .func (.func 79) #[] #[cap]] 119)).alloc (.cells #[.pointer (some ⟨qb, 0, none⟩)] 121)) W.heap.size (.func (.func 76) #[] #[cap]) (.func (.func 77) #[] #[cap]) (.func (.func 78) #[] #[cap]) (.func (.func 79) #[] #[cap]) ⟨qb, 0, none⟩ 121 st) := ⟨Bx.new W _ _ _ _ _ _, hc.below _ _ _ hJ (bel2 (bel1 _ _) (bel1 _ _)), Fr.below (bel2 (bel1 _ _) (bel1 _ _)) (hc.low _ _ hJ)⟩
  clear hc hr hn hw hW hq hg hJ
  go_enter Try.func80, Try.ntmps80
  go_wp2_with fail
  generalize hW1 : (W.alloc (Obj.cells #[.func (.func 76) #[] #[cap], .func (.func 77) #[] #[cap], .func (.func 78) #[] #[cap], .func (.func 79) #[] #[cap]] 119)).alloc (Obj.cells #[.pointer (some ⟨qb, 0, none⟩)] 121) = W1
  have K0 : Hid (Wk w.heap.size J W W1 W.heap.size (.func (.func 76) #[] #[cap]) (.func (.func 77) #[] #[cap]) (.func (.func 78) #[] #[cap]) (.func (.func 79) #[] #[cap]) ⟨qb, 0, none⟩ 121 (st)) := by rw [← hW1]; exact K0'.out
  clear hW1 K0'
  obtain ⟨b00, b01, b02, b03, b04⟩ := K0.out.bx.cells
  have D0 : Hid (Wk w.heap.size J W W1.drew W.heap.size (.func (.func 76) #[] #[cap]) (.func (.func 77) #[] #[cap]) (.func (.func 78) #[] #[cap]) (.func (.func 79) #[] #[cap]) ⟨qb, 0, none⟩ 121 (_)) := K0.out.drew HC.out.below (HC.out.low _ _ K0.out.st) (by decide)
  go_region_held3 (fun w' => w'.cell? ⟨W.heap.size, 1, none⟩ = some (.func (.func 77) #[] #[cap]) ∧ w'.cell? ⟨W.heap.size + 1, 0, none⟩ = some (.pointer (some ⟨qb, 0, none⟩))) (go_keep) (first
    | (go_at_call 77; refine (HC.out.text st _ _ b.key _ _ D0.out.st HG.out.g1 (Pers.bk (D0.out.fr.bk HQ.out (by decide)) (by decide) (i := 0) rfl)).mono ?_; rintro e w1 ⟨rfl, hj, hf⟩; have K1 : Hid (Wk w.heap.size J W w1 W.heap.size (.func (.func 76) #[] #[cap]) (.func (.func 77) #[] #[cap]) (.func (.func 78) #[] #[cap]) (.func (.func 79) #[] #[cap]) ⟨qb, 0, none⟩ 121 (s.T st b.key 1 64)) := D0.out.step hf hj (by decide); obtain ⟨b10, b11, b12, b13, b14⟩ := K1.out.bx.cells; clear hj hf)
    )
  clear b00 b01 b02 b03 b04 b10 b11 b12 b13 b14 D0
  go_wp2_with fail
  obtain ⟨b10, b11, b12, b13, b14⟩ := K1.out.bx.cells
  have D1 : Hid (Wk w.heap.size J W w1.drew W.heap.size (.func (.func 76) #[] #[cap]) (.func (.func 77) #[] #[cap]) (.func (.func 78) #[] #[cap]) (.func (.func 79) #[] #[cap]) ⟨qb, 0, none⟩ 121 (_)) := K1.out.drew HC.out.below (HC.out.low _ _ K1.out.st) (by decide)
  go_region_held3 (fun w' => w'.cell? ⟨W.heap.size, 0, none⟩ = some (.func (.func 76) #[] #[cap]) ∧ w'.cell? ⟨W.heap.size + 1, 0, none⟩ = some (.pointer (some ⟨qb, 0, none⟩))) (go_keep) (first
    | (go_at_call 76; refine (HC.out.num _ _ _ b.ex _ D1.out.st HG.out.g2 (Pers.bk (D1.out.fr.bk HQ.out (by decide)) (by decide) (i := 1) rfl)).mono ?_; rintro e w2 ⟨rfl, hj, hf⟩; have K2 : Hid (Wk w.heap.size J W w2 W.heap.size (.func (.func 76) #[] #[cap]) (.func (.func 77) #[] #[cap]) (.func (.func 78) #[] #[cap]) (.func (.func 79) #[] #[cap]) ⟨qb, 0, none⟩ 121 (s.N (s.T st b.key 1 64) b.ex 2147483648)) := D1.out.step hf hj (by decide); obtain ⟨b20, b21, b22, b23, b24⟩ := K2.out.bx.cells; clear hj hf)
    )
  clear b10 b11 b12 b13 b14 b20 b21 b22 b23 b24 D1
  go_wp2_with fail
  obtain ⟨b20, b21, b22, b23, b24⟩ := K2.out.bx.cells
  have D2 : Hid (Wk w.heap.size J W w2.drew W.heap.size (.func (.func 76) #[] #[cap]) (.func (.func 77) #[] #[cap]) (.func (.func 78) #[] #[cap]) (.func (.func 79) #[] #[cap]) ⟨qb, 0, none⟩ 121 (_)) := K2.out.drew HC.out.below (HC.out.low _ _ K2.out.st) (by decide)
  go_region_held3 (fun w' => w'.cell? ⟨W.heap.size, 2, none⟩ = some (.func (.func 78) #[] #[cap]) ∧ w'.cell? ⟨W.heap.size + 1, 0, none⟩ = some (.pointer (some ⟨qb, 0, none⟩))) (go_keep) (first
    | (go_at_call 78; refine (HC.out.bytes _ _ _ rp rn rc b.row _ _ D2.out.st HG.out.g3 (Pers.bk (D2.out.fr.bk HQ.out (by decide)) (by decide) (i := 2) rfl) (fun W' f => holds_below HRw.out ((HW.out.trans D2.out.fr.1).trans f.1))).mono ?_; rintro e w3 ⟨rfl, hj, hf⟩; have K3 : Hid (Wk w.heap.size J W w3 W.heap.size (.func (.func 76) #[] #[cap]) (.func (.func 77) #[] #[cap]) (.func (.func 78) #[] #[cap]) (.func (.func 79) #[] #[cap]) ⟨qb, 0, none⟩ 121 (s.B (s.N (s.T st b.key 1 64) b.ex 2147483648) b.row 0 524288)) := D2.out.step hf hj (by decide); obtain ⟨b30, b31, b32, b33, b34⟩ := K3.out.bx.cells; clear hj hf)
    )
  clear b20 b21 b22 b23 b24 b30 b31 b32 b33 b34 D2
  go_wp2_with fail
  obtain ⟨b30, b31, b32, b33, b34⟩ := K3.out.bx.cells
  have m3 : _ = some (Value.slice wa b.ws.length wd) := (K3.out.fr.bk HQ.out (by decide)).cell 3
  have D3 : Hid (Wk w.heap.size J W w3.drew W.heap.size (.func (.func 76) #[] #[cap]) (.func (.func 77) #[] #[cap]) (.func (.func 78) #[] #[cap]) (.func (.func 79) #[] #[cap]) ⟨qb, 0, none⟩ 121 (_)) := K3.out.drew HC.out.below (HC.out.low _ _ K3.out.st) (by decide)
  go_region_held3 (fun w' => w'.cell? ⟨W.heap.size, 3, none⟩ = some (.func (.func 79) #[] #[cap]) ∧ w'.cell? ⟨W.heap.size + 1, 0, none⟩ = some (.pointer (some ⟨qb, 0, none⟩)) ∧ w'.cell? ⟨qb, 3, none⟩ = some (.slice wa b.ws.length wd)) (go_keep) (first
    | (go_at_call 79; refine (HC.out.count _ _ (b.ws.length : Int) _ _ D3.out.st HG.out.g4).mono ?_; rintro e w4 ⟨rfl, hj, hf⟩; have K4 : Hid (Wk w.heap.size J W w4 W.heap.size (.func (.func 76) #[] #[cap]) (.func (.func 77) #[] #[cap]) (.func (.func 78) #[] #[cap]) (.func (.func 79) #[] #[cap]) ⟨qb, 0, none⟩ 121 (s.C (s.B (s.N (s.T st b.key 1 64) b.ex 2147483648) b.row 0 524288) (b.ws.length : Int) 4)) := D3.out.step hf hj (by decide); obtain ⟨b40, b41, b42, b43, b44⟩ := K4.out.bx.cells; have m4 : _ = some (Value.slice wa b.ws.length wd) := (K4.out.fr.bk HQ.out (by decide)).cell 3; clear hj hf)
    )
  clear b30 b31 b32 b33 b34 b40 b41 b42 b43 b44 D3 m3
  go_wp2_with fail
  clear K0 K1 K2 K3
  go_loopw [37] (fun i wr => ∃ j : Nat, j ≤ b.ws.length ∧ i = .int .i64 (j : Int) ∧ Hid (Wk w.heap.size J W wr W.heap.size (.func (.func 76) #[] #[cap]) (.func (.func 77) #[] #[cap]) (.func (.func 78) #[] #[cap]) (.func (.func 79) #[] #[cap]) ⟨qb, 0, none⟩ 121 (byW s (by0 s st b) (b.ws.take j)))) (fun i _ => b.ws.length - (intOf i).toNat)
  case atStart => exact ⟨0, Nat.zero_le _, rfl, K4⟩
  case round =>
    obtain ⟨j, hj, rfl, K6⟩ := hrel
    by_cases hlt : j < b.ws.length
    · obtain ⟨Be, oe, ev, rfl, h5, hl⟩ := HWR.out j _ (List.getElem?_eq_getElem hlt)
      have HX : Hid (At5 w Be (oe + j * 5) (.string b.ws[j].br) (.string b.ws[j].fk) (.int .i64 b.ws[j].kp) (.int .i64 b.ws[j].ta) ev ∧ LR w ev b.ws[j].ev) := ⟨h5, hl⟩
      have hjl : (j : Int) < (b.ws.length : Int) := by omega
      have HWr : Hid (wrap64 ((j : Int) + 1) = ((j + 1 : Nat) : Int)) := wr1 hlt HN.out
      have HGE : Hid (GW s (byW s (by0 s st b) (b.ws.take j)) b.ws[j]) := HG.out.g5 j hlt
      have HMo : Hid (byW s (by0 s st b) (b.ws.take (j + 1)) = wyW s (byW s (by0 s st b) (b.ws.take j)) b.ws[j]) := byW_more s _ _ j hlt
      obtain ⟨b60, b61, b62, b63, b64⟩ := K6.out.bx.cells
      have m6 : _ = some (Value.slice (some ⟨Be, oe, none⟩) b.ws.length wd) := (K6.out.fr.bk HQ.out (by decide)).cell 3
      have D6 : Hid (Wk w.heap.size J W wr.drew W.heap.size (.func (.func 76) #[] #[cap]) (.func (.func 77) #[] #[cap]) (.func (.func 78) #[] #[cap]) (.func (.func 79) #[] #[cap]) ⟨qb, 0, none⟩ 121 (_)) := K6.out.drew HC.out.below (HC.out.low _ _ K6.out.st) (by decide)
      clear h5 hl
      go_wp2_with fail
      go_region_held3 (fun w' => w'.cell? ⟨W.heap.size, 0, none⟩ = some (.func (.func 76) #[] #[cap]) ∧ w'.cell? ⟨W.heap.size, 1, none⟩ = some (.func (.func 77) #[] #[cap]) ∧ w'.cell? ⟨W.heap.size, 2, none⟩ = some (.func (.func 78) #[] #[cap]) ∧ w'.cell? ⟨W.heap.size, 3, none⟩ = some (.func (.func 79) #[] #[cap]) ∧ w'.cell? ⟨W.heap.size + 1, 0, none⟩ = some (.pointer (some ⟨qb, 0, none⟩)) ∧ w'.cell? ⟨qb, 3, none⟩ = some (.slice (some ⟨Be, oe, none⟩) b.ws.length wd)) (go_keep) (first
        | (go_at_call 102; refine (HWW.out b.ws[j] Be (oe + j * 5) ev _ _ HX.out.1 HX.out.2 (HW.out.trans D6.out.fr.1) D6.out.st HGE.out).mono ?_; rintro e w7 ⟨rfl, hj7, hf⟩; have K7 : Hid (Wk w.heap.size J W w7 W.heap.size (.func (.func 76) #[] #[cap]) (.func (.func 77) #[] #[cap]) (.func (.func 78) #[] #[cap]) (.func (.func 79) #[] #[cap]) ⟨qb, 0, none⟩ 121 (wyW s (byW s (by0 s st b) (b.ws.take j)) b.ws[j])) := D6.out.step hf hj7 (by decide); obtain ⟨b70, b71, b72, b73, b74⟩ := K7.out.bx.cells; have m7 : _ = some (Value.slice (some ⟨Be, oe, none⟩) b.ws.length wd) := (K7.out.fr.bk HQ.out (by decide)).cell 3; clear hj7 hf)
        )
      go_wp2_with fail
      refine ⟨⟨j + 1, hlt, by rw [HWr.out], ?_⟩, meas hlt HWr.out⟩
      show Hid _
      rw [HMo.out]
      exact K7
    · obtain rfl : j = b.ws.length := by omega
      go_wp2_with fail
      first | go_end0 | refine bodyPost_ret (results_none rfl _ _ _) rfl ?_
      refine ⟨rfl, ?_, K6.out.fr⟩
      have := K6.out.st
      rw [List.take_length] at this
      exact this
end Go.Proofs.Ytkaaddahegkmgaa
