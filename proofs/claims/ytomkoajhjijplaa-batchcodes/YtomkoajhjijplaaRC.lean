/- The contract of the reference's Encode. -/
import Derived.Test.YtomkoajhjijplaaRB
import Derived.Test.YtomkoajhjijplaaBK
namespace Go.Proofs.Ytomkoajhjijplaa
open Go.ChangeShapes Go.WideShapes Go.ChangeAt Go.RowKit
/-- What a writer of the reference leaves. -/
def HP (w : World) (l : List UInt8) (e : Ending) (w' : World) : Prop := ∃ p n c, e = .returned (.slice p n c) ∧ Lib.HoldsBytes w' (.slice p n c) l ∧ Below w.heap.size w w'
theorem rb_hp {w : World} {l : List UInt8} {e : Ending} {w' : World} (h : RB w l e w') : HP w l e w' := by
  obtain ⟨v, he, ho, hb⟩ := h
  obtain ⟨p, n, c, rfl⟩ := own_slice ho
  exact ⟨p, n, c, he, own_holds ho, hb⟩
theorem rT_calls (v : Value) (l : List UInt8) (x : ByteArray) (w : World) (hv : Lib.HoldsBytes w v l) (g : sE.gT l x) : Calls Try.prog 26 #[v, .string x] w (HP w (l ++ (enc x.size ++ x.data.toList))) := by
  have g1 : l.length ≤ 549755813888 := g.1
  have g2 : x.size ≤ 1073741824 := g.2
  have := refText_calls v l x w hv (by omega) (by omega)
  rw [List.append_assoc] at this
  exact this.mono fun _ _ h => rb_hp h
theorem rN_calls (v : Value) (l : List UInt8) (n : Int) (w : World) (hv : Lib.HoldsBytes w v l) (g : sE.gN l n) : Calls Try.prog 27 #[v, .int .i64 n] w (HP w (l ++ enc n.toNat)) := by
  have g1 : l.length ≤ 549755813888 := g.1
  have g2 : n < 9223372036854775808 := g.2
  exact (refNum_calls v l n g2 w hv (by omega)).mono fun _ _ h => rb_hp h
theorem conv_row {w : World} {p : Option Addr} {n c : Nat} {l : List UInt8} (h : Lib.HoldsBytes w (.slice p n c) l) : (convert 22 9 (.slice p n c)).run Try.prog w = .ok (.string (str l)) w := by
  obtain ⟨p', c', he, q⟩ := h
  cases he
  have := conv_string w p c l ⟨p, c, rfl, q⟩
  rwa [str_nums] at this
theorem str_B (l : List UInt8) : enc (str l).size ++ (str l).data.toList = enc l.length ++ l := by
  have h1 : (str l).size = l.length := by simp [str, ByteArray.size]
  have h2 : (str l).data.toList = l := by simp [str]
  rw [h1, h2]
set_option maxHeartbeats 4000000 in
set_option maxRecDepth 100000 in
theorem rencode_calls (v : Value) (b : Bt) (w : World) (h : BIs w v b) : Calls Try.prog 9 #[v] w (EncP w b) := by
  have HK : Hid (∀ W, Below w.heap.size w W → Calls Try.prog 13 #[v] W fun x w' => x = .returned (.int .i64 (ckE b)) ∧ Below W.heap.size W w') := fun W hB => rcheck_calls v b W (h.below hB)
  obtain ⟨rp, rn, rc, wa, wd, rfl, hr, hn, hw⟩ := h
  have HRw : Hid (Lib.HoldsBytes w (.slice rp rn rc) b.row) := hr
  have HWR : Hid (WR w wa b.ws) := hw
  have HG : Hid (mayB b = true → GB sE [] b ∧ b.ws.length ≤ 4 ∧ ∀ t ∈ b.ws, t.ev.length ≤ 120) := fun hm => ⟨gb_encode ((mayB_iff b).1 hm), ((mayB_iff b).1 hm).n1, fun t ht => (((mayB_iff b).1 hm).ww t ht).e1⟩
  have HE : Hid (∀ x w', EncP w b x w' ↔ ∃ p n c, x = .returned (.tuple #[.slice p n c, .int .i64 (ckE b)]) ∧ Lib.HoldsBytes w' (.slice p n c) (if mayB b = true then encB b else []) ∧ Below w.heap.size w w') := fun _ _ => Iff.rfl
  have HM : Hid (ckE b = if mayB b = true then 0 else 1) := rfl
  have HEB : Hid (encB b = byW sE (by0 sE [] b) b.ws) := rfl
  generalize EncP w b = EP at HE ⊢
  generalize ckE b = E at HM HK HE
  generalize mayB b = mb at HM HG HE
  obtain ⟨N, hN⟩ : ∃ N, N = b.ws.length := ⟨_, rfl⟩
  have HN : Hid (N = b.ws.length) := hN
  rw [← hN] at HK ⊢
  clear hr hn hw hN
  go_enter Try.func9, Try.ntmps9
  go_wp2_with fail
  have q0 := Bk.new w #[.string b.key, .int .i64 b.ex, .slice rp rn rc, .slice wa N wd] 25
  refine (HK.out _ (bel1 _ _)).mono ?_
  rintro e w1 ⟨rfl, hb1⟩
  have Q1 : Hid (Bk w1 w.heap.size #[.string b.key, .int .i64 b.ex, .slice rp rn rc, .slice wa N wd] 25) := q0.below hb1
  have B1 : Hid (Below w.heap.size w w1) := bel2 (bel1 _ _) hb1
  clear q0 hb1 HK
  cases mb with
  | false =>
    obtain rfl : E = 1 := HM.out
    go_wp2_with fail
    exact (HE.out _ _).2 ⟨none, 0, 0, rfl, holds_nil _, B1.out⟩
  | true =>
    obtain rfl : E = 0 := HM.out
    have HGB : Hid (GB sE [] b ∧ N ≤ 4 ∧ ∀ t ∈ b.ws, t.ev.length ≤ 120) := by have := HG.out (by trivial); rw [HN.out]; exact this
    clear HG HM
    have x0 : w1.cell? ⟨w.heap.size, 0, none⟩ = some (Value.string b.key) := Q1.out.cell 0
    have x1 : w1.cell? ⟨w.heap.size, 1, none⟩ = some (Value.int .i64 b.ex) := Q1.out.cell 1
    have x2 : w1.cell? ⟨w.heap.size, 2, none⟩ = some (Value.slice rp rn rc) := Q1.out.cell 2
    have D1 : Hid (Below w.heap.size w w1.drew) := B1.out.drew
    have cv0 := conv_row (holds_below HRw.out D1.out)
    have C1 : Hid (Calls Try.prog 26 #[.slice none 0 0, .string b.key] w1.drew (HP w1.drew (sE.T [] b.key 1 64))) := rT_calls _ [] b.key _ (holds_nil _) HGB.out.1.g1
    have C2 : Hid (∀ W v, Lib.HoldsBytes W v (sE.T [] b.key 1 64) → Calls Try.prog 27 #[v, .int .i64 b.ex] W (HP W (sE.N (sE.T [] b.key 1 64) b.ex 2147483648))) := fun W v h => rN_calls v _ b.ex W h HGB.out.1.g2
    have C3 : Hid (∀ W v, Lib.HoldsBytes W v (sE.N (sE.T [] b.key 1 64) b.ex 2147483648) → Calls Try.prog 26 #[v, .string (str b.row)] W (HP W (sE.B (sE.N (sE.T [] b.key 1 64) b.ex 2147483648) b.row 0 524288))) := fun W v h => by
      have := rT_calls v _ (str b.row) W h (by have := HGB.out.1.g3; exact ⟨this.1, by have h1 : (str b.row).size = b.row.length := (by simp [str, ByteArray.size]); rw [h1]; exact this.2⟩)
      rw [str_B] at this
      exact this
    have C4 : Hid (∀ W v, Lib.HoldsBytes W v (sE.B (sE.N (sE.T [] b.key 1 64) b.ex 2147483648) b.row 0 524288) → Calls Try.prog 27 #[v, .int .i64 (N : Int)] W (HP W (by0 sE [] b))) := fun W v h => by
      rw [HN.out]
      exact rN_calls v _ (b.ws.length : Int) W h HGB.out.1.g4
    generalize sE.T [] b.key 1 64 = o1 at C1 C2 C3 C4
    generalize sE.N o1 b.ex 2147483648 = o2 at C2 C3 C4
    generalize sE.B o2 b.row 0 524288 = o3 at C3 C4
    go_wp2_with fail
    go_cut [4] (fun o4 wc => ∃ p n c, o4 = .slice p n c ∧ Hid (Lib.HoldsBytes wc (.slice p n c) o3) ∧ Hid (Below w1.heap.size w1 wc))
    case first =>
      first | (go_region_held (fun w' => w'.cell? ⟨w.heap.size, 0, none⟩ = some (.string b.key) ∧ w'.cell? ⟨w.heap.size, 1, none⟩ = some (.int .i64 b.ex) ∧ w'.cell? ⟨w.heap.size, 2, none⟩ = some (.slice rp rn rc)) (go_keep) (first | (go_at_call_of 26 (Value.string b.key); refine C1.out.mono ?_; rintro e w2 ⟨p2, n2, c2, rfl, hh2, hb2⟩; have H2 : Hid (Lib.HoldsBytes w2 (.slice p2 n2 c2) o1) := hh2; have B2 : Hid (Below w1.heap.size w1 w2) := bel2 (Below.refl _ w1).drew hb2; have cv2 := conv_row (holds_below HRw.out (bel2 B1.out B2.out)); have y0 : w2.cell? ⟨w.heap.size, 0, none⟩ = some (Value.string b.key) := (Q1.out.below B2.out).cell 0; have y1 : w2.cell? ⟨w.heap.size, 1, none⟩ = some (Value.int .i64 b.ex) := (Q1.out.below B2.out).cell 1; have y2 : w2.cell? ⟨w.heap.size, 2, none⟩ = some (Value.slice rp rn rc) := (Q1.out.below B2.out).cell 2; clear hh2 hb2) | (go_at_call 27; refine (C2.out _ _ H2.out).mono ?_; rintro e w3 ⟨p3, n3, c3, rfl, hh3, hb3⟩; have H3 : Hid (Lib.HoldsBytes w3 (.slice p3 n3 c3) o2) := hh3; have B3 : Hid (Below w1.heap.size w1 w3) := bel2 B2.out hb3; have cv3 := conv_row (holds_below HRw.out (bel2 B1.out B3.out)); have z0 : w3.cell? ⟨w.heap.size, 0, none⟩ = some (Value.string b.key) := (Q1.out.below B3.out).cell 0; have z1 : w3.cell? ⟨w.heap.size, 1, none⟩ = some (Value.int .i64 b.ex) := (Q1.out.below B3.out).cell 1; have z2 : w3.cell? ⟨w.heap.size, 2, none⟩ = some (Value.slice rp rn rc) := (Q1.out.below B3.out).cell 2; clear hh3 hb3) | (go_at_call 26; refine (C3.out _ _ H3.out).mono ?_; rintro e w4 ⟨p4, n4, c4, rfl, hh4, hb4⟩; have H4 : Hid (Lib.HoldsBytes w4 (.slice p4 n4 c4) o3) := hh4; have B4 : Hid (Below w1.heap.size w1 w4) := bel2 B3.out hb4; have v0 : w4.cell? ⟨w.heap.size, 0, none⟩ = some (Value.string b.key) := (Q1.out.below B4.out).cell 0; have v1 : w4.cell? ⟨w.heap.size, 1, none⟩ = some (Value.int .i64 b.ex) := (Q1.out.below B4.out).cell 1; have v2 : w4.cell? ⟨w.heap.size, 2, none⟩ = some (Value.slice rp rn rc) := (Q1.out.below B4.out).cell 2; clear hh4 hb4))) | fail
      all_goals go_wp2_with fail
      all_goals go_meet
      all_goals exact ⟨_, _, _, rfl, H4, B4⟩
    case rest =>
      obtain ⟨p4, n4, c4, rfl, H4, B4⟩ := hcut
      clear C1 C2 C3 x0 x1 x2 cv0 D1
      have x3 : wc.cell? ⟨w.heap.size, 3, none⟩ = some (Value.slice wa N wd) := (Q1.out.below B4.out).cell 3
      have C4' : Hid (Calls Try.prog 27 _ wc _) := C4.out wc _ H4.out
      clear C4
      go_wp2_with fail
      refine C4'.out.mono ?_
      rintro e w5 ⟨p5, n5, c5, rfl, hh5, hb5⟩
      have H5 : Hid (Lib.HoldsBytes w5 (.slice p5 n5 c5) (by0 sE [] b)) := hh5
      have B5 : Hid (Below w1.heap.size w1 w5) := bel2 B4.out hb5
      clear hh5 hb5 x3 C4'
      go_wp2_with fail
      have HW1 : Hid (Below w.heap.size w w1) := B1
      clear B4 H4
      obtain ⟨S0, hS0⟩ : ∃ S0, S0 = by0 sE [] b := ⟨_, rfl⟩
      rw [← hS0] at H5 HEB
      have HG5 : Hid (∀ j (hj : j < b.ws.length), GW sE (byW sE S0 (b.ws.take j)) b.ws[j]) := by rw [hS0]; exact HGB.out.1.g5
      clear hS0
      go_loopw [4, 5] (fun o i wr => ∃ (j : Nat) (p : Option Addr) (n c : Nat), j ≤ N ∧ i = .int .i64 (j : Int) ∧ o = .slice p n c ∧ Hid (Lib.HoldsBytes wr (.slice p n c) (byW sE S0 (b.ws.take j))) ∧ Hid (Below w1.heap.size w1 wr)) (fun _ i _ => N - (intOf i).toNat)
      case atStart => exact ⟨0, p5, n5, c5, Nat.zero_le _, rfl, rfl, H5, B5⟩
      case round =>
        obtain ⟨j, pj, nj, cj, hj, rfl, rfl, HO, HB⟩ := hrel
        have x3 : wr.cell? ⟨w.heap.size, 3, none⟩ = some (Value.slice wa N wd) := (Q1.out.below HB.out).cell 3
        by_cases hlt : j < N
        · have HJ : Hid (j < b.ws.length) := by have := HN.out; show _ < _; omega
          obtain ⟨t, ht⟩ : ∃ t, t = b.ws[j]'HJ.out := ⟨_, rfl⟩
          obtain ⟨B, o, ev, rfl, h5, hl⟩ := HWR.out j _ (List.getElem?_eq_getElem HJ.out)
          have GWj := HG5.out j HJ.out
          have hev : t.ev.length ≤ 120 := by rw [ht]; exact HGB.out.2.2 _ (List.getElem_mem HJ.out)
          have HMo : Hid (byW sE S0 (b.ws.take (j + 1)) = wyE sE (wy0 sE (byW sE S0 (b.ws.take j)) t) t.ev) := by rw [ht]; exact byW_more sE S0 b.ws j HJ.out
          rw [← ht] at h5 hl GWj
          clear ht
          generalize byW sE S0 (b.ws.take j) = st at HO GWj HMo
          obtain ⟨e0, e1, e2, e3, e4⟩ := h5.below (bel2 HW1.out HB.out)
          obtain ⟨ea, ec, rfl, hel, hrow⟩ := hl
          have HR : Hid (∀ (i : Nat) p, t.ev[i]? = some p → ∃ B o x, ea = some ⟨B, o, none⟩ ∧ w.cell? ⟨B, o + i, none⟩ = some x ∧ Lib.HoldsBytes w x p) := hrow
          obtain ⟨M, hM⟩ : ∃ M, M = t.ev.length := ⟨_, rfl⟩
          have HM : Hid (M = t.ev.length ∧ M ≤ 120) := ⟨hM, by omega⟩
          have HGW : Hid (GW sE st t) := GWj
          rw [← hM] at e4
          have hMb : (M : Int) ≤ 120 := by omega
          have hjl : (j : Int) < (N : Int) := by omega
          have HNb : Hid (N ≤ 4) := HGB.out.2.1
          have K6 : Hid (Bk (wr.alloc (.cells #[.string t.br, .string t.fk, .int .i64 t.kp, .int .i64 t.ta, .slice ea M ec] 42)) wr.heap.size #[.string t.br, .string t.fk, .int .i64 t.kp, .int .i64 t.ta, .slice ea M ec] 42) := Bk.new wr _ _
          have B6 : Hid (Below w1.heap.size w1 (wr.alloc (.cells #[.string t.br, .string t.fk, .int .i64 t.kp, .int .i64 t.ta, .slice ea M ec] 42))) := bel2 HB.out (bel1 _ _)
          have H6 : Hid (Lib.HoldsBytes (wr.alloc (.cells #[.string t.br, .string t.fk, .int .i64 t.kp, .int .i64 t.ta, .slice ea M ec] 42)) (.slice pj nj cj) st) := holds_below HO.out (bel1 _ _)
          obtain ⟨W6, hW6⟩ : ∃ W6, W6 = wr.alloc (.cells #[.string t.br, .string t.fk, .int .i64 t.kp, .int .i64 t.ta, .slice ea M ec] 42) := ⟨_, rfl⟩
          obtain ⟨q6, hq6⟩ : ∃ q6, q6 = wr.heap.size := ⟨_, rfl⟩
          rw [← hW6] at K6 B6 H6
          rw [← hq6] at K6
          have HW6 : Hid (W6 = _) := hW6
          have HQ6 : Hid (q6 = wr.heap.size) := hq6
          clear h5 hrow hel hev GWj hM hW6 hq6
          go_upto_region 9 with fail
          rw [← HW6.out, ← HQ6.out]
          clear e0 e1 e2 e3 e4 x3
          have y0 : W6.cell? ⟨q6, 0, none⟩ = some (Value.string t.br) := K6.out.cell 0
          have y1 : W6.cell? ⟨q6, 1, none⟩ = some (Value.string t.fk) := K6.out.cell 1
          have C1 : Hid (Calls Try.prog 26 #[.slice pj nj cj, .string t.br] W6.drew (HP W6.drew (sE.T st t.br 1 64))) := rT_calls _ st t.br _ (holds_below H6.out (Below.refl _ W6).drew) HGW.out.g1
          have C2 : Hid (∀ W v, Lib.HoldsBytes W v (sE.T st t.br 1 64) → Calls Try.prog 26 #[v, .string t.fk] W (HP W (sE.T (sE.T st t.br 1 64) t.fk 0 64))) := fun W v h => rT_calls v _ t.fk W h HGW.out.g2
          have C3 : Hid (∀ W v, Lib.HoldsBytes W v (sE.T (sE.T st t.br 1 64) t.fk 0 64) → Calls Try.prog 27 #[v, .int .i64 t.kp] W (HP W (sE.N (sE.T (sE.T st t.br 1 64) t.fk 0 64) t.kp 120))) := fun W v h => rN_calls v _ t.kp W h HGW.out.g3
          have C4 : Hid (∀ W v, Lib.HoldsBytes W v (sE.N (sE.T (sE.T st t.br 1 64) t.fk 0 64) t.kp 120) → Calls Try.prog 27 #[v, .int .i64 t.ta] W (HP W (sE.N (sE.N (sE.T (sE.T st t.br 1 64) t.fk 0 64) t.kp 120) t.ta 120))) := fun W v h => rN_calls v _ t.ta W h HGW.out.g4
          have C5 : Hid (∀ W v, Lib.HoldsBytes W v (sE.N (sE.N (sE.T (sE.T st t.br 1 64) t.fk 0 64) t.kp 120) t.ta 120) → Calls Try.prog 27 #[v, .int .i64 (M : Int)] W (HP W (wy0 sE st t))) := fun W v h => by rw [HM.out.1]; exact rN_calls v _ (t.ev.length : Int) W h HGW.out.g5
          generalize sE.T st t.br 1 64 = o1 at C1 C2 C3 C4 C5
          generalize sE.T o1 t.fk 0 64 = o2 at C2 C3 C4 C5
          generalize sE.N o2 t.kp 120 = o3 at C3 C4 C5
          generalize sE.N o3 t.ta 120 = o4 at C4 C5
          go_region_held3 (fun w' => w'.cell? ⟨q6, 0, none⟩ = some (.string t.br) ∧ w'.cell? ⟨q6, 1, none⟩ = some (.string t.fk)) (go_keep) (first
            | (go_at_call_of 26 (Value.string t.br); refine C1.out.mono ?_; rintro e w7 ⟨p7, n7, c7, rfl, hh, hb⟩; have H7 : Hid (Lib.HoldsBytes w7 (.slice p7 n7 c7) o1) := hh; have B7 : Hid (Below W6.heap.size W6 w7) := bel2 (Below.refl _ W6).drew hb; have a0 : w7.cell? ⟨q6, 0, none⟩ = some (Value.string t.br) := (K6.out.below B7.out).cell 0; have a1 : w7.cell? ⟨q6, 1, none⟩ = some (Value.string t.fk) := (K6.out.below B7.out).cell 1; clear hh hb)
            | (go_at_call 26; refine (C2.out _ _ H7.out).mono ?_; rintro e w8 ⟨p8, n8, c8, rfl, hh, hb⟩; have H8 : Hid (Lib.HoldsBytes w8 (.slice p8 n8 c8) o2) := hh; have B8 : Hid (Below W6.heap.size W6 w8) := bel2 B7.out hb; have d0 : w8.cell? ⟨q6, 0, none⟩ = some (Value.string t.br) := (K6.out.below B8.out).cell 0; have d1 : w8.cell? ⟨q6, 1, none⟩ = some (Value.string t.fk) := (K6.out.below B8.out).cell 1; clear hh hb)
            )
          clear y0 y1 a0 a1 d0 d1
          go_wp2_with fail
          have y2 : w8.cell? ⟨q6, 2, none⟩ = some (Value.int .i64 t.kp) := (K6.out.below B8.out).cell 2
          have y3 : w8.cell? ⟨q6, 3, none⟩ = some (Value.int .i64 t.ta) := (K6.out.below B8.out).cell 3
          have y4 : w8.cell? ⟨q6, 4, none⟩ = some (Value.slice ea M ec) := (K6.out.below B8.out).cell 4
          have C3' : Hid (Calls Try.prog 27 #[.slice p8 n8 c8, .int .i64 t.kp] w8.drew (HP w8.drew o3)) := C3.out _ _ (holds_below H8.out (Below.refl _ w8).drew)
          go_region_held3 (fun w' => w'.cell? ⟨q6, 2, none⟩ = some (.int .i64 t.kp) ∧ w'.cell? ⟨q6, 3, none⟩ = some (.int .i64 t.ta) ∧ w'.cell? ⟨q6, 4, none⟩ = some (.slice ea M ec)) (go_keep) (first
            | (go_at_call_of 27 (Value.int .i64 t.kp); refine C3'.out.mono ?_; rintro e w9 ⟨p9, n9, c9, rfl, hh, hb⟩; have H9 : Hid (Lib.HoldsBytes w9 (.slice p9 n9 c9) o3) := hh; have B9 : Hid (Below W6.heap.size W6 w9) := bel2 B8.out (bel2 (Below.refl _ w8).drew hb); have a2 : w9.cell? ⟨q6, 2, none⟩ = some (Value.int .i64 t.kp) := (K6.out.below B9.out).cell 2; have a3 : w9.cell? ⟨q6, 3, none⟩ = some (Value.int .i64 t.ta) := (K6.out.below B9.out).cell 3; have a4 : w9.cell? ⟨q6, 4, none⟩ = some (Value.slice ea M ec) := (K6.out.below B9.out).cell 4; clear hh hb)
            | (go_at_call_of 27 (Value.int .i64 t.ta); refine (C4.out _ _ H9.out).mono ?_; rintro e w10 ⟨p10, n10, c10, rfl, hh, hb⟩; have H10 : Hid (Lib.HoldsBytes w10 (.slice p10 n10 c10) o4) := hh; have B10 : Hid (Below W6.heap.size W6 w10) := bel2 B9.out hb; have d2 : w10.cell? ⟨q6, 2, none⟩ = some (Value.int .i64 t.kp) := (K6.out.below B10.out).cell 2; have d3 : w10.cell? ⟨q6, 3, none⟩ = some (Value.int .i64 t.ta) := (K6.out.below B10.out).cell 3; have d4 : w10.cell? ⟨q6, 4, none⟩ = some (Value.slice ea M ec) := (K6.out.below B10.out).cell 4; clear hh hb)
            | (go_at_call 27; refine (C5.out _ _ H10.out).mono ?_; rintro e w11 ⟨p11, n11, c11, rfl, hh, hb⟩; have H11 : Hid (Lib.HoldsBytes w11 (.slice p11 n11 c11) (wy0 sE st t)) := hh; have B11 : Hid (Below W6.heap.size W6 w11) := bel2 B10.out hb; have f2 : w11.cell? ⟨q6, 2, none⟩ = some (Value.int .i64 t.kp) := (K6.out.below B11.out).cell 2; have f3 : w11.cell? ⟨q6, 3, none⟩ = some (Value.int .i64 t.ta) := (K6.out.below B11.out).cell 3; have f4 : w11.cell? ⟨q6, 4, none⟩ = some (Value.slice ea M ec) := (K6.out.below B11.out).cell 4; clear hh hb)
            )
          clear y2 y3 y4 a2 a3 a4 d2 d3 d4 f2 f3 f4 C1 C2 C3 C3' C4 C5
          go_wp2_with fail
          generalize hS1 : wy0 sE st t = S1 at H11 HMo
          have HG6 : Hid (∀ m (hm : m < t.ev.length), sE.gB (wyE sE S1 (t.ev.take m)) t.ev[m]) := by rw [← hS1]; exact HGW.out.g6
          clear hS1
          go_loopw [4, 7] (fun o i wr2 => ∃ (m : Nat) (p : Option Addr) (n c : Nat), m ≤ M ∧ i = .int .i64 (m : Int) ∧ o = .slice p n c ∧ Hid (Lib.HoldsBytes wr2 (.slice p n c) (wyE sE S1 (t.ev.take m))) ∧ Hid (Below W6.heap.size W6 wr2)) (fun _ i _ => M - (intOf i).toNat)
          case atStart => exact ⟨0, p11, n11, c11, Nat.zero_le _, rfl, rfl, H11, B11⟩
          case round =>
            obtain ⟨m, pm, nm, cm, hm, rfl, rfl, HOm, HBm⟩ := hrel
            have x4 : wr.cell? ⟨q6, 4, none⟩ = some (Value.slice ea M ec) := (K6.out.below HBm.out).cell 4
            by_cases hlt2 : m < M
            · have HJm : Hid (m < t.ev.length) := by have := HM.out.1; show _ < _; omega
              obtain ⟨B', o', x, rfl, hx, hh⟩ := HR.out m _ (List.getElem?_eq_getElem HJm.out)
              have hbm := bel2 HW1.out (bel2 B6.out HBm.out)
              have hx2 := cell_below hx hbm
              obtain ⟨xp, xn, xc, rfl⟩ : ∃ p n c, x = .slice p n c := by obtain ⟨p, c, rfl, _⟩ := hh; exact ⟨_, _, _, rfl⟩
              have cvm := conv_row (holds_below hh hbm)
              have TC : Hid (Calls Try.prog 26 #[.slice pm nm cm, .string (str (t.ev[m]'HJm.out))] wr (HP wr (wyE sE S1 (t.ev.take (m + 1))))) := by
                have g := HG6.out m HJm.out
                have h1 : (str (t.ev[m]'HJm.out)).size = (t.ev[m]'HJm.out).length := by simp [str, ByteArray.size]
                have := rT_calls (.slice pm nm cm) _ (str (t.ev[m]'HJm.out)) wr HOm.out ⟨g.1, by rw [h1]; exact g.2⟩
                rw [str_B] at this
                rw [wyE_more sE S1 t.ev m HJm.out]
                exact this
              have hml : (m : Int) < (M : Int) := by omega
              generalize str (t.ev[m]'HJm.out) = sm at TC cvm
              clear hx hh hbm
              go_wp2_with fail
              refine TC.out.mono ?_
              rintro e w12 ⟨p12, n12, c12, rfl, hh, hb⟩
              have H12 : Hid (Lib.HoldsBytes w12 (.slice p12 n12 c12) (wyE sE S1 (t.ev.take (m + 1)))) := hh
              have B12 : Hid (Below W6.heap.size W6 w12) := bel2 HBm.out hb
              clear hh hb cvm hx2 x4
              go_wp2_with fail
              exact ⟨⟨m + 1, p12, n12, c12, hlt2, by go_num, rfl, H12, B12⟩, by simp only [intOf]; omega⟩
            · obtain rfl : m = M := by omega
              have H13 : Hid (Lib.HoldsBytes wr (.slice pm nm cm) (byW sE S0 (b.ws.take (j + 1)))) := by
                have h1 := HOm.out
                rw [HM.out.1, List.take_length] at h1
                rw [HMo.out]
                exact h1
              have hN4 : (N : Int) ≤ 4 := by have := HNb.out; omega
              go_wp2_with fail
              exact ⟨⟨j + 1, pm, nm, cm, hlt, by go_num, rfl, H13, bel2 B6.out HBm.out⟩, by simp only [intOf]; omega⟩
        · obtain rfl : j = N := by omega
          go_wp2_with fail
          refine (HE.out _ _).2 ⟨pj, nj, cj, rfl, ?_, bel2 HW1.out HB.out⟩
          have h1 := HO.out
          rw [HN.out, List.take_length] at h1
          rw [if_pos trivial, HEB.out]
          exact h1
end Go.Proofs.Ytomkoajhjijplaa
