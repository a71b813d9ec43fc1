/- The contracts of decodeAll. -/
import Derived.Test.YtkaaddahegkmgaaGreatSG
namespace Go.Proofs.YtkaaddahegkmgaaGreat
open Go.ChangeShapes Go.WideShapes Go.ChangeAt Go.RowKit
set_option maxHeartbeats 8000000 in
set_option maxRecDepth 100000 in
theorem decAllRow_calls (g h : Nat) (l : List UInt8) (e : Int) (w : World) (st : St w g h l e) (hh : h < w.heap.size) :
    Calls Tryz.prog 16 #[.pointer (some ⟨g, 0, none⟩)] w fun x w' => ∃ v, x = .returned v ∧ Sl rowE (fun q => w.heap.size ≤ q) w' v (rdN 10000 rdRw l e).1 ∧ St w' g h (rdN 10000 rdRw l e).2.1 (rdN 10000 rdRw l e).2.2 ∧ KB g w w' := by
  obtain ⟨q2, hq2⟩ : ∃ q, sNum 10000 l e = q := ⟨_, rfl⟩
  have hlo : 0 ≤ q2.1 := by rw [← hq2]; exact sNum_nat _ _ _
  have hhi : q2.1 ≤ 10000 := by rw [← hq2]; exact num_top (by decide) _ _
  obtain ⟨n, hn⟩ : ∃ n : Nat, q2.1 = (n : Int) := ⟨q2.1.toNat, by omega⟩
  have hrd : rdN 10000 rdRw l e = rdL rdRw n q2.2.1 q2.2.2 := by
    unfold rdN
    rw [hq2, hn, Int.toNat_natCast]
  rw [hrd]
  have T2 : Hid (Calls Tryz.prog 40 #[.pointer (some ⟨g, 0, none⟩), .int .i64 10000] w (Rs w g h (.int .i64 (n : Int)) q2.2.1 q2.2.2)) := by rw [← hn, ← hq2]; exact num_st w g h _ _ _ st
  have hn1 : n ≤ 10000 := by omega
  obtain ⟨n2, l2, e2⟩ := q2
  dsimp only at T2 ⊢
  have HN0 : Hid (h < w.heap.size ∧ n ≤ 10000 ∧ g < w.heap.size) := ⟨hh, hn1, st.lt⟩
  have mk := make_rwR n hn1
  clear hrd hq2 hn hlo hhi st hh hn1
  go_enter Tryz.func16, Tryz.ntmps16
  go_wp2_with fail
  refine T2.out.mono ?_
  rintro x w3 ⟨rfl, st3, kb3⟩
  have hbA := bel1 w3 (.cells (zeR n) 47)
  have mk4 : Mk rowE (w3.heap.size + 1) w3.heap.size (w3.alloc (.cells (zeR n) 47)) (zeR n) [] := Mk.nil w3 _
  have st4 : St (w3.alloc (.cells (zeR n) 47)) g h l2 e2 := st3.keep (hbA.block g st3.lt) (hbA.block h (by have := HN0.out; have := kb3.2.2.2.1; omega))
  have HB4 : Hid (_ ∧ _ ∧ _) := ⟨st4, KB.trans kb3 (KB.of_below (g := g) hbA), mk4⟩
  have HZ4 : Hid (w.heap.size ≤ w3.heap.size ∧ (w3.alloc (.cells (zeR n) 47)).heap.size = w3.heap.size + 1) := ⟨kb3.2.2.2.1, by simp⟩
  clear st3 kb3 hbA st4 mk4 T2
  go_wp2_with fail
  clear mk
  generalize hG : w3.heap.size = G at HB4 HZ4 ⊢
  generalize w3.alloc (.cells (zeR n) 47) = w4 at HB4 HZ4 ⊢
  clear hG
  have HN : Hid (h < w.heap.size ∧ n ≤ 10000 ∧ g < w.heap.size ∧ w.heap.size ≤ G) := ⟨HN0.out.1, HN0.out.2.1, HN0.out.2.2, HZ4.out.1⟩
  go_loopw [4, 10] (fun _ i wr => ∃ (j : Nat) (es : Array Value), j ≤ n ∧ i = .int .i64 (j : Int) ∧ Hid (Mk rowE (G + 1) G wr es (rdL rdRw j l2 e2).1 ∧ es.size = n * 3 ∧ St wr g h (rdL rdRw j l2 e2).2.1 (rdL rdRw j l2 e2).2.2 ∧ KB g w wr ∧ G < wr.heap.size)) (fun _ i _ => n - (intOf i).toNat)
  case atStart => exact ⟨0, _, Nat.zero_le _, rfl, HB4.out.2.2, zeR_size n, HB4.out.1, HB4.out.2.1, by have := HZ4.out.2; omega⟩
  case round =>
    obtain ⟨j, es, hj, rfl, HS⟩ := hrel
    by_cases hlt : j < n
    · have hjl : (j : Int) < (n : Int) := by omega
      have HW : Hid (wrap64 ((j : Int) + 1) = ((j + 1 : Nat) : Int)) := wr1 hlt (by have := HN.out; omega)
      have HLN : Hid ((rdL rdRw j l2 e2).1.length = j) := rdL_len _ _ _ _
      obtain ⟨p, hp⟩ : ∃ p, rdL rdRw j l2 e2 = p := ⟨_, rfl⟩
      obtain ⟨q, hq⟩ : ∃ q, rdRw p.2.1 p.2.2 = q := ⟨_, rfl⟩
      have HQ : Hid (rdL rdRw (j + 1) l2 e2 = (p.1 ++ [q.1], q.2)) := by
        show _ = _
        rw [rdL_succ, hp, hq]
      rw [hp] at HS HLN
      have hjK : j * 3 + 3 ≤ n * 3 := by omega
      have HJ : Hid (j * 3 + 3 ≤ n * 3) := hjK
      have DC : Hid (Calls Tryz.prog 41 #[.pointer (some ⟨g, 0, none⟩), .pointer (some ⟨G, j * 3, none⟩)] wr (DrP g h G (j * 3) es wr q)) := by
        rw [← hq]
        exact decRow_calls g h G (j * 3) es p.2.1 p.2.2 wr HS.out.2.2.1 HS.out.1.row (fun e => by have := HN.out; omega) (fun e => by have := HN.out; omega) (by have := HN.out; have := HS.out.2.2.2.2; omega) (by rw [HS.out.2.1]; omega)
      clear hj hp hq hjK
      go_wp2_with fail
      refine DC.out.mono ?_
      rintro x w5 ⟨rfl, v, hb5, hv5, st5, k5⟩
      have HF : Hid (Mk rowE (G + 1) G w5 (((es.setIfInBounds (j * 3) (.string q.1.key)).setIfInBounds (j * 3 + 1) (.int .i64 q.1.ver)).setIfInBounds (j * 3 + 2) v) (rdL rdRw (j + 1) l2 e2).1 ∧ (((es.setIfInBounds (j * 3) (.string q.1.key)).setIfInBounds (j * 3 + 1) (.int .i64 q.1.ver)).setIfInBounds (j * 3 + 2) v).size = n * 3 ∧ St w5 g h (rdL rdRw (j + 1) l2 e2).2.1 (rdL rdRw (j + 1) l2 e2).2.2 ∧ KB g w w5 ∧ G < w5.heap.size) := by
        rw [HQ.out]
        have hbig : G + 1 ≤ wr.heap.size := HS.out.2.2.2.2
        have hsz := HS.out.2.1
        have hjj := HJ.out
        refine ⟨HS.out.1.step (ys := [.string q.1.key, .int .i64 q.1.ver, v]) hb5 (fun i hi => ?_) (fun q hq hl => k5.2.2.2.2 q hl (fun e => by have := HN.out; omega) (fun e => by omega)) (fun r z hz => ?_) ⟨v, rfl, hv5.all fun q hq => by omega⟩, by simp only [Array.size_setIfInBounds]; exact HS.out.2.1, st5, ?_, Nat.lt_of_lt_of_le HS.out.2.2.2.2 k5.2.2.2.1⟩
        · rw [HLN.out] at hi
          have hi : i < j * 3 := hi
          simp only [Array.getElem?_setIfInBounds]
          repeat rw [if_neg (by omega)]
        · match r, hz with
            | 0, hz =>
              cases hz
              rw [HLN.out]
              show (((es.setIfInBounds (j * 3) (.string q.1.key)).setIfInBounds (j * 3 + 1) (.int .i64 q.1.ver)).setIfInBounds (j * 3 + 2) v)[j * 3 + 0]? = _
              simp only [Array.getElem?_setIfInBounds, Array.size_setIfInBounds, hsz]
              repeat (first | rw [if_pos rfl] | rw [if_pos trivial] | rw [if_neg (by omega)] | rw [if_pos (by omega)])
            | 1, hz =>
              cases hz
              rw [HLN.out]
              show (((es.setIfInBounds (j * 3) (.string q.1.key)).setIfInBounds (j * 3 + 1) (.int .i64 q.1.ver)).setIfInBounds (j * 3 + 2) v)[j * 3 + 1]? = _
              simp only [Array.getElem?_setIfInBounds, Array.size_setIfInBounds, hsz]
              repeat (first | rw [if_pos rfl] | rw [if_pos trivial] | rw [if_neg (by omega)] | rw [if_pos (by omega)])
            | 2, hz =>
              cases hz
              rw [HLN.out]
              show (((es.setIfInBounds (j * 3) (.string q.1.key)).setIfInBounds (j * 3 + 1) (.int .i64 q.1.ver)).setIfInBounds (j * 3 + 2) v)[j * 3 + 2]? = _
              simp only [Array.getElem?_setIfInBounds, Array.size_setIfInBounds, hsz]
              repeat (first | rw [if_pos rfl] | rw [if_pos trivial] | rw [if_neg (by omega)] | rw [if_pos (by omega)])
            | r + 3, hz => simp at hz
        · have k1 := HS.out.2.2.2.1
          exact ⟨k5.1.trans k1.1, k5.2.1.trans k1.2.1, k5.2.2.1.trans k1.2.2.1, Nat.le_trans k1.2.2.2.1 k5.2.2.2.1, fun q hq h1 => (k5.2.2.2.2 q (Nat.lt_of_lt_of_le hq k1.2.2.2.1) h1 (fun e => by have := HN.out; omega)).trans (k1.2.2.2.2 q hq h1)⟩
      clear hb5 hv5 st5 k5 DC
      go_wp2_with fail
      exact ⟨⟨j + 1, _, hlt, by first | rfl | rw [HW.out], HF⟩, meas hlt (by first | rfl | exact HW.out)⟩
    · obtain rfl : j = n := by omega
      go_wp2_with fail
      go_ret
      refine ⟨_, rfl, HS.out.1.sl (rdL_len _ _ _ _) (by have := HN.out; omega) (fun q hq => by have := HN.out; omega) HN.out.2.2.2, HS.out.2.2.1, HS.out.2.2.2.1⟩
set_option maxHeartbeats 8000000 in
set_option maxRecDepth 100000 in
theorem decAllBr_calls (g h : Nat) (l : List UInt8) (e : Int) (w : World) (st : St w g h l e) (hh : h < w.heap.size) :
    Calls Tryz.prog 17 #[.pointer (some ⟨g, 0, none⟩)] w fun x w' => ∃ v, x = .returned v ∧ Sl brE (fun q => w.heap.size ≤ q) w' v (rdN 10000 rdBn l e).1 ∧ St w' g h (rdN 10000 rdBn l e).2.1 (rdN 10000 rdBn l e).2.2 ∧ KB g w w' := by
  obtain ⟨q2, hq2⟩ : ∃ q, sNum 10000 l e = q := ⟨_, rfl⟩
  have hlo : 0 ≤ q2.1 := by rw [← hq2]; exact sNum_nat _ _ _
  have hhi : q2.1 ≤ 10000 := by rw [← hq2]; exact num_top (by decide) _ _
  obtain ⟨n, hn⟩ : ∃ n : Nat, q2.1 = (n : Int) := ⟨q2.1.toNat, by omega⟩
  have hrd : rdN 10000 rdBn l e = rdL rdBn n q2.2.1 q2.2.2 := by
    unfold rdN
    rw [hq2, hn, Int.toNat_natCast]
  rw [hrd]
  have T2 : Hid (Calls Tryz.prog 40 #[.pointer (some ⟨g, 0, none⟩), .int .i64 10000] w (Rs w g h (.int .i64 (n : Int)) q2.2.1 q2.2.2)) := by rw [← hn, ← hq2]; exact num_st w g h _ _ _ st
  have hn1 : n ≤ 10000 := by omega
  obtain ⟨n2, l2, e2⟩ := q2
  dsimp only at T2 ⊢
  have HN0 : Hid (h < w.heap.size ∧ n ≤ 10000 ∧ g < w.heap.size) := ⟨hh, hn1, st.lt⟩
  have mk := make_bnR n hn1
  clear hrd hq2 hn hlo hhi st hh hn1
  go_enter Tryz.func17, Tryz.ntmps17
  go_wp2_with fail
  refine T2.out.mono ?_
  rintro x w3 ⟨rfl, st3, kb3⟩
  have hbA := bel1 w3 (.cells (zeB n) 39)
  have mk4 : Mk brE (w3.heap.size + 1) w3.heap.size (w3.alloc (.cells (zeB n) 39)) (zeB n) [] := Mk.nil w3 _
  have st4 : St (w3.alloc (.cells (zeB n) 39)) g h l2 e2 := st3.keep (hbA.block g st3.lt) (hbA.block h (by have := HN0.out; have := kb3.2.2.2.1; omega))
  have HB4 : Hid (_ ∧ _ ∧ _) := ⟨st4, KB.trans kb3 (KB.of_below (g := g) hbA), mk4⟩
  have HZ4 : Hid (w.heap.size ≤ w3.heap.size ∧ (w3.alloc (.cells (zeB n) 39)).heap.size = w3.heap.size + 1) := ⟨kb3.2.2.2.1, by simp⟩
  clear st3 kb3 hbA st4 mk4 T2
  go_wp2_with fail
  clear mk
  generalize hG : w3.heap.size = G at HB4 HZ4 ⊢
  generalize w3.alloc (.cells (zeB n) 39) = w4 at HB4 HZ4 ⊢
  clear hG
  have HN : Hid (h < w.heap.size ∧ n ≤ 10000 ∧ g < w.heap.size ∧ w.heap.size ≤ G) := ⟨HN0.out.1, HN0.out.2.1, HN0.out.2.2, HZ4.out.1⟩
  go_loopw [4, 10] (fun _ i wr => ∃ (j : Nat) (es : Array Value), j ≤ n ∧ i = .int .i64 (j : Int) ∧ Hid (Mk brE (G + 1) G wr es (rdL rdBn j l2 e2).1 ∧ es.size = n * 2 ∧ St wr g h (rdL rdBn j l2 e2).2.1 (rdL rdBn j l2 e2).2.2 ∧ KB g w wr ∧ G < wr.heap.size)) (fun _ i _ => n - (intOf i).toNat)
  case atStart => exact ⟨0, _, Nat.zero_le _, rfl, HB4.out.2.2, zeB_size n, HB4.out.1, HB4.out.2.1, by have := HZ4.out.2; omega⟩
  case round =>
    obtain ⟨j, es, hj, rfl, HS⟩ := hrel
    by_cases hlt : j < n
    · have hjl : (j : Int) < (n : Int) := by omega
      have HW : Hid (wrap64 ((j : Int) + 1) = ((j + 1 : Nat) : Int)) := wr1 hlt (by have := HN.out; omega)
      have HLN : Hid ((rdL rdBn j l2 e2).1.length = j) := rdL_len _ _ _ _
      obtain ⟨p, hp⟩ : ∃ p, rdL rdBn j l2 e2 = p := ⟨_, rfl⟩
      obtain ⟨q, hq⟩ : ∃ q, rdBn p.2.1 p.2.2 = q := ⟨_, rfl⟩
      have HQ : Hid (rdL rdBn (j + 1) l2 e2 = (p.1 ++ [q.1], q.2)) := by
        show _ = _
        rw [rdL_succ, hp, hq]
      rw [hp] at HS HLN
      have hjK : j * 2 + 2 ≤ n * 2 := by omega
      have HJ : Hid (j * 2 + 2 ≤ n * 2) := hjK
      have DC : Hid (Calls Tryz.prog 42 #[.pointer (some ⟨g, 0, none⟩), .pointer (some ⟨G, j * 2, none⟩)] wr (DbP g h G (j * 2) es wr q)) := by
        rw [← hq]
        exact decBr_calls g h G (j * 2) es p.2.1 p.2.2 wr HS.out.2.2.1 HS.out.1.row (fun e => by have := HN.out; omega) (fun e => by have := HN.out; omega) (by have := HN.out; have := HS.out.2.2.2.2; omega) (by rw [HS.out.2.1]; omega)
      clear hj hp hq hjK
      go_wp2_with fail
      refine DC.out.mono ?_
      rintro x w5 ⟨rfl, v, hb5, hv5, st5, k5⟩
      have HF : Hid (Mk brE (G + 1) G w5 ((es.setIfInBounds (j * 2) (.string q.1.key)).setIfInBounds (j * 2 + 1) v) (rdL rdBn (j + 1) l2 e2).1 ∧ ((es.setIfInBounds (j * 2) (.string q.1.key)).setIfInBounds (j * 2 + 1) v).size = n * 2 ∧ St w5 g h (rdL rdBn (j + 1) l2 e2).2.1 (rdL rdBn (j + 1) l2 e2).2.2 ∧ KB g w w5 ∧ G < w5.heap.size) := by
        rw [HQ.out]
        have hbig : G + 1 ≤ wr.heap.size := HS.out.2.2.2.2
        have hsz := HS.out.2.1
        have hjj := HJ.out
        refine ⟨HS.out.1.step (ys := [.string q.1.key, v]) hb5 (fun i hi => ?_) (fun q hq hl => k5.2.2.2.2 q hl (fun e => by have := HN.out; omega) (fun e => by omega)) (fun r z hz => ?_) ⟨v, rfl, hv5.all' fun q hq => by omega⟩, by simp only [Array.size_setIfInBounds]; exact HS.out.2.1, st5, ?_, Nat.lt_of_lt_of_le HS.out.2.2.2.2 k5.2.2.2.1⟩
        · rw [HLN.out] at hi
          have hi : i < j * 2 := hi
          simp only [Array.getElem?_setIfInBounds]
          repeat rw [if_neg (by omega)]
        · match r, hz with
            | 0, hz =>
              cases hz
              rw [HLN.out]
              show ((es.setIfInBounds (j * 2) (.string q.1.key)).setIfInBounds (j * 2 + 1) v)[j * 2 + 0]? = _
              simp only [Array.getElem?_setIfInBounds, Array.size_setIfInBounds, hsz]
              repeat (first | rw [if_pos rfl] | rw [if_pos trivial] | rw [if_neg (by omega)] | rw [if_pos (by omega)])
            | 1, hz =>
              cases hz
              rw [HLN.out]
              show ((es.setIfInBounds (j * 2) (.string q.1.key)).setIfInBounds (j * 2 + 1) v)[j * 2 + 1]? = _
              simp only [Array.getElem?_setIfInBounds, Array.size_setIfInBounds, hsz]
              repeat (first | rw [if_pos rfl] | rw [if_pos trivial] | rw [if_neg (by omega)] | rw [if_pos (by omega)])
            | r + 2, hz => simp at hz
        · have k1 := HS.out.2.2.2.1
          exact ⟨k5.1.trans k1.1, k5.2.1.trans k1.2.1, k5.2.2.1.trans k1.2.2.1, Nat.le_trans k1.2.2.2.1 k5.2.2.2.1, fun q hq h1 => (k5.2.2.2.2 q (Nat.lt_of_lt_of_le hq k1.2.2.2.1) h1 (fun e => by have := HN.out; omega)).trans (k1.2.2.2.2 q hq h1)⟩
      clear hb5 hv5 st5 k5 DC
      go_wp2_with fail
      exact ⟨⟨j + 1, _, hlt, by first | rfl | rw [HW.out], HF⟩, meas hlt (by first | rfl | exact HW.out)⟩
    · obtain rfl : j = n := by omega
      go_wp2_with fail
      go_ret
      refine ⟨_, rfl, HS.out.1.sl (rdL_len _ _ _ _) (by have := HN.out; omega) (fun q hq => by have := HN.out; omega) HN.out.2.2.2, HS.out.2.2.1, HS.out.2.2.2.1⟩
end Go.Proofs.YtkaaddahegkmgaaGreat
