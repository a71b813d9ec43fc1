/- The reader: a request, only, ReadRequest; sameCommand, sameAnswer, EqualFunc. -/
import Derived.Test.YtjmonkhkcmcfiaaTB
import Derived.Deep.MidRow
import Derived.Deep.WholeRow
namespace Go.Proofs.Ytjmonkhkcmcfiaa
open Go.ChangeShapes Go.WideShapes Go.ChangeAt Go.RowKit
theorem infoR31 : (Try.prog.info? 31).map (·.size) = some 17 := by kernel_rfl
/-- A request as data. -/
structure Rq where
  rk : Int
  f : ByteArray
  q : ByteArray
  nm : ByteArray
  t : Tv
  ru : Int
  nu : Int
  wa : Int
  pf : Int
  pc : Nat
  pm : Int
  cds : List (Int × ByteArray × Tv × Int)
  ads : List (Int × Tv)
def rdRq (l : List UInt8) (e : Int) : Rq × List UInt8 × Int :=
  let a := sNum 255 l e
  let b := sText 200 a.2.1 a.2.2
  let c := sText 200 b.2.1 b.2.2
  let d := sText 200 c.2.1 c.2.2
  let v := rdR d.2.1 d.2.2
  let i := sNum 4611686018427387904 v.2.1 v.2.2
  let j := sNum 4611686018427387904 i.2.1 i.2.2
  let k := sNum 4611686018427387904 j.2.1 j.2.2
  let p := rdPo k.2.1 k.2.2
  let m := rdLs rdCo 12 p.2.1 p.2.2
  let n := rdLs rdAn 8 m.2.1 m.2.2
  (⟨a.1, str b.1, str c.1, str d.1, v.1, i.1, j.1, k.1, p.1.1, p.1.2.1, p.1.2.2, m.1, n.1⟩, n.2)
/-- A request in blocks of the call's own. -/
def RqP (w : World) (g h : Nat) (r : Rq × List UInt8 × Int) (x : Ending) (w' : World) : Prop :=
  ∃ k vx b s la lm lc ca cc aa ac, x = .returned (.agg #[.int .i64 r.1.rk, .string r.1.f, .string r.1.q, .string r.1.nm, .int .i64 k, .int .i64 vx, .int .u64 b, .string s, .slice la lm lc, .int .i64 r.1.ru, .int .i64 r.1.nu, .int .i64 r.1.wa, .int .i64 r.1.pf, .int .u64 (r.1.pc : Int), .int .i64 r.1.pm, .slice ca r.1.cds.length cc, .slice aa r.1.ads.length ac]) ∧
    IsN w.heap.size w' 5 (.agg #[.int .i64 k, .int .i64 vx, .int .u64 b, .string s, .slice la lm lc]) r.1.t ∧ LsE w.heap.size 8 ElC w' 5 ca r.1.cds ∧ LsE w.heap.size 6 ElA w' 5 aa r.1.ads ∧ St w' g h r.2.1 r.2.2 ∧ KB g w w'
set_option maxHeartbeats 4000000 in
set_option maxRecDepth 100000 in
theorem rrequest_calls (w : World) (g h : Nat) (l : List UInt8) (e : Int) (r : St w g h l e) (hh : h < w.heap.size) (hl : l.length ≤ 281474976710656) :
    Calls Try.prog 26 #[.agg #[.pointer (some ⟨g, 0, none⟩)]] w (RqP w g h (rdRq l e)) := by
  obtain ⟨W0, hW0⟩ : ∃ W0, W0 = (((w.alloc (.cells #[.pointer (some ⟨g, 0, none⟩)] 79)).alloc (.cells #[.int .i64 0, .string ⟨#[]⟩, .string ⟨#[]⟩, .string ⟨#[]⟩, .int .i64 0, .int .i64 0, .int .u64 0, .string ⟨#[]⟩, .slice none 0 0, .int .i64 0, .int .i64 0, .int .i64 0, .int .i64 0, .int .u64 0, .int .i64 0, .slice none 0 0, .slice none 0 0] 31)).alloc (.cells #[.int .i64 0, .string ⟨#[]⟩, .string ⟨#[]⟩, .string ⟨#[]⟩, .int .i64 0, .int .i64 0, .int .u64 0, .string ⟨#[]⟩, .slice none 0 0, .int .i64 0, .int .i64 0, .int .i64 0, .int .i64 0, .int .u64 0, .int .i64 0, .slice none 0 0, .slice none 0 0] 31)) := ⟨_, rfl⟩
  have M0 : Hid (Rb 31 #[.int .i64 0, .string ⟨#[]⟩, .string ⟨#[]⟩, .string ⟨#[]⟩, .int .i64 0, .int .i64 0, .int .u64 0, .string ⟨#[]⟩, .slice none 0 0, .int .i64 0, .int .i64 0, .int .i64 0, .int .i64 0, .int .u64 0, .int .i64 0, .slice none 0 0, .slice none 0 0] w W0 g h l e #[.int .i64 0, .string ⟨#[]⟩, .string ⟨#[]⟩, .string ⟨#[]⟩, .int .i64 0, .int .i64 0, .int .u64 0, .string ⟨#[]⟩, .slice none 0 0, .int .i64 0, .int .i64 0, .int .i64 0, .int .i64 0, .int .u64 0, .int .i64 0, .slice none 0 0, .slice none 0 0]) := by rw [hW0]; exact Rb.first r hh
  have HW0 : Hid (W0 = (((w.alloc (.cells #[.pointer (some ⟨g, 0, none⟩)] 79)).alloc (.cells #[.int .i64 0, .string ⟨#[]⟩, .string ⟨#[]⟩, .string ⟨#[]⟩, .int .i64 0, .int .i64 0, .int .u64 0, .string ⟨#[]⟩, .slice none 0 0, .int .i64 0, .int .i64 0, .int .i64 0, .int .i64 0, .int .u64 0, .int .i64 0, .slice none 0 0, .slice none 0 0] 31)).alloc (.cells #[.int .i64 0, .string ⟨#[]⟩, .string ⟨#[]⟩, .string ⟨#[]⟩, .int .i64 0, .int .i64 0, .int .u64 0, .string ⟨#[]⟩, .slice none 0 0, .int .i64 0, .int .i64 0, .int .i64 0, .int .i64 0, .int .u64 0, .int .i64 0, .slice none 0 0, .slice none 0 0] 31))) := hW0
  have HG : Hid (g < w.heap.size ∧ h < w.heap.size) := ⟨M0.out.gw, M0.out.hw⟩
  have hR : rdRq l e = rdRq l e := rfl
  conv at hR => rhs; unfold rdRq
  have N1 := fun W (s : St W g h l e) (hh : h < W.heap.size) => num_st W g h l e 255 s
  have g1 := sNum_len 255 l e
  generalize hQ1 : sNum 255 l e = R1 at N1 hR g1
  obtain ⟨rk, l1, e1⟩ := R1
  dsimp only at N1 hR g1
  have K1 : Hid (∀ W, St W g h l e → h < W.heap.size → Calls Try.prog 56 #[.pointer (some ⟨g, 0, none⟩), .int .i64 255] W (Rs W g h (.int .i64 rk) l1 e1)) := N1
  clear N1 hQ1
  have N2 := fun W (s : St W g h l1 e1) (hh : h < W.heap.size) => rtext_calls W g h l1 e1 s hh
  have g2 := sText_len 200 l1 e1
  generalize hQ2 : sText 200 l1 e1 = R2 at N2 hR g2
  obtain ⟨b1, l2, e2⟩ := R2
  dsimp only at N2 hR g2
  generalize str b1 = tf at N2 hR
  have K2 : Hid (∀ W, St W g h l1 e1 → h < W.heap.size → Calls Try.prog 57 #[.agg #[.pointer (some ⟨g, 0, none⟩)]] W (Rs W g h (.string tf) l2 e2)) := N2
  clear N2 hQ2
  have N3 := fun W (s : St W g h l2 e2) (hh : h < W.heap.size) => rtext_calls W g h l2 e2 s hh
  have g3 := sText_len 200 l2 e2
  generalize hQ3 : sText 200 l2 e2 = R3 at N3 hR g3
  obtain ⟨b2, l3, e3⟩ := R3
  dsimp only at N3 hR g3
  generalize str b2 = tq at N3 hR
  have K3 : Hid (∀ W, St W g h l2 e2 → h < W.heap.size → Calls Try.prog 57 #[.agg #[.pointer (some ⟨g, 0, none⟩)]] W (Rs W g h (.string tq) l3 e3)) := N3
  clear N3 hQ3
  have N4 := fun W (s : St W g h l3 e3) (hh : h < W.heap.size) => rtext_calls W g h l3 e3 s hh
  have g4 := sText_len 200 l3 e3
  generalize hQ4 : sText 200 l3 e3 = R4 at N4 hR g4
  obtain ⟨b3, l4, e4⟩ := R4
  dsimp only at N4 hR g4
  generalize str b3 = tn at N4 hR
  have K4 : Hid (∀ W, St W g h l3 e3 → h < W.heap.size → Calls Try.prog 57 #[.agg #[.pointer (some ⟨g, 0, none⟩)]] W (Rs W g h (.string tn) l4 e4)) := N4
  clear N4 hQ4
  have N5 := fun W (s : St W g h l4 e4) (hh : h < W.heap.size) => rvalue_calls W g h l4 e4 s hh (by omega)
  have g5 := rdR_len l4 e4
  generalize hQ5 : rdR l4 e4 = R5 at N5 hR g5
  obtain ⟨tv, l5, e5⟩ := R5
  dsimp only at N5 hR g5
  have K5 : Hid (∀ W, St W g h l4 e4 → h < W.heap.size → Calls Try.prog 58 #[.agg #[.pointer (some ⟨g, 0, none⟩)]] W (RdP W g h 5 (tv, l5, e5))) := N5
  clear N5 hQ5
  have N6 := fun W (s : St W g h l5 e5) (hh : h < W.heap.size) => rnum_calls W g h l5 e5 s hh
  have g6 := sNum_len 4611686018427387904 l5 e5
  generalize hQ6 : sNum 4611686018427387904 l5 e5 = R6 at N6 hR g6
  obtain ⟨ru, l6, e6⟩ := R6
  dsimp only at N6 hR g6
  have K6 : Hid (∀ W, St W g h l5 e5 → h < W.heap.size → Calls Try.prog 59 #[.agg #[.pointer (some ⟨g, 0, none⟩)]] W (Rs W g h (.int .i64 ru) l6 e6)) := N6
  clear N6 hQ6
  have N7 := fun W (s : St W g h l6 e6) (hh : h < W.heap.size) => rnum_calls W g h l6 e6 s hh
  have g7 := sNum_len 4611686018427387904 l6 e6
  generalize hQ7 : sNum 4611686018427387904 l6 e6 = R7 at N7 hR g7
  obtain ⟨nu, l7, e7⟩ := R7
  dsimp only at N7 hR g7
  have K7 : Hid (∀ W, St W g h l6 e6 → h < W.heap.size → Calls Try.prog 59 #[.agg #[.pointer (some ⟨g, 0, none⟩)]] W (Rs W g h (.int .i64 nu) l7 e7)) := N7
  clear N7 hQ7
  have N8 := fun W (s : St W g h l7 e7) (hh : h < W.heap.size) => rnum_calls W g h l7 e7 s hh
  have g8 := sNum_len 4611686018427387904 l7 e7
  generalize hQ8 : sNum 4611686018427387904 l7 e7 = R8 at N8 hR g8
  obtain ⟨wa, l8, e8⟩ := R8
  dsimp only at N8 hR g8
  have K8 : Hid (∀ W, St W g h l7 e7 → h < W.heap.size → Calls Try.prog 59 #[.agg #[.pointer (some ⟨g, 0, none⟩)]] W (Rs W g h (.int .i64 wa) l8 e8)) := N8
  clear N8 hQ8
  have N9 := fun W (s : St W g h l8 e8) (hh : h < W.heap.size) => rpolicy_calls W g h l8 e8 s hh
  have g9 := rdPo_len l8 e8
  generalize hQ9 : rdPo l8 e8 = R9 at N9 hR g9
  obtain ⟨⟨p1, p2, p3⟩, l9, e9⟩ := R9
  dsimp only at N9 hR g9
  have K9 : Hid (∀ W, St W g h l8 e8 → h < W.heap.size → Calls Try.prog 60 #[.agg #[.pointer (some ⟨g, 0, none⟩)]] W (Rs W g h (.agg #[.int .i64 p1, .int .u64 (p2 : Int), .int .i64 p3]) l9 e9)) := N9
  clear N9 hQ9
  have N10 := fun W (s : St W g h l9 e9) (hh : h < W.heap.size) => rcmds_calls W g h l9 e9 s hh (by omega)
  have g10 := rdLs_len rdCo_len 12 l9 e9
  generalize hQ10 : rdLs rdCo 12 l9 e9 = R10 at N10 hR g10
  obtain ⟨cds, l10, e10⟩ := R10
  dsimp only at N10 hR g10
  have K10 : Hid (∀ W, St W g h l9 e9 → h < W.heap.size → Calls Try.prog 61 #[.agg #[.pointer (some ⟨g, 0, none⟩)], .int .i64 12, .func (.func 62) #[.agg #[.pointer (some ⟨g, 0, none⟩)]] #[]] W (RlP 8 ElC W g h (cds, l10, e10))) := N10
  clear N10 hQ10
  have N11 := fun W (s : St W g h l10 e10) (hh : h < W.heap.size) => ransw_calls W g h l10 e10 s hh (by omega)
  have g11 := rdLs_len rdAn_len 8 l10 e10
  generalize hQ11 : rdLs rdAn 8 l10 e10 = R11 at N11 hR g11
  obtain ⟨ads, l11, e11⟩ := R11
  dsimp only at N11 hR g11
  have K11 : Hid (∀ W, St W g h l10 e10 → h < W.heap.size → Calls Try.prog 63 #[.agg #[.pointer (some ⟨g, 0, none⟩)], .int .i64 8, .func (.func 64) #[.agg #[.pointer (some ⟨g, 0, none⟩)]] #[]] W (RlP 6 ElA W g h (ads, l11, e11))) := N11
  clear N11 hQ11
  have HP : Hid (rdRq l e = _) := hR
  clear hW0 r hh hR hl g1 g2 g3 g4 g5 g6 g7 g8 g9 g10 g11
  go_enter Try.func26, Try.ntmps26
  go_upto_region 2 with fail
  rw [← HW0.out]
  have rc0 := M0.out.rcell
  go_wp2_with fail
  clear rc0
  refine (K1.out _ M0.out.st (by have := M0.out.hw; have := M0.out.lt; omega)).mono ?_
  rintro x w1 ⟨rfl, s1, k1⟩
  have Ma1 := M0.out.step s1 k1
  have a0 := Ma1.cell 0 (v := .int .i64 0) rfl
  have f0 := Ma1.free 0
  obtain ⟨W1, hW1⟩ : ∃ W1, W1 = (w1).setCell ⟨w.heap.size + 2, 0, none⟩ (.int .i64 rk) := ⟨_, rfl⟩
  have M1 : Hid (Rb 31 #[.int .i64 0, .string ⟨#[]⟩, .string ⟨#[]⟩, .string ⟨#[]⟩, .int .i64 0, .int .i64 0, .int .u64 0, .string ⟨#[]⟩, .slice none 0 0, .int .i64 0, .int .i64 0, .int .i64 0, .int .i64 0, .int .u64 0, .int .i64 0, .slice none 0 0, .slice none 0 0] w W1 g h l1 e1 #[.int .i64 rk, .string ⟨#[]⟩, .string ⟨#[]⟩, .string ⟨#[]⟩, .int .i64 0, .int .i64 0, .int .u64 0, .string ⟨#[]⟩, .slice none 0 0, .int .i64 0, .int .i64 0, .int .i64 0, .int .i64 0, .int .u64 0, .int .i64 0, .slice none 0 0, .slice none 0 0]) := by rw [hW1]; exact (Ma1).put 0 (.int .i64 rk)
  have HW1 : Hid (W1 = (w1).setCell ⟨w.heap.size + 2, 0, none⟩ (.int .i64 rk)) := hW1
  have kk1 : ∀ B, w.heap.size + 3 ≤ B → B < w1.heap.size → W1.heap[B]? = w1.heap[B]? := fun B h1 h2 => by rw [hW1]; exact (Below.heap_setCell _ _ _ _ (show _ ≠ w.heap.size + 2 by omega))
  clear hW1 kk1 Ma1 s1 k1
  go_upto_region 3 with fail
  rw [← HW1.out]
  clear a0 f0
  have rc1 := M1.out.rcell
  go_wp2_with fail
  clear rc1
  refine (K2.out _ M1.out.st (by have := M1.out.hw; have := M1.out.lt; omega)).mono ?_
  rintro x w2 ⟨rfl, s2, k2⟩
  have Ma2 := M1.out.step s2 k2
  have a1 := Ma2.cell 1 (v := .string ⟨#[]⟩) rfl
  have f1 := Ma2.free 1
  obtain ⟨W2, hW2⟩ : ∃ W2, W2 = (w2).setCell ⟨w.heap.size + 2, 1, none⟩ (.string tf) := ⟨_, rfl⟩
  have M2 : Hid (Rb 31 #[.int .i64 0, .string ⟨#[]⟩, .string ⟨#[]⟩, .string ⟨#[]⟩, .int .i64 0, .int .i64 0, .int .u64 0, .string ⟨#[]⟩, .slice none 0 0, .int .i64 0, .int .i64 0, .int .i64 0, .int .i64 0, .int .u64 0, .int .i64 0, .slice none 0 0, .slice none 0 0] w W2 g h l2 e2 #[.int .i64 rk, .string tf, .string ⟨#[]⟩, .string ⟨#[]⟩, .int .i64 0, .int .i64 0, .int .u64 0, .string ⟨#[]⟩, .slice none 0 0, .int .i64 0, .int .i64 0, .int .i64 0, .int .i64 0, .int .u64 0, .int .i64 0, .slice none 0 0, .slice none 0 0]) := by rw [hW2]; exact (Ma2).put 1 (.string tf)
  have HW2 : Hid (W2 = (w2).setCell ⟨w.heap.size + 2, 1, none⟩ (.string tf)) := hW2
  have kk2 : ∀ B, w.heap.size + 3 ≤ B → B < w2.heap.size → W2.heap[B]? = w2.heap[B]? := fun B h1 h2 => by rw [hW2]; exact (Below.heap_setCell _ _ _ _ (show _ ≠ w.heap.size + 2 by omega))
  clear hW2 kk2 Ma2 s2 k2
  go_upto_region 4 with fail
  rw [← HW2.out]
  clear a1 f1
  have rc2 := M2.out.rcell
  go_wp2_with fail
  clear rc2
  refine (K3.out _ M2.out.st (by have := M2.out.hw; have := M2.out.lt; omega)).mono ?_
  rintro x w3 ⟨rfl, s3, k3⟩
  have Ma3 := M2.out.step s3 k3
  have a2 := Ma3.cell 2 (v := .string ⟨#[]⟩) rfl
  have f2 := Ma3.free 2
  obtain ⟨W3, hW3⟩ : ∃ W3, W3 = (w3).setCell ⟨w.heap.size + 2, 2, none⟩ (.string tq) := ⟨_, rfl⟩
  have M3 : Hid (Rb 31 #[.int .i64 0, .string ⟨#[]⟩, .string ⟨#[]⟩, .string ⟨#[]⟩, .int .i64 0, .int .i64 0, .int .u64 0, .string ⟨#[]⟩, .slice none 0 0, .int .i64 0, .int .i64 0, .int .i64 0, .int .i64 0, .int .u64 0, .int .i64 0, .slice none 0 0, .slice none 0 0] w W3 g h l3 e3 #[.int .i64 rk, .string tf, .string tq, .string ⟨#[]⟩, .int .i64 0, .int .i64 0, .int .u64 0, .string ⟨#[]⟩, .slice none 0 0, .int .i64 0, .int .i64 0, .int .i64 0, .int .i64 0, .int .u64 0, .int .i64 0, .slice none 0 0, .slice none 0 0]) := by rw [hW3]; exact (Ma3).put 2 (.string tq)
  have HW3 : Hid (W3 = (w3).setCell ⟨w.heap.size + 2, 2, none⟩ (.string tq)) := hW3
  have kk3 : ∀ B, w.heap.size + 3 ≤ B → B < w3.heap.size → W3.heap[B]? = w3.heap[B]? := fun B h1 h2 => by rw [hW3]; exact (Below.heap_setCell _ _ _ _ (show _ ≠ w.heap.size + 2 by omega))
  clear hW3 kk3 Ma3 s3 k3
  go_upto_region 5 with fail
  rw [← HW3.out]
  clear a2 f2
  have rc3 := M3.out.rcell
  go_wp2_with fail
  clear rc3
  refine (K4.out _ M3.out.st (by have := M3.out.hw; have := M3.out.lt; omega)).mono ?_
  rintro x w4 ⟨rfl, s4, k4⟩
  have Ma4 := M3.out.step s4 k4
  have a3 := Ma4.cell 3 (v := .string ⟨#[]⟩) rfl
  have f3 := Ma4.free 3
  obtain ⟨W4, hW4⟩ : ∃ W4, W4 = (w4).setCell ⟨w.heap.size + 2, 3, none⟩ (.string tn) := ⟨_, rfl⟩
  have M4 : Hid (Rb 31 #[.int .i64 0, .string ⟨#[]⟩, .string ⟨#[]⟩, .string ⟨#[]⟩, .int .i64 0, .int .i64 0, .int .u64 0, .string ⟨#[]⟩, .slice none 0 0, .int .i64 0, .int .i64 0, .int .i64 0, .int .i64 0, .int .u64 0, .int .i64 0, .slice none 0 0, .slice none 0 0] w W4 g h l4 e4 #[.int .i64 rk, .string tf, .string tq, .string tn, .int .i64 0, .int .i64 0, .int .u64 0, .string ⟨#[]⟩, .slice none 0 0, .int .i64 0, .int .i64 0, .int .i64 0, .int .i64 0, .int .u64 0, .int .i64 0, .slice none 0 0, .slice none 0 0]) := by rw [hW4]; exact (Ma4).put 3 (.string tn)
  have HW4 : Hid (W4 = (w4).setCell ⟨w.heap.size + 2, 3, none⟩ (.string tn)) := hW4
  have kk4 : ∀ B, w.heap.size + 3 ≤ B → B < w4.heap.size → W4.heap[B]? = w4.heap[B]? := fun B h1 h2 => by rw [hW4]; exact (Below.heap_setCell _ _ _ _ (show _ ≠ w.heap.size + 2 by omega))
  clear hW4 kk4 Ma4 s4 k4
  go_upto_region 6 with fail
  rw [← HW4.out]
  clear a3 f3
  have rc4 := M4.out.rcell
  go_wp2_with fail
  clear rc4
  refine (K5.out _ M4.out.st (by have := M4.out.hw; have := M4.out.lt; omega)).mono ?_
  rintro x w5 ⟨v5, rfl, hi5, s5, k5⟩
  dsimp only at hi5 s5
  obtain ⟨vk, vx, vb, vs, la, ll, lc, rfl⟩ := hi5.shape
  have Ma5 := M4.out.step s5 k5
  have a4 := Ma5.cell 4 (v := .int .i64 0) rfl
  have f4 := Ma5.free 4
  have a5 := Ma5.cell 5 (v := .int .i64 0) rfl
  have f5 := Ma5.free 5
  have a6 := Ma5.cell 6 (v := .int .u64 0) rfl
  have f6 := Ma5.free 6
  have a7 := Ma5.cell 7 (v := .string ⟨#[]⟩) rfl
  have f7 := Ma5.free 7
  have a8 := Ma5.cell 8 (v := .slice none 0 0) rfl
  have f8 := Ma5.free 8
  obtain ⟨W5, hW5⟩ : ∃ W5, W5 = (((((w5).setCell ⟨w.heap.size + 2, 4, none⟩ (.int .i64 vk)).setCell ⟨w.heap.size + 2, 5, none⟩ (.int .i64 vx)).setCell ⟨w.heap.size + 2, 6, none⟩ (.int .u64 vb)).setCell ⟨w.heap.size + 2, 7, none⟩ (.string vs)).setCell ⟨w.heap.size + 2, 8, none⟩ (.slice la ll lc) := ⟨_, rfl⟩
  have M5 : Hid (Rb 31 #[.int .i64 0, .string ⟨#[]⟩, .string ⟨#[]⟩, .string ⟨#[]⟩, .int .i64 0, .int .i64 0, .int .u64 0, .string ⟨#[]⟩, .slice none 0 0, .int .i64 0, .int .i64 0, .int .i64 0, .int .i64 0, .int .u64 0, .int .i64 0, .slice none 0 0, .slice none 0 0] w W5 g h l5 e5 #[.int .i64 rk, .string tf, .string tq, .string tn, .int .i64 vk, .int .i64 vx, .int .u64 vb, .string vs, .slice la ll lc, .int .i64 0, .int .i64 0, .int .i64 0, .int .i64 0, .int .u64 0, .int .i64 0, .slice none 0 0, .slice none 0 0]) := by rw [hW5]; exact (((((Ma5).put 4 (.int .i64 vk)).put 5 (.int .i64 vx)).put 6 (.int .u64 vb)).put 7 (.string vs)).put 8 (.slice la ll lc)
  have HW5 : Hid (W5 = (((((w5).setCell ⟨w.heap.size + 2, 4, none⟩ (.int .i64 vk)).setCell ⟨w.heap.size + 2, 5, none⟩ (.int .i64 vx)).setCell ⟨w.heap.size + 2, 6, none⟩ (.int .u64 vb)).setCell ⟨w.heap.size + 2, 7, none⟩ (.string vs)).setCell ⟨w.heap.size + 2, 8, none⟩ (.slice la ll lc)) := hW5
  have kk5 : ∀ B, w.heap.size + 3 ≤ B → B < w5.heap.size → W5.heap[B]? = w5.heap[B]? := fun B h1 h2 => by rw [hW5]; exact (Below.heap_setCell _ _ _ _ (show _ ≠ w.heap.size + 2 by omega)) |>.trans (Below.heap_setCell _ _ _ _ (show _ ≠ w.heap.size + 2 by omega)) |>.trans (Below.heap_setCell _ _ _ _ (show _ ≠ w.heap.size + 2 by omega)) |>.trans (Below.heap_setCell _ _ _ _ (show _ ≠ w.heap.size + 2 by omega)) |>.trans (Below.heap_setCell _ _ _ _ (show _ ≠ w.heap.size + 2 by omega))
  have IV : Hid (IsN (w.heap.size + 3) W5 5 (.agg #[.int .i64 vk, .int .i64 vx, .int .u64 vb, .string vs, .slice la ll lc]) tv) := by have hz := M4.out.lt; exact (hi5.lower (by omega)).kept kk5
  clear hW5 kk5 Ma5 s5 k5 hi5
  go_upto_region 7 with fail
  rw [← HW5.out]
  clear a4 f4 a5 f5 a6 f6 a7 f7 a8 f8
  have rc5 := M5.out.rcell
  go_wp2_with fail
  clear rc5
  refine (K6.out _ M5.out.st (by have := M5.out.hw; have := M5.out.lt; omega)).mono ?_
  rintro x w6 ⟨rfl, s6, k6⟩
  have Ma6 := M5.out.step s6 k6
  have a9 := Ma6.cell 9 (v := .int .i64 0) rfl
  have f9 := Ma6.free 9
  obtain ⟨W6, hW6⟩ : ∃ W6, W6 = (w6).setCell ⟨w.heap.size + 2, 9, none⟩ (.int .i64 ru) := ⟨_, rfl⟩
  have M6 : Hid (Rb 31 #[.int .i64 0, .string ⟨#[]⟩, .string ⟨#[]⟩, .string ⟨#[]⟩, .int .i64 0, .int .i64 0, .int .u64 0, .string ⟨#[]⟩, .slice none 0 0, .int .i64 0, .int .i64 0, .int .i64 0, .int .i64 0, .int .u64 0, .int .i64 0, .slice none 0 0, .slice none 0 0] w W6 g h l6 e6 #[.int .i64 rk, .string tf, .string tq, .string tn, .int .i64 vk, .int .i64 vx, .int .u64 vb, .string vs, .slice la ll lc, .int .i64 ru, .int .i64 0, .int .i64 0, .int .i64 0, .int .u64 0, .int .i64 0, .slice none 0 0, .slice none 0 0]) := by rw [hW6]; exact (Ma6).put 9 (.int .i64 ru)
  have HW6 : Hid (W6 = (w6).setCell ⟨w.heap.size + 2, 9, none⟩ (.int .i64 ru)) := hW6
  have kk6 : ∀ B, w.heap.size + 3 ≤ B → B < w6.heap.size → W6.heap[B]? = w6.heap[B]? := fun B h1 h2 => by rw [hW6]; exact (Below.heap_setCell _ _ _ _ (show _ ≠ w.heap.size + 2 by omega))
  have IVn : Hid (IsN (w.heap.size + 3) W6 5 (.agg #[.int .i64 vk, .int .i64 vx, .int .u64 vb, .string vs, .slice la ll lc]) tv) := by have hz := M5.out.gw; exact IV.out.kept (fun B h1 h2 => (kk6 B h1 (Nat.lt_of_lt_of_le h2 k6.2.2.2.1)).trans (k6.2.2.2.2 B h2 (by omega)))
  clear IV
  have IV := IVn
  clear IVn
  clear hW6 kk6 Ma6 s6 k6
  go_upto_region 8 with fail
  rw [← HW6.out]
  clear a9 f9
  have rc6 := M6.out.rcell
  go_wp2_with fail
  clear rc6
  refine (K7.out _ M6.out.st (by have := M6.out.hw; have := M6.out.lt; omega)).mono ?_
  rintro x w7 ⟨rfl, s7, k7⟩
  have Ma7 := M6.out.step s7 k7
  have a10 := Ma7.cell 10 (v := .int .i64 0) rfl
  have f10 := Ma7.free 10
  obtain ⟨W7, hW7⟩ : ∃ W7, W7 = (w7).setCell ⟨w.heap.size + 2, 10, none⟩ (.int .i64 nu) := ⟨_, rfl⟩
  have M7 : Hid (Rb 31 #[.int .i64 0, .string ⟨#[]⟩, .string ⟨#[]⟩, .string ⟨#[]⟩, .int .i64 0, .int .i64 0, .int .u64 0, .string ⟨#[]⟩, .slice none 0 0, .int .i64 0, .int .i64 0, .int .i64 0, .int .i64 0, .int .u64 0, .int .i64 0, .slice none 0 0, .slice none 0 0] w W7 g h l7 e7 #[.int .i64 rk, .string tf, .string tq, .string tn, .int .i64 vk, .int .i64 vx, .int .u64 vb, .string vs, .slice la ll lc, .int .i64 ru, .int .i64 nu, .int .i64 0, .int .i64 0, .int .u64 0, .int .i64 0, .slice none 0 0, .slice none 0 0]) := by rw [hW7]; exact (Ma7).put 10 (.int .i64 nu)
  have HW7 : Hid (W7 = (w7).setCell ⟨w.heap.size + 2, 10, none⟩ (.int .i64 nu)) := hW7
  have kk7 : ∀ B, w.heap.size + 3 ≤ B → B < w7.heap.size → W7.heap[B]? = w7.heap[B]? := fun B h1 h2 => by rw [hW7]; exact (Below.heap_setCell _ _ _ _ (show _ ≠ w.heap.size + 2 by omega))
  have IVn : Hid (IsN (w.heap.size + 3) W7 5 (.agg #[.int .i64 vk, .int .i64 vx, .int .u64 vb, .string vs, .slice la ll lc]) tv) := by have hz := M6.out.gw; exact IV.out.kept (fun B h1 h2 => (kk7 B h1 (Nat.lt_of_lt_of_le h2 k7.2.2.2.1)).trans (k7.2.2.2.2 B h2 (by omega)))
  clear IV
  have IV := IVn
  clear IVn
  clear hW7 kk7 Ma7 s7 k7
  go_upto_region 9 with fail
  rw [← HW7.out]
  clear a10 f10
  have rc7 := M7.out.rcell
  go_wp2_with fail
  clear rc7
  refine (K8.out _ M7.out.st (by have := M7.out.hw; have := M7.out.lt; omega)).mono ?_
  rintro x w8 ⟨rfl, s8, k8⟩
  have Ma8 := M7.out.step s8 k8
  have a11 := Ma8.cell 11 (v := .int .i64 0) rfl
  have f11 := Ma8.free 11
  obtain ⟨W8, hW8⟩ : ∃ W8, W8 = (w8).setCell ⟨w.heap.size + 2, 11, none⟩ (.int .i64 wa) := ⟨_, rfl⟩
  have M8 : Hid (Rb 31 #[.int .i64 0, .string ⟨#[]⟩, .string ⟨#[]⟩, .string ⟨#[]⟩, .int .i64 0, .int .i64 0, .int .u64 0, .string ⟨#[]⟩, .slice none 0 0, .int .i64 0, .int .i64 0, .int .i64 0, .int .i64 0, .int .u64 0, .int .i64 0, .slice none 0 0, .slice none 0 0] w W8 g h l8 e8 #[.int .i64 rk, .string tf, .string tq, .string tn, .int .i64 vk, .int .i64 vx, .int .u64 vb, .string vs, .slice la ll lc, .int .i64 ru, .int .i64 nu, .int .i64 wa, .int .i64 0, .int .u64 0, .int .i64 0, .slice none 0 0, .slice none 0 0]) := by rw [hW8]; exact (Ma8).put 11 (.int .i64 wa)
  have HW8 : Hid (W8 = (w8).setCell ⟨w.heap.size + 2, 11, none⟩ (.int .i64 wa)) := hW8
  have kk8 : ∀ B, w.heap.size + 3 ≤ B → B < w8.heap.size → W8.heap[B]? = w8.heap[B]? := fun B h1 h2 => by rw [hW8]; exact (Below.heap_setCell _ _ _ _ (show _ ≠ w.heap.size + 2 by omega))
  have IVn : Hid (IsN (w.heap.size + 3) W8 5 (.agg #[.int .i64 vk, .int .i64 vx, .int .u64 vb, .string vs, .slice la ll lc]) tv) := by have hz := M7.out.gw; exact IV.out.kept (fun B h1 h2 => (kk8 B h1 (Nat.lt_of_lt_of_le h2 k8.2.2.2.1)).trans (k8.2.2.2.2 B h2 (by omega)))
  clear IV
  have IV := IVn
  clear IVn
  clear hW8 kk8 Ma8 s8 k8
  go_upto_region 10 with fail
  rw [← HW8.out]
  clear a11 f11
  have rc8 := M8.out.rcell
  go_wp2_with fail
  clear rc8
  refine (K9.out _ M8.out.st (by have := M8.out.hw; have := M8.out.lt; omega)).mono ?_
  rintro x w9 ⟨rfl, s9, k9⟩
  have Ma9 := M8.out.step s9 k9
  have a12 := Ma9.cell 12 (v := .int .i64 0) rfl
  have f12 := Ma9.free 12
  have a13 := Ma9.cell 13 (v := .int .u64 0) rfl
  have f13 := Ma9.free 13
  have a14 := Ma9.cell 14 (v := .int .i64 0) rfl
  have f14 := Ma9.free 14
  obtain ⟨W9, hW9⟩ : ∃ W9, W9 = (((w9).setCell ⟨w.heap.size + 2, 12, none⟩ (.int .i64 p1)).setCell ⟨w.heap.size + 2, 13, none⟩ (.int .u64 (p2 : Int))).setCell ⟨w.heap.size + 2, 14, none⟩ (.int .i64 p3) := ⟨_, rfl⟩
  have M9 : Hid (Rb 31 #[.int .i64 0, .string ⟨#[]⟩, .string ⟨#[]⟩, .string ⟨#[]⟩, .int .i64 0, .int .i64 0, .int .u64 0, .string ⟨#[]⟩, .slice none 0 0, .int .i64 0, .int .i64 0, .int .i64 0, .int .i64 0, .int .u64 0, .int .i64 0, .slice none 0 0, .slice none 0 0] w W9 g h l9 e9 #[.int .i64 rk, .string tf, .string tq, .string tn, .int .i64 vk, .int .i64 vx, .int .u64 vb, .string vs, .slice la ll lc, .int .i64 ru, .int .i64 nu, .int .i64 wa, .int .i64 p1, .int .u64 (p2 : Int), .int .i64 p3, .slice none 0 0, .slice none 0 0]) := by rw [hW9]; exact (((Ma9).put 12 (.int .i64 p1)).put 13 (.int .u64 (p2 : Int))).put 14 (.int .i64 p3)
  have HW9 : Hid (W9 = (((w9).setCell ⟨w.heap.size + 2, 12, none⟩ (.int .i64 p1)).setCell ⟨w.heap.size + 2, 13, none⟩ (.int .u64 (p2 : Int))).setCell ⟨w.heap.size + 2, 14, none⟩ (.int .i64 p3)) := hW9
  have kk9 : ∀ B, w.heap.size + 3 ≤ B → B < w9.heap.size → W9.heap[B]? = w9.heap[B]? := fun B h1 h2 => by rw [hW9]; exact (Below.heap_setCell _ _ _ _ (show _ ≠ w.heap.size + 2 by omega)) |>.trans (Below.heap_setCell _ _ _ _ (show _ ≠ w.heap.size + 2 by omega)) |>.trans (Below.heap_setCell _ _ _ _ (show _ ≠ w.heap.size + 2 by omega))
  have IVn : Hid (IsN (w.heap.size + 3) W9 5 (.agg #[.int .i64 vk, .int .i64 vx, .int .u64 vb, .string vs, .slice la ll lc]) tv) := by have hz := M8.out.gw; exact IV.out.kept (fun B h1 h2 => (kk9 B h1 (Nat.lt_of_lt_of_le h2 k9.2.2.2.1)).trans (k9.2.2.2.2 B h2 (by omega)))
  clear IV
  have IV := IVn
  clear IVn
  clear hW9 kk9 Ma9 s9 k9
  go_upto_region 11 with fail
  rw [← HW9.out]
  clear a12 f12 a13 f13 a14 f14
  have rc9 := M9.out.rcell
  go_wp2_with fail
  clear rc9
  refine (K10.out _ M9.out.st (by have := M9.out.hw; have := M9.out.lt; omega)).mono ?_
  rintro x w10 ⟨ca, cc, rfl, hi10, s10, k10⟩
  dsimp only at hi10 s10 ⊢
  have Ma10 := M9.out.step s10 k10
  have a15 := Ma10.cell 15 (v := .slice none 0 0) rfl
  have f15 := Ma10.free 15
  obtain ⟨W10, hW10⟩ : ∃ W10, W10 = (w10).setCell ⟨w.heap.size + 2, 15, none⟩ (.slice ca cds.length cc) := ⟨_, rfl⟩
  have M10 : Hid (Rb 31 #[.int .i64 0, .string ⟨#[]⟩, .string ⟨#[]⟩, .string ⟨#[]⟩, .int .i64 0, .int .i64 0, .int .u64 0, .string ⟨#[]⟩, .slice none 0 0, .int .i64 0, .int .i64 0, .int .i64 0, .int .i64 0, .int .u64 0, .int .i64 0, .slice none 0 0, .slice none 0 0] w W10 g h l10 e10 #[.int .i64 rk, .string tf, .string tq, .string tn, .int .i64 vk, .int .i64 vx, .int .u64 vb, .string vs, .slice la ll lc, .int .i64 ru, .int .i64 nu, .int .i64 wa, .int .i64 p1, .int .u64 (p2 : Int), .int .i64 p3, .slice ca cds.length cc, .slice none 0 0]) := by rw [hW10]; exact (Ma10).put 15 (.slice ca cds.length cc)
  have HW10 : Hid (W10 = (w10).setCell ⟨w.heap.size + 2, 15, none⟩ (.slice ca cds.length cc)) := hW10
  have kk10 : ∀ B, w.heap.size + 3 ≤ B → B < w10.heap.size → W10.heap[B]? = w10.heap[B]? := fun B h1 h2 => by rw [hW10]; exact (Below.heap_setCell _ _ _ _ (show _ ≠ w.heap.size + 2 by omega))
  have IVn : Hid (IsN (w.heap.size + 3) W10 5 (.agg #[.int .i64 vk, .int .i64 vx, .int .u64 vb, .string vs, .slice la ll lc]) tv) := by have hz := M9.out.gw; exact IV.out.kept (fun B h1 h2 => (kk10 B h1 (Nat.lt_of_lt_of_le h2 k10.2.2.2.1)).trans (k10.2.2.2.2 B h2 (by omega)))
  have IC : Hid (LsE (w.heap.size + 3) 8 ElC W10 5 ca cds) := by have hz := M9.out.lt; exact (hi10.lower elC (by omega)).kept elC kk10
  clear IV
  have IV := IVn
  clear IVn
  clear hW10 kk10 Ma10 s10 k10 hi10
  go_upto_region 12 with fail
  rw [← HW10.out]
  clear a15 f15
  have rc10 := M10.out.rcell
  go_wp2_with fail
  clear rc10
  refine (K11.out _ M10.out.st (by have := M10.out.hw; have := M10.out.lt; omega)).mono ?_
  rintro x w11 ⟨aa, ac, rfl, hi11, s11, k11⟩
  dsimp only at hi11 s11 ⊢
  have Ma11 := M10.out.step s11 k11
  have a16 := Ma11.cell 16 (v := .slice none 0 0) rfl
  have f16 := Ma11.free 16
  obtain ⟨W11, hW11⟩ : ∃ W11, W11 = (w11).setCell ⟨w.heap.size + 2, 16, none⟩ (.slice aa ads.length ac) := ⟨_, rfl⟩
  have M11 : Hid (Rb 31 #[.int .i64 0, .string ⟨#[]⟩, .string ⟨#[]⟩, .string ⟨#[]⟩, .int .i64 0, .int .i64 0, .int .u64 0, .string ⟨#[]⟩, .slice none 0 0, .int .i64 0, .int .i64 0, .int .i64 0, .int .i64 0, .int .u64 0, .int .i64 0, .slice none 0 0, .slice none 0 0] w W11 g h l11 e11 #[.int .i64 rk, .string tf, .string tq, .string tn, .int .i64 vk, .int .i64 vx, .int .u64 vb, .string vs, .slice la ll lc, .int .i64 ru, .int .i64 nu, .int .i64 wa, .int .i64 p1, .int .u64 (p2 : Int), .int .i64 p3, .slice ca cds.length cc, .slice aa ads.length ac]) := by rw [hW11]; exact (Ma11).put 16 (.slice aa ads.length ac)
  have HW11 : Hid (W11 = (w11).setCell ⟨w.heap.size + 2, 16, none⟩ (.slice aa ads.length ac)) := hW11
  have kk11 : ∀ B, w.heap.size + 3 ≤ B → B < w11.heap.size → W11.heap[B]? = w11.heap[B]? := fun B h1 h2 => by rw [hW11]; exact (Below.heap_setCell _ _ _ _ (show _ ≠ w.heap.size + 2 by omega))
  have IVn : Hid (IsN (w.heap.size + 3) W11 5 (.agg #[.int .i64 vk, .int .i64 vx, .int .u64 vb, .string vs, .slice la ll lc]) tv) := by have hz := M10.out.gw; exact IV.out.kept (fun B h1 h2 => (kk11 B h1 (Nat.lt_of_lt_of_le h2 k11.2.2.2.1)).trans (k11.2.2.2.2 B h2 (by omega)))
  have ICn : Hid (LsE (w.heap.size + 3) 8 ElC W11 5 ca cds) := by have hz := M10.out.gw; exact IC.out.kept elC (fun B h1 h2 => (kk11 B h1 (Nat.lt_of_lt_of_le h2 k11.2.2.2.1)).trans (k11.2.2.2.2 B h2 (by omega)))
  have IA : Hid (LsE (w.heap.size + 3) 6 ElA W11 5 aa ads) := by have hz := M10.out.lt; exact (hi11.lower elA (by omega)).kept elA kk11
  clear IV IC
  have IV := IVn
  clear IVn
  have IC := ICn
  clear ICn
  clear hW11 kk11 Ma11 s11 k11 hi11
  go_upto_region 13 with fail
  rw [← HW11.out]
  clear a16 f16
  have A1 : Hid ((#[.int .i64 rk, .string tf, .string tq, .string tn, .int .i64 vk, .int .i64 vx, .int .u64 vb, .string vs, .slice la ll lc, .int .i64 ru, .int .i64 nu, .int .i64 wa, .int .i64 p1, .int .u64 (p2 : Int), .int .i64 p3, .slice ca cds.length cc, .slice aa ads.length ac] : Array Value).all (·.oneCell') = true) := by show _ = _; simp [Value.oneCell']
  have ho := M11.out.own
  have hr := M11.out.res
  have FIN : Hid _ := M11.out.fin
  have LT : Hid _ := M11.out.lt
  have GW : Hid _ := M11.out.gw
  go_wp2_with (first | refine wpList_load_row rfl 31 _ rfl (w.heap.size + 2) rfl 31 _ (0, 0) _ ho Try.underlying31 rfl infoR31 ?_ | refine wpList_store_row rfl 31 _ _ rfl (w.heap.size + 1) _ rfl rfl 31 _ hr infoR31 rfl A1.out ?_)
  refine bodyPost_ret (results_cell_row Try.results26 _ _ (w.heap.size + 1) 31 _ (0, 0) _ ?_ FIN.out.2.2.1 Try.underlying31 rfl infoR31) ?_ ?_
  · rfl
  · rfl
  rw [HP.out]
  exact ⟨vk, vx, vb, vs, la, ll, lc, ca, cc, aa, ac, rfl, (IV.out.kept (fun B h1 h2 => FIN.out.2.2.2 B (by omega))).lower (by omega), (IC.out.kept elC (fun B h1 h2 => FIN.out.2.2.2 B (by omega))).lower elC (by omega), (IA.out.kept elA (fun B h1 h2 => FIN.out.2.2.2 B (by omega))).lower elA (by omega), FIN.out.1, FIN.out.2.1⟩
end Go.Proofs.Ytjmonkhkcmcfiaa
namespace Go.Proofs.Ytjmonkhkcmcfiaa
open Go.ChangeShapes Go.WideShapes Go.ChangeAt Go.RowKit
def zRq : Rq := ⟨0, ⟨#[]⟩, ⟨#[]⟩, ⟨#[]⟩, zT, 0, 0, 0, 0, 0, 0, [], []⟩
/-- What is read of all bytes. -/
def psQ (l : List UInt8) : Rq × Int :=
  if en (rdRq l 0).2.1 (rdRq l 0).2.2 = 0 then ((rdRq l 0).1, 0) else (zRq, en (rdRq l 0).2.1 (rdRq l 0).2.2)
/-- What ReadRequest gives. -/
def rdQ (l : List UInt8) : Rq × Int := if l.length ≤ 16384 then psQ l else (zRq, 5)
/-- A request, read, and an error. -/
def OnP (w : World) (r : Rq × Int) (x : Ending) (w' : World) : Prop :=
  ∃ k vx b s la lm lc ca cc aa ac, x = .returned (.tuple #[.agg #[.int .i64 r.1.rk, .string r.1.f, .string r.1.q, .string r.1.nm, .int .i64 k, .int .i64 vx, .int .u64 b, .string s, .slice la lm lc, .int .i64 r.1.ru, .int .i64 r.1.nu, .int .i64 r.1.wa, .int .i64 r.1.pf, .int .u64 (r.1.pc : Int), .int .i64 r.1.pm, .slice ca r.1.cds.length cc, .slice aa r.1.ads.length ac], .int .i64 r.2]) ∧
    IsN w.heap.size w' 5 (.agg #[.int .i64 k, .int .i64 vx, .int .u64 b, .string s, .slice la lm lc]) r.1.t ∧ LsE w.heap.size 8 ElC w' 5 ca r.1.cds ∧ LsE w.heap.size 6 ElA w' 5 aa r.1.ads ∧ Below w.heap.size w w'
theorem retQ {fn : Func} {p q : Tmp} (h : fn.results = #[.cell p 31, .tmp q]) (tmps : Array Value) {w : World} {g : Nat} {row : Array Value} {y : Value} (hz : row.size = 17) (hp : tmps.getD p undef = .pointer (some ⟨g, 0, none⟩)) (hq : tmps.getD q undef = y) (hg : w.heap[g]? = some (.cells row 31 (0, 0))) :
    (results fn tmps).run Try.prog w = .ok (.tuple #[.agg row, y]) w := by
  have hp' : tmps[p]?.getD undef = .pointer (some ⟨g, 0, none⟩) := by simpa using hp
  have hq' : tmps[q]?.getD undef = y := by simpa using hq
  have hi : (Try.prog.info? 31).map (·.size) = some row.size := by rw [hz]; exact infoR31
  simp [results, h, hp', hq', asAddr, run_loadVar_row w g 31 31 row (0, 0) _ hg Try.underlying31 rfl hi]
/-- Where only stands when the request is read. -/
structure Pq (w W : World) (row : Array Value) (q : Nat) : Prop where
  q0 : w.heap.size < q
  q1 : q < W.heap.size
  res : W.heap[w.heap.size]? = some (.cells #[.int .i64 0, .string ⟨#[]⟩, .string ⟨#[]⟩, .string ⟨#[]⟩, .int .i64 0, .int .i64 0, .int .u64 0, .string ⟨#[]⟩, .slice none 0 0, .int .i64 0, .int .i64 0, .int .i64 0, .int .i64 0, .int .u64 0, .int .i64 0, .slice none 0 0, .slice none 0 0] 31 (0, 0))
  own : W.heap[q]? = some (.cells row 31 (0, 0))
  bel : Below w.heap.size w W
set_option maxHeartbeats 4000000 in
set_option maxRecDepth 100000 in
theorem only_calls (w : World) (v : Value) (l : List UInt8) (hv : Lib.HoldsBytes w v l) (hl : l.length ≤ 281474976710656) :
    Calls Try.prog 25 #[v, .func (.func 26) #[] #[]] w (OnP w (psQ l)) := by
  obtain ⟨W0, hW0⟩ : ∃ W0, W0 = w.alloc (.cells #[.int .i64 0, .string ⟨#[]⟩, .string ⟨#[]⟩, .string ⟨#[]⟩, .int .i64 0, .int .i64 0, .int .u64 0, .string ⟨#[]⟩, .slice none 0 0, .int .i64 0, .int .i64 0, .int .i64 0, .int .i64 0, .int .u64 0, .int .i64 0, .slice none 0 0, .slice none 0 0] 31) := ⟨_, rfl⟩
  have b0 : Below w.heap.size w W0 := by rw [hW0]; exact bel1 _ _
  have hz0 : W0.heap.size = w.heap.size + 1 := by rw [hW0]; simp
  have r0 : W0.heap[w.heap.size]? = some (.cells #[.int .i64 0, .string ⟨#[]⟩, .string ⟨#[]⟩, .string ⟨#[]⟩, .int .i64 0, .int .i64 0, .int .u64 0, .string ⟨#[]⟩, .slice none 0 0, .int .i64 0, .int .i64 0, .int .i64 0, .int .i64 0, .int .u64 0, .int .i64 0, .slice none 0 0, .slice none 0 0] 31 (0, 0)) := by rw [hW0]; exact heap_alloc_new w _
  have HW0 : Hid (W0 = w.alloc (.cells #[.int .i64 0, .string ⟨#[]⟩, .string ⟨#[]⟩, .string ⟨#[]⟩, .int .i64 0, .int .i64 0, .int .u64 0, .string ⟨#[]⟩, .slice none 0 0, .int .i64 0, .int .i64 0, .int .i64 0, .int .i64 0, .int .u64 0, .int .i64 0, .slice none 0 0, .slice none 0 0] 31)) := hW0
  have HX : Hid (Below w.heap.size w W0 ∧ W0.heap.size = w.heap.size + 1 ∧ W0.heap[w.heap.size]? = some (.cells #[.int .i64 0, .string ⟨#[]⟩, .string ⟨#[]⟩, .string ⟨#[]⟩, .int .i64 0, .int .i64 0, .int .u64 0, .string ⟨#[]⟩, .slice none 0 0, .int .i64 0, .int .i64 0, .int .i64 0, .int .i64 0, .int .u64 0, .int .i64 0, .slice none 0 0, .slice none 0 0] 31 (0, 0))) := ⟨b0, hz0, r0⟩
  have OC : Hid (Calls Try.prog 54 #[v] W0 _) := open_calls v l W0 (holds_below hv b0) hl
  have RC : Hid (∀ (w : World) (g h : Nat), St w g h l 0 → h < w.heap.size → Calls Try.prog 26 #[.agg #[.pointer (some ⟨g, 0, none⟩)]] w (RqP w g h (rdRq l 0))) := fun w g h r hh => rrequest_calls w g h l 0 r hh hl
  obtain ⟨k', x', b', rfl⟩ : ∃ a m c, v = .slice a m c := by obtain ⟨p, cap, rfl, q1, q2⟩ := hv; exact ⟨_, _, _, rfl⟩
  have hdef : psQ l = if en (rdRq l 0).2.1 (rdRq l 0).2.2 = 0 then ((rdRq l 0).1, 0) else (zRq, en (rdRq l 0).2.1 (rdRq l 0).2.2) := rfl
  rw [hdef]
  generalize rdRq l 0 = R at RC ⊢
  obtain ⟨⟨rk, tf, tq, tn, tv, ru, nu, wa, pf, pc, pm, cds, ads⟩, l2, e2⟩ := R
  dsimp only
  obtain ⟨E, hE⟩ : ∃ E, E = en l2 e2 := ⟨_, rfl⟩
  rw [← hE]
  have HE : Hid (E = en l2 e2) := hE
  obtain ⟨RR, hRR⟩ : ∃ RR, RR = if E = 0 then ((⟨rk, tf, tq, tn, tv, ru, nu, wa, pf, pc, pm, cds, ads⟩ : Rq), (0 : Int)) else (zRq, E) := ⟨_, rfl⟩
  rw [← hRR]
  have HRR : Hid (RR = if E = 0 then ((⟨rk, tf, tq, tn, tv, ru, nu, wa, pf, pc, pm, cds, ads⟩ : Rq), (0 : Int)) else (zRq, E)) := hRR
  clear hdef hv hl hE hW0 b0 hz0 r0 hRR
  go_enter Try.func25, Try.ntmps25
  go_upto_region 1 with fail
  rw [← HW0.out]
  go_wp2_with fail
  refine OC.out.mono ?_
  rintro x w1 ⟨g, h, rfl, hh1, hh2, hg1, s1, b1⟩
  obtain ⟨A, hA⟩ : ∃ A, A = w1.alloc (.cells #[.pointer (some ⟨g, 0, none⟩)] 79) := ⟨_, rfl⟩
  have HA : Hid (A = w1.alloc (.cells #[.pointer (some ⟨g, 0, none⟩)] 79)) := hA
  have sA : St A g h l 0 := by rw [hA]; exact s1.alloc (by omega) _
  have zA : A.heap.size = w1.heap.size + 1 := by rw [hA]; simp
  have rA : Hid (A.heap[w1.heap.size]? = some (.cells #[.pointer (some ⟨g, 0, none⟩)] 79 (0, 0))) := by rw [hA]; exact heap_alloc_new w1 _
  have bA : Below w1.heap.size w1 A := by rw [hA]; exact bel1 _ _
  have RC1 : Hid (Calls Try.prog 26 #[.agg #[.pointer (some ⟨g, 0, none⟩)]] A (RqP A g h ((⟨rk, tf, tq, tn, tv, ru, nu, wa, pf, pc, pm, cds, ads⟩ : Rq), l2, e2))) := RC.out A g h sA (by omega)
  have HB : Hid (Below W0.heap.size W0 w1 ∧ Below w1.heap.size w1 A ∧ A.heap.size = w1.heap.size + 1 ∧ W0.heap.size ≤ h ∧ h < g ∧ g < w1.heap.size) := ⟨b1, bA, zA, hh1, hh2, hg1⟩
  clear hh1 hh2 hg1 s1 b1 RC hA sA zA bA
  go_upto_region 2 with fail
  rw [← HA.out]
  have rc1 : A.cell? ⟨w1.heap.size, 0, none⟩ = some (.pointer (some ⟨g, 0, none⟩)) := row_cell rA.out rfl
  go_wp2_with fail
  clear rc1
  refine RC1.out.mono ?_
  rintro x w2 ⟨vk, vx, vb, vs, va, vm, vc, ca, cc, aa, ac, rfl, hi2, hc2, ha2, s2, k2⟩
  dsimp only at hi2 hc2 ha2 s2 ⊢
  obtain ⟨W2, hW2⟩ : ∃ W2, W2 = w2.alloc (.cells #[.int .i64 rk, .string tf, .string tq, .string tn, .int .i64 vk, .int .i64 vx, .int .u64 vb, .string vs, .slice va vm vc, .int .i64 ru, .int .i64 nu, .int .i64 wa, .int .i64 pf, .int .u64 (pc : Int), .int .i64 pm, .slice ca cds.length cc, .slice aa ads.length ac] 31) := ⟨_, rfl⟩
  have HW2 : Hid (W2 = w2.alloc (.cells #[.int .i64 rk, .string tf, .string tq, .string tn, .int .i64 vk, .int .i64 vx, .int .u64 vb, .string vs, .slice va vm vc, .int .i64 ru, .int .i64 nu, .int .i64 wa, .int .i64 pf, .int .u64 (pc : Int), .int .i64 pm, .slice ca cds.length cc, .slice aa ads.length ac] 31)) := hW2
  obtain ⟨q, hq⟩ : ∃ q, q = w2.heap.size := ⟨_, rfl⟩
  have HQ : Hid (q = w2.heap.size) := hq
  have bW : Below w2.heap.size w2 W2 := by rw [hW2]; exact bel1 _ _
  obtain ⟨x1, x2, x3⟩ := HX.out
  obtain ⟨y1, y2, y3, y4, y5, y6⟩ := HB.out
  have z1 := y1.size
  have z2 := k2.2.2.2.1
  have hold : ∀ i, i < W0.heap.size → W2.heap[i]? = W0.heap[i]? := fun i hi => (bW.block i (by omega)).trans ((k2.2.2.2.2 i (by omega) (by omega)).trans ((y2.block i (by omega)).trans (y1.block i hi)))
  have M0 : Hid (Pq w W2 #[.int .i64 rk, .string tf, .string tq, .string tn, .int .i64 vk, .int .i64 vx, .int .u64 vb, .string vs, .slice va vm vc, .int .i64 ru, .int .i64 nu, .int .i64 wa, .int .i64 pf, .int .u64 (pc : Int), .int .i64 pm, .slice ca cds.length cc, .slice aa ads.length ac] q) := by
    refine ⟨by omega, by rw [hW2, hq]; simp, (hold _ (by omega)).trans x3, by rw [hW2, hq]; exact heap_alloc_new w2 _, ?_⟩
    exact x1.trans ((y1.mono (by omega)).trans ((y2.mono (by omega)).trans ((k2.below (by omega) (by omega)).trans (bW.mono (by omega)))))
  have IV : Hid (IsN (w.heap.size + 1) W2 5 (.agg #[.int .i64 vk, .int .i64 vx, .int .u64 vb, .string vs, .slice va vm vc]) tv) := (hi2.lower (by omega)).kept (fun B _ h2 => bW.block B h2)
  have IC : Hid (LsE (w.heap.size + 1) 8 ElC W2 5 ca cds) := (hc2.lower elC (by omega)).kept elC (fun B _ h2 => bW.block B h2)
  have IA : Hid (LsE (w.heap.size + 1) 6 ElA W2 5 aa ads) := (ha2.lower elA (by omega)).kept elA (fun B _ h2 => bW.block B h2)
  have rcell : Hid (W2.cell? ⟨w1.heap.size, 0, none⟩ = some (.pointer (some ⟨g, 0, none⟩))) := row_cell ((bW.block _ (by omega)).trans ((k2.2.2.2.2 _ (by omega) (by omega)).trans rA.out)) rfl
  have EC : Hid (Calls Try.prog 55 #[.pointer (some ⟨g, 0, none⟩)] W2 fun x w' => x = .returned (.int .i64 E) ∧ w' = W2) := by
    have := end_st W2 g h l2 e2 (s2.keep bW.size (bW.block g (by omega)) (bW.block h (by omega)))
    rwa [← HE.out] at this
  clear hi2 hc2 ha2 s2 k2 hW2 hq bW x1 x2 x3 y1 y2 y3 y4 y5 y6 z1 z2 hold
  go_upto_region 3 with fail
  rw [← HW2.out, ← HQ.out]
  have rc2 := rcell.out
  go_wp2_with fail
  clear rc2
  refine EC.out.mono ?_
  rintro x w3 ⟨rfl, hw3⟩
  have hw3' := hw3.symm
  subst hw3'
  clear hw3
  have hr := M0.out.res
  have LT : Hid _ := M0.out.q0
  by_cases h0 : E = 0
  · have dE : (E != 0) = false := by simpa using h0
    have HR0 : Hid (RR = _) := HRR.out.trans (if_pos h0)
    clear h0
    have ho := M0.out.own
    have A1 : Hid ((#[.int .i64 rk, .string tf, .string tq, .string tn, .int .i64 vk, .int .i64 vx, .int .u64 vb, .string vs, .slice va vm vc, .int .i64 ru, .int .i64 nu, .int .i64 wa, .int .i64 pf, .int .u64 (pc : Int), .int .i64 pm, .slice ca cds.length cc, .slice aa ads.length ac] : Array Value).all (·.oneCell') = true) := by show _ = _; simp [Value.oneCell']
    go_upto_region 7 with fail
    go_wp2_with (first | refine wpList_load_row rfl 31 _ rfl q rfl 31 _ (0, 0) _ ho Try.underlying31 rfl infoR31 ?_ | refine wpList_store_row rfl 31 _ _ rfl w.heap.size _ rfl rfl 31 _ hr infoR31 rfl A1.out ?_)
    refine bodyPost_ret (retQ (y := .int .i64 0) Try.results25 _ rfl ?_ ?_ (setRow_heap _ w.heap.size _ _ 31 (0, 0) hr)) ?_ ?_
    · rfl
    · rfl
    · rfl
    have hk : ∀ (cs : Array Value) B, w.heap.size + 1 ≤ B → B < W2.heap.size → (W2.setRow w.heap.size cs).heap[B]? = W2.heap[B]? := fun cs B h1 _ => setRow_other _ _ _ _ (by omega)
    rw [HR0.out]
    exact ⟨vk, vx, vb, vs, va, vm, vc, ca, cc, aa, ac, rfl, (IV.out.kept (hk _)).lower (by omega), (IC.out.kept elC (hk _)).lower elC (by omega), (IA.out.kept elA (hk _)).lower elA (by omega), below_setRow M0.out.bel (Nat.le_refl _) _⟩
  · have dE : (E != 0) = true := by simpa using h0
    have HR0 : Hid (RR = _) := HRR.out.trans (if_neg h0)
    clear h0
    have A1 : Hid ((#[.int .i64 0, .string ⟨#[]⟩, .string ⟨#[]⟩, .string ⟨#[]⟩, .int .i64 0, .int .i64 0, .int .u64 0, .string ⟨#[]⟩, .slice none 0 0, .int .i64 0, .int .i64 0, .int .i64 0, .int .i64 0, .int .u64 0, .int .i64 0, .slice none 0 0, .slice none 0 0] : Array Value).all (·.oneCell') = true) := by show _ = _; simp [Value.oneCell']
    obtain ⟨W4, hW4⟩ : ∃ W4, W4 = W2.alloc (.cells #[.int .i64 0, .string ⟨#[]⟩, .string ⟨#[]⟩, .string ⟨#[]⟩, .int .i64 0, .int .i64 0, .int .u64 0, .string ⟨#[]⟩, .slice none 0 0, .int .i64 0, .int .i64 0, .int .i64 0, .int .i64 0, .int .u64 0, .int .i64 0, .slice none 0 0, .slice none 0 0] 31) := ⟨_, rfl⟩
    have HW4 : Hid (W4 = W2.alloc (.cells #[.int .i64 0, .string ⟨#[]⟩, .string ⟨#[]⟩, .string ⟨#[]⟩, .int .i64 0, .int .i64 0, .int .u64 0, .string ⟨#[]⟩, .slice none 0 0, .int .i64 0, .int .i64 0, .int .i64 0, .int .i64 0, .int .u64 0, .int .i64 0, .slice none 0 0, .slice none 0 0] 31)) := hW4
    have hr4 : W4.heap[w.heap.size]? = some (.cells #[.int .i64 0, .string ⟨#[]⟩, .string ⟨#[]⟩, .string ⟨#[]⟩, .int .i64 0, .int .i64 0, .int .u64 0, .string ⟨#[]⟩, .slice none 0 0, .int .i64 0, .int .i64 0, .int .i64 0, .int .i64 0, .int .u64 0, .int .i64 0, .slice none 0 0, .slice none 0 0] 31 (0, 0)) := by rw [hW4]; exact ((bel1 _ _).block _ (by have := M0.out.q1; have := M0.out.q0; omega)).trans hr
    have ho4 : W4.heap[W2.heap.size]? = some (.cells #[.int .i64 0, .string ⟨#[]⟩, .string ⟨#[]⟩, .string ⟨#[]⟩, .int .i64 0, .int .i64 0, .int .u64 0, .string ⟨#[]⟩, .slice none 0 0, .int .i64 0, .int .i64 0, .int .i64 0, .int .i64 0, .int .u64 0, .int .i64 0, .slice none 0 0, .slice none 0 0] 31 (0, 0)) := by rw [hW4]; exact heap_alloc_new _ _
    have B4 : Hid (Below w.heap.size w W4) := by rw [hW4]; exact M0.out.bel.trans ((bel1 _ _).mono (by have := M0.out.q1; have := M0.out.q0; omega))
    clear hr hW4
    go_upto_region 6 with fail
    rw [← HW4.out]
    go_wp2_with (first | refine wpList_load_row rfl 31 _ rfl W2.heap.size rfl 31 _ (0, 0) _ ho4 Try.underlying31 rfl infoR31 ?_ | refine wpList_store_row rfl 31 _ _ rfl w.heap.size _ rfl rfl 31 _ hr4 infoR31 rfl A1.out ?_)
    refine bodyPost_ret (retQ (y := .int .i64 E) Try.results25 _ rfl ?_ ?_ (setRow_heap _ w.heap.size _ _ 31 (0, 0) hr4)) ?_ ?_
    · rfl
    · rfl
    · rfl
    rw [HR0.out]
    exact ⟨0, 0, 0, ⟨#[]⟩, none, 0, 0, none, 0, none, 0, rfl, zT_is _ _ 4, LsE.nil _ _ _ _ _ _, LsE.nil _ _ _ _ _ _, below_setRow B4.out (Nat.le_refl _) _⟩
set_option maxHeartbeats 4000000 in
set_option maxRecDepth 100000 in
theorem readrequest_calls (w : World) (v : Value) (l : List UInt8) (hv : Lib.HoldsBytes w v l) (hl : l.length ≤ 281474976710656) :
    Calls Try.prog 9 #[v] w (OnP w (rdQ l)) := by
  obtain ⟨W0, hW0⟩ : ∃ W0, W0 = w.alloc (.cells #[.int .i64 0, .string ⟨#[]⟩, .string ⟨#[]⟩, .string ⟨#[]⟩, .int .i64 0, .int .i64 0, .int .u64 0, .string ⟨#[]⟩, .slice none 0 0, .int .i64 0, .int .i64 0, .int .i64 0, .int .i64 0, .int .u64 0, .int .i64 0, .slice none 0 0, .slice none 0 0] 31) := ⟨_, rfl⟩
  have b0 : Below w.heap.size w W0 := by rw [hW0]; exact bel1 _ _
  have hz0 : W0.heap.size = w.heap.size + 1 := by rw [hW0]; simp
  have r0 : Hid (W0.heap[w.heap.size]? = some (.cells #[.int .i64 0, .string ⟨#[]⟩, .string ⟨#[]⟩, .string ⟨#[]⟩, .int .i64 0, .int .i64 0, .int .u64 0, .string ⟨#[]⟩, .slice none 0 0, .int .i64 0, .int .i64 0, .int .i64 0, .int .i64 0, .int .u64 0, .int .i64 0, .slice none 0 0, .slice none 0 0] 31 (0, 0))) := by rw [hW0]; exact heap_alloc_new w _
  have HW0 : Hid (W0 = w.alloc (.cells #[.int .i64 0, .string ⟨#[]⟩, .string ⟨#[]⟩, .string ⟨#[]⟩, .int .i64 0, .int .i64 0, .int .u64 0, .string ⟨#[]⟩, .slice none 0 0, .int .i64 0, .int .i64 0, .int .i64 0, .int .i64 0, .int .u64 0, .int .i64 0, .slice none 0 0, .slice none 0 0] 31)) := hW0
  have HX : Hid (Below w.heap.size w W0 ∧ W0.heap.size = w.heap.size + 1) := ⟨b0, hz0⟩
  have OC : Hid (Calls Try.prog 25 #[v, .func (.func 26) #[] #[]] W0 (OnP W0 (psQ l))) := only_calls W0 v l (holds_below hv b0) hl
  obtain ⟨k', x', rfl⟩ : ∃ a c, v = .slice a l.length c := by obtain ⟨p, cap, rfl, q1, q2⟩ := hv; exact ⟨_, _, rfl⟩
  unfold rdQ
  clear hv hl hW0 b0 hz0
  by_cases h0 : l.length ≤ 16384
  · have d0 : decide ((l.length : Int) > 16384) = false := decide_eq_false (by omega)
    have d1 : decide ((16384 : Int) < (l.length : Int)) = false := decide_eq_false (by omega)
    rw [if_pos h0]
    clear h0
    generalize psQ l = R at OC ⊢
    obtain ⟨⟨rk, tf, tq, tn, tv, ru, nu, wa, pf, pc, pm, cds, ads⟩, E⟩ := R
    go_enter Try.func9, Try.ntmps9
    go_upto_region 1 with fail
    rw [← HW0.out]
    go_upto_region 3 with fail
    go_wp2_with fail
    refine OC.out.mono ?_
    rintro x w2 ⟨vk, vx, vb, vs, va, vm, vc, ca, cc, aa, ac, rfl, hi2, hc2, ha2, b2⟩
    dsimp only at hi2 hc2 ha2 ⊢
    obtain ⟨x1, x2⟩ := HX.out
    have hr : w2.heap[w.heap.size]? = some (.cells #[.int .i64 0, .string ⟨#[]⟩, .string ⟨#[]⟩, .string ⟨#[]⟩, .int .i64 0, .int .i64 0, .int .u64 0, .string ⟨#[]⟩, .slice none 0 0, .int .i64 0, .int .i64 0, .int .i64 0, .int .i64 0, .int .u64 0, .int .i64 0, .slice none 0 0, .slice none 0 0] 31 (0, 0)) := (b2.block _ (by omega)).trans r0.out
    have B2 : Hid (Below w.heap.size w w2) := bel2 x1 b2
    have A1 : Hid ((#[.int .i64 rk, .string tf, .string tq, .string tn, .int .i64 vk, .int .i64 vx, .int .u64 vb, .string vs, .slice va vm vc, .int .i64 ru, .int .i64 nu, .int .i64 wa, .int .i64 pf, .int .u64 (pc : Int), .int .i64 pm, .slice ca cds.length cc, .slice aa ads.length ac] : Array Value).all (·.oneCell') = true) := by show _ = _; simp [Value.oneCell']
    have IV : Hid (IsN (w.heap.size + 1) w2 5 (.agg #[.int .i64 vk, .int .i64 vx, .int .u64 vb, .string vs, .slice va vm vc]) tv) := hi2.lower (by omega)
    have IC : Hid (LsE (w.heap.size + 1) 8 ElC w2 5 ca cds) := hc2.lower elC (by omega)
    have IA : Hid (LsE (w.heap.size + 1) 6 ElA w2 5 aa ads) := ha2.lower elA (by omega)
    clear x1 x2 b2 hi2 hc2 ha2
    go_wp2_with (refine wpList_store_row rfl 31 _ _ rfl w.heap.size _ rfl rfl 31 _ hr infoR31 rfl A1.out ?_)
    refine bodyPost_ret (retQ (y := .int .i64 E) Try.results9 _ rfl ?_ ?_ (setRow_heap _ w.heap.size _ _ 31 (0, 0) hr)) ?_ ?_
    · rfl
    · rfl
    · rfl
    have hk : ∀ (cs : Array Value) B, w.heap.size + 1 ≤ B → B < w2.heap.size → (w2.setRow w.heap.size cs).heap[B]? = w2.heap[B]? := fun cs B h1 _ => setRow_other _ _ _ _ (by omega)
    exact ⟨vk, vx, vb, vs, va, vm, vc, ca, cc, aa, ac, rfl, (IV.out.kept (hk _)).lower (by omega), (IC.out.kept elC (hk _)).lower elC (by omega), (IA.out.kept elA (hk _)).lower elA (by omega), below_setRow B2.out (Nat.le_refl _) _⟩
  · have d0 : decide ((l.length : Int) > 16384) = true := decide_eq_true (by omega)
    have d1 : decide ((16384 : Int) < (l.length : Int)) = true := decide_eq_true (by omega)
    rw [if_neg h0]
    clear h0 OC
    have hr := r0.out
    have A1 : Hid ((#[.int .i64 0, .string ⟨#[]⟩, .string ⟨#[]⟩, .string ⟨#[]⟩, .int .i64 0, .int .i64 0, .int .u64 0, .string ⟨#[]⟩, .slice none 0 0, .int .i64 0, .int .i64 0, .int .i64 0, .int .i64 0, .int .u64 0, .int .i64 0, .slice none 0 0, .slice none 0 0] : Array Value).all (·.oneCell') = true) := by show _ = _; simp [Value.oneCell']
    go_enter Try.func9, Try.ntmps9
    go_upto_region 1 with fail
    rw [← HW0.out]
    go_upto_region 2 with fail
    go_wp2_with (refine wpList_store_row rfl 31 _ _ rfl w.heap.size _ rfl rfl 31 _ hr infoR31 rfl A1.out ?_)
    refine bodyPost_ret (retQ (y := .int .i64 5) Try.results9 _ rfl ?_ ?_ (setRow_heap _ w.heap.size _ _ 31 (0, 0) hr)) ?_ ?_
    · rfl
    · rfl
    · rfl
    exact ⟨0, 0, 0, ⟨#[]⟩, none, 0, 0, none, 0, none, 0, rfl, zT_is _ _ 4, LsE.nil _ _ _ _ _ _, LsE.nil _ _ _ _ _ _, below_setRow HX.out.1 (Nat.le_refl _) _⟩
end Go.Proofs.Ytjmonkhkcmcfiaa
namespace Go.Proofs.Ytjmonkhkcmcfiaa
open Go.ChangeShapes Go.WideShapes Go.ChangeAt Go.RowKit
/-- A list of structs, wherever it lies. -/
def LsG {α : Type} (Sz : Nat) (El : (Value → Tv → Prop) → Array Value → α → Prop) (w : World) (n : Nat) (a : Option Addr) (ds : List α) : Prop :=
  ∀ (i : Nat) d, ds[i]? = some d → ∃ B o row, a = some ⟨B, o, none⟩ ∧ (∀ (k : Nat) c, row[k]? = some c → w.cell? ⟨B, o + i * Sz + k, none⟩ = some c) ∧ El (Is w n) row d
theorem LsG.below {α : Type} {Sz : Nat} {El : (Value → Tv → Prop) → Array Value → α → Prop} (K : ElK Sz El) {w w' : World} {n : Nat} {a : Option Addr} {ds : List α} (h : LsG Sz El w n a ds) (hb : Below w.heap.size w w') : LsG Sz El w' n a ds := fun i d hd => by
  obtain ⟨B, o, row, ha, hc, he⟩ := h i d hd
  exact ⟨B, o, row, ha, fun k c hkc => (World.cell?_of_block (hb.block B (World.block_lt_of_cell? w _ (hc k c hkc)))).trans (hc k c hkc), K.map he (fun _ _ hi => hi.below hb)⟩
theorem LsG.up {α : Type} {Sz : Nat} {El : (Value → Tv → Prop) → Array Value → α → Prop} (K : ElK Sz El) {w : World} {n m : Nat} {a : Option Addr} {ds : List α} (h : LsG Sz El w n a ds) (hm : n ≤ m) : LsG Sz El w m a ds := fun i d hd => by
  obtain ⟨B, o, row, ha, hc, he⟩ := h i d hd
  exact ⟨B, o, row, ha, hc, K.map he (fun _ _ hi => hi.up hm)⟩
theorem LsE.g {α : Type} {lo Sz : Nat} {El : (Value → Tv → Prop) → Array Value → α → Prop} (K : ElK Sz El) {w : World} {n : Nat} {a : Option Addr} {ds : List α} (h : LsE lo Sz El w n a ds) : LsG Sz El w n a ds := fun i d hd => by
  obtain ⟨B, o, row, ha, _, hc, _, he⟩ := h i d hd
  exact ⟨B, o, row, ha, hc, K.map he (fun _ _ hi => hi.is)⟩
theorem LsG.lsA {w : World} {n : Nat} {a : Option Addr} {ds : List (Int × Tv)} (h : LsG 6 ElA w n a ds) : LsA w n a ds := fun i d hd => by
  obtain ⟨B, o, row, ha, hc, k, x, b, s, la, lm, lc, rfl, hi⟩ := h i d hd
  exact ⟨B, o, k, x, b, s, la, lm, lc, ha, World.block_lt_of_cell? w _ (hc 0 _ rfl), hc 0 _ rfl, hc 1 _ rfl, hc 2 _ rfl, hc 3 _ rfl, hc 4 _ rfl, hc 5 _ rfl, hi⟩
theorem LsG.lsC {w : World} {n : Nat} {a : Option Addr} {ds : List (Int × ByteArray × Tv × Int)} (h : LsG 8 ElC w n a ds) : LsC w n a ds := fun i d hd => by
  obtain ⟨B, o, row, ha, hc, k, x, b, s, la, lm, lc, rfl, hi⟩ := h i d hd
  exact ⟨B, o, k, x, b, s, la, lm, lc, ha, World.block_lt_of_cell? w _ (hc 0 _ rfl), hc 0 _ rfl, hc 1 _ rfl, hc 2 _ rfl, hc 3 _ rfl, hc 4 _ rfl, hc 5 _ rfl, hc 6 _ rfl, hc 7 _ rfl, hi⟩
/-- What tells whether two are the same. -/
def SmP (w : World) (p : Prop) (e : Ending) (w' : World) : Prop := (∃ r : Bool, e = .returned (.bool r) ∧ (r = true ↔ p)) ∧ Below w.heap.size w w'
theorem cellG {wb w : World} {B p : Nat} {v : Value} (h : wb.cell? ⟨B, p, none⟩ = some v) (hb : Below wb.heap.size wb w) : w.cell? ⟨B, p, none⟩ = some v := (World.cell?_of_block (w := wb) (hb.block B (World.block_lt_of_cell? wb _ h))).trans h
theorem take_moreG {α : Type} {l m : List α} {j : Nat} (h1 : j < l.length) (h2 : j < m.length) (he : l.take j = m.take j) (h : l[j] = m[j]) : l.take (j + 1) = m.take (j + 1) := by
  rw [List.take_add_one, List.take_add_one, he, List.getElem?_eq_getElem h1, List.getElem?_eq_getElem h2, h]
theorem two_boxes {w w1 : World} {A B : Obj} (hb : Below ((w.alloc A).alloc B).heap.size ((w.alloc A).alloc B) w1) : w1.heap[w.heap.size]? = some A ∧ w1.heap[w.heap.size + 1]? = some B ∧ Below w.heap.size w w1 := by
  have z1 : (w.alloc A).heap.size = w.heap.size + 1 := by simp
  have h1 := heap_alloc_new w A
  have h2 := heap_alloc_new (w.alloc A) B
  rw [z1] at h2
  have b2 := bel1 (w.alloc A) B
  have z2 : ((w.alloc A).alloc B).heap.size = w.heap.size + 2 := by simp
  exact ⟨(hb.block _ (by omega)).trans ((b2.block _ (by omega)).trans h1), (hb.block _ (by omega)).trans h2, bel2 (bel2 (bel1 w A) b2) hb⟩
set_option maxHeartbeats 2000000 in
set_option maxRecDepth 100000 in
theorem sameC_calls (n : Nat) (w : World) {r1 r2 : Array Value} {d1 d2 : Int × ByteArray × Tv × Int} (h1 : ElC (Is w n) r1 d1) (h2 : ElC (Is w n) r2 d2) :
    Calls Try.prog 37 #[.agg r1, .agg r2] w (SmP w (d1 = d2)) := by
  obtain ⟨c1, nn1, t1, dl1⟩ := d1
  obtain ⟨c2, nn2, t2, dl2⟩ := d2
  obtain ⟨k1, x1, b1, s1, la1, lm1, lc1, rfl, i1⟩ := h1
  dsimp only at i1 ⊢
  obtain ⟨k2, x2, b2, s2, la2, lm2, lc2, rfl, i2⟩ := h2
  dsimp only at i2 ⊢
  have C0 : Hid (∀ W, Below w.heap.size w W → Calls Try.prog 35 #[.agg #[.int .i64 k1, .int .i64 x1, .int .u64 b1, .string s1, .slice la1 lm1 lc1], .agg #[.int .i64 k2, .int .i64 x2, .int .u64 b2, .string s2, .slice la2 lm2 lc2]] W (SmP W (t1 = t2))) := fun W hB => same_calls n _ _ _ _ W (i1.below hB) (i2.below hB)
  clear i1 i2
  by_cases hd : c1 = c2 ∧ nn1 = nn2
  · obtain ⟨rfl, rfl⟩ := hd
    go_enter Try.func37, Try.ntmps37
    go_wp2_with fail
    refine Calls.mono (C0.out _ (bel2 (bel1 _ _) (bel1 _ _))) ?_
    rintro e w1 ⟨⟨q1, rfl, hr1⟩, hb1⟩
    obtain ⟨bx1, bx2, hbw⟩ := two_boxes hb1
    have HB1 : Hid (Below w.heap.size w w1) := hbw
    have y17 := row_cell (j := 7) bx1 (v := .int .i64 dl1) rfl
    have y27 := row_cell (j := 7) bx2 (v := .int .i64 dl2) rfl
    clear bx1 bx2 hbw
    have HR1 : Hid (q1 = true ↔ _) := hr1
    clear hb1 hr1 C0
    cases q1
    · go_wp2_with fail
      go_ret
      exact ⟨⟨false, rfl, ⟨fun h => (by cases h), fun h => (by cases HR1.out.2 (congrArg (fun z => z.2.2.1) h))⟩⟩, HB1.out⟩
    · obtain rfl := HR1.out.1 rfl
      by_cases hd : dl1 = dl2
      · subst hd
        go_wp2_with fail
        go_ret
        exact ⟨⟨true, rfl, by simp⟩, HB1.out⟩
      · have hd2 : (dl1 == dl2) = false := by simpa using hd
        have HD : Hid (¬ _) := hd
        go_wp2_with fail
        go_ret
        exact ⟨⟨false, rfl, ⟨fun h => (by cases h), fun h => (HD.out (congrArg (fun z => z.2.2.2) h)).elim⟩⟩, HB1.out⟩
  · have he : Hid (¬ (c1 = c2 ∧ nn1 = nn2)) := hd
    go_enter Try.func37, Try.ntmps37
    go_wp2_with fail
    all_goals first
      | (go_ret; exact ⟨⟨false, rfl, ⟨fun h => (by cases h), fun h => (he.out ⟨congrArg (fun z => z.1) h, congrArg (fun z => z.2.1) h⟩).elim⟩⟩, bel2 (bel1 _ _) (bel1 _ _)⟩)
      | exact absurd ⟨‹c1 = c2›, tl_inj ‹nn1.toList = nn2.toList›⟩ he.out
set_option maxHeartbeats 2000000 in
set_option maxRecDepth 100000 in
theorem sameA_calls (n : Nat) (w : World) {r1 r2 : Array Value} {d1 d2 : Int × Tv} (h1 : ElA (Is w n) r1 d1) (h2 : ElA (Is w n) r2 d2) :
    Calls Try.prog 39 #[.agg r1, .agg r2] w (SmP w (d1 = d2)) := by
  obtain ⟨op1, t1⟩ := d1
  obtain ⟨op2, t2⟩ := d2
  obtain ⟨k1, x1, b1, s1, la1, lm1, lc1, rfl, i1⟩ := h1
  dsimp only at i1 ⊢
  obtain ⟨k2, x2, b2, s2, la2, lm2, lc2, rfl, i2⟩ := h2
  dsimp only at i2 ⊢
  have C0 : Hid (∀ W, Below w.heap.size w W → Calls Try.prog 35 #[.agg #[.int .i64 k1, .int .i64 x1, .int .u64 b1, .string s1, .slice la1 lm1 lc1], .agg #[.int .i64 k2, .int .i64 x2, .int .u64 b2, .string s2, .slice la2 lm2 lc2]] W (SmP W (t1 = t2))) := fun W hB => same_calls n _ _ _ _ W (i1.below hB) (i2.below hB)
  clear i1 i2
  by_cases hd : op1 = op2
  · subst hd
    go_enter Try.func39, Try.ntmps39
    go_wp2_with fail
    refine Calls.mono (C0.out _ (bel2 (bel1 _ _) (bel1 _ _))) ?_
    rintro e w1 ⟨⟨q1, rfl, hr1⟩, hb1⟩
    obtain ⟨bx1, bx2, hbw⟩ := two_boxes hb1
    have HB1 : Hid (Below w.heap.size w w1) := hbw
    clear bx1 bx2 hbw
    have HR1 : Hid (q1 = true ↔ _) := hr1
    clear hb1 hr1 C0
    go_wp2_with fail
    go_ret
    exact ⟨⟨q1, rfl, HR1.out.trans ⟨fun h => by rw [h], fun h => congrArg (fun z => z.2) h⟩⟩, HB1.out⟩
  · have he : Hid (¬ (op1 = op2)) := hd
    go_enter Try.func39, Try.ntmps39
    go_wp2_with fail
    all_goals first
      | (go_ret; exact ⟨⟨false, rfl, ⟨fun h => (by cases h), fun h => (he.out (congrArg (fun z => z.1) h)).elim⟩⟩, bel2 (bel1 _ _) (bel1 _ _)⟩)
      | exact absurd (‹op1 = op2›) he.out
set_option maxHeartbeats 4000000 in
set_option maxRecDepth 100000 in
theorem eqC_calls (n : Nat) (a : Option Addr) (c : Nat) (l : List (Int × ByteArray × Tv × Int)) (a2 : Option Addr) (c2 : Nat) (l2 : List (Int × ByteArray × Tv × Int)) (w : World) (hc : l.length ≤ 9223372036854775807) (hr : LsG 8 ElC w n a l) (hr2 : LsG 8 ElC w n a2 l2) :
    Calls Try.prog 36 #[.slice a l.length c, .slice a2 l2.length c2, .func (.func 37) #[] #[]] w (SmP w (l = l2)) := by
  have HR : Hid (LsG 8 ElC w n a l) := hr
  have HR2 : Hid (LsG 8 ElC w n a2 l2) := hr2
  have HC : Hid (l.length ≤ 9223372036854775807) := hc
  clear hr hr2 hc
  by_cases hd : l.length = l2.length
  · rw [← hd]
    have HL : Hid (l.length = l2.length) := hd
    clear hd
    go_enter Try.func36, Try.ntmps36
    go_wp2_with fail
    go_loopw [17] (fun i wr => ∃ j : Nat, j ≤ l.length ∧ i = .int .i64 j ∧ Hid (l.take j = l2.take j) ∧ Hid (Below w.heap.size w wr)) (fun i _ => l.length - (intOf i).toNat)
    case atStart => exact ⟨0, Nat.zero_le _, rfl, rfl, Below.refl _ _⟩
    case round =>
      obtain ⟨j, hj, rfl, HE, HB⟩ := hrel
      by_cases hlt : j < l.length
      · have HL2 : Hid (j < l2.length) := HL.out ▸ hlt
        obtain ⟨B, o, r1, rfl, h5, hi⟩ := HR.out j _ (List.getElem?_eq_getElem hlt)
        obtain ⟨B', o', r2, rfl, h5', hi'⟩ := HR2.out j _ (List.getElem?_eq_getElem HL2.out)
        obtain ⟨z1, hz1⟩ : ∃ z, z = l[j] := ⟨_, rfl⟩
        obtain ⟨z2, hz2⟩ : ∃ z, z = l2[j]'HL2.out := ⟨_, rfl⟩
        rw [← hz1] at hi
        rw [← hz2] at hi'
        have HZ : Hid (z1 = l[j] ∧ z2 = l2[j]'HL2.out) := ⟨hz1, hz2⟩
        clear hz1 hz2
        have C0 : Hid (∀ W, Below wr.heap.size wr W → Calls Try.prog 37 #[.agg r1, .agg r2] W (SmP W (z1 = z2))) := fun W hB => sameC_calls n W (elC.map hi (fun _ _ h => (h.below HB.out).below hB)) (elC.map hi' (fun _ _ h => (h.below HB.out).below hB))
        obtain ⟨k1, x1, b1, s1, la1, lm1, lc1, rfl, _⟩ := hi
        obtain ⟨k2, x2, b2, s2, la2, lm2, lc2, rfl, _⟩ := hi'
        have e0 := cellG (h5 0 _ rfl) HB.out
        have e1 := cellG (h5 1 _ rfl) HB.out
        have e2 := cellG (h5 2 _ rfl) HB.out
        have e3 := cellG (h5 3 _ rfl) HB.out
        have e4 := cellG (h5 4 _ rfl) HB.out
        have e5 := cellG (h5 5 _ rfl) HB.out
        have e6 := cellG (h5 6 _ rfl) HB.out
        have e7 := cellG (h5 7 _ rfl) HB.out
        have f0 := cellG (h5' 0 _ rfl) (bel2 HB.out (bel1 wr (Obj.cells #[.int .i64 z1.1, .string z1.2.1, .int .i64 k1, .int .i64 x1, .int .u64 b1, .string s1, .slice la1 lm1 lc1, .int .i64 z1.2.2.2] 71)))
        have f1 := cellG (h5' 1 _ rfl) (bel2 HB.out (bel1 wr (Obj.cells #[.int .i64 z1.1, .string z1.2.1, .int .i64 k1, .int .i64 x1, .int .u64 b1, .string s1, .slice la1 lm1 lc1, .int .i64 z1.2.2.2] 71)))
        have f2 := cellG (h5' 2 _ rfl) (bel2 HB.out (bel1 wr (Obj.cells #[.int .i64 z1.1, .string z1.2.1, .int .i64 k1, .int .i64 x1, .int .u64 b1, .string s1, .slice la1 lm1 lc1, .int .i64 z1.2.2.2] 71)))
        have f3 := cellG (h5' 3 _ rfl) (bel2 HB.out (bel1 wr (Obj.cells #[.int .i64 z1.1, .string z1.2.1, .int .i64 k1, .int .i64 x1, .int .u64 b1, .string s1, .slice la1 lm1 lc1, .int .i64 z1.2.2.2] 71)))
        have f4 := cellG (h5' 4 _ rfl) (bel2 HB.out (bel1 wr (Obj.cells #[.int .i64 z1.1, .string z1.2.1, .int .i64 k1, .int .i64 x1, .int .u64 b1, .string s1, .slice la1 lm1 lc1, .int .i64 z1.2.2.2] 71)))
        have f5 := cellG (h5' 5 _ rfl) (bel2 HB.out (bel1 wr (Obj.cells #[.int .i64 z1.1, .string z1.2.1, .int .i64 k1, .int .i64 x1, .int .u64 b1, .string s1, .slice la1 lm1 lc1, .int .i64 z1.2.2.2] 71)))
        have f6 := cellG (h5' 6 _ rfl) (bel2 HB.out (bel1 wr (Obj.cells #[.int .i64 z1.1, .string z1.2.1, .int .i64 k1, .int .i64 x1, .int .u64 b1, .string s1, .slice la1 lm1 lc1, .int .i64 z1.2.2.2] 71)))
        have f7 := cellG (h5' 7 _ rfl) (bel2 HB.out (bel1 wr (Obj.cells #[.int .i64 z1.1, .string z1.2.1, .int .i64 k1, .int .i64 x1, .int .u64 b1, .string s1, .slice la1 lm1 lc1, .int .i64 z1.2.2.2] 71)))
        dsimp only [Nat.add_zero] at e0 f0
        have HW : Hid (wrap64 ((j : Int) + 1) = ((j + 1 : Nat) : Int)) := wr1 hlt HC.out
        have hjl : (j : Int) < (l.length : Int) := by omega
        clear h5 h5'
        go_wp2_with fail
        refine Calls.mono (C0.out _ ?_) ?_
        · exact bel2 (bel1 _ _) (bel1 _ _)
        rintro e w1 ⟨⟨r1, rfl, hr1⟩, hb1⟩
        have HB1 : Hid (Below w.heap.size w w1) := bel2 HB.out (bel2 (bel2 (bel1 _ _) (bel1 _ _)) hb1)
        have HR1 : Hid (r1 = true ↔ _) := hr1
        clear hb1 hr1 C0 e0 f0 e1 f1 e2 f2 e3 f3 e4 f4 e5 f5 e6 f6 e7 f7
        cases r1
        · go_wp2_with fail
          go_ret
          have hn : ¬ l[j] = l2[j]'HL2.out := fun h => by cases HR1.out.2 (HZ.out.1.trans (h.trans HZ.out.2.symm))
          exact ⟨⟨false, rfl, ⟨fun h => (by cases h), fun h => absurd h (fun e => hn (by subst e; rfl))⟩⟩, HB1.out⟩
        · go_wp2_with fail
          exact ⟨⟨j + 1, hlt, by rw [HW.out], take_moreG hlt HL2.out HE.out (HZ.out.1.symm.trans ((HR1.out.1 (by simp)).trans HZ.out.2)), HB1⟩, meas hlt HW.out⟩
      · obtain rfl : j = l.length := by omega
        go_wp2_with fail
        go_ret
        refine ⟨⟨true, rfl, ?_⟩, HB.out⟩
        have h := HE.out
        rw [List.take_length, HL.out, List.take_length] at h
        simp [h]
  · have hd' : ((l.length : Int) != (l2.length : Int)) = true := by simp; omega
    go_enter Try.func36, Try.ntmps36
    go_wp2_with fail
    go_ret
    exact ⟨⟨false, rfl, ⟨fun h => (by cases h), fun h => absurd (congrArg List.length h) hd⟩⟩, Below.refl _ _⟩
set_option maxHeartbeats 4000000 in
set_option maxRecDepth 100000 in
theorem eqA_calls (n : Nat) (a : Option Addr) (c : Nat) (l : List (Int × Tv)) (a2 : Option Addr) (c2 : Nat) (l2 : List (Int × Tv)) (w : World) (hc : l.length ≤ 9223372036854775807) (hr : LsG 6 ElA w n a l) (hr2 : LsG 6 ElA w n a2 l2) :
    Calls Try.prog 38 #[.slice a l.length c, .slice a2 l2.length c2, .func (.func 39) #[] #[]] w (SmP w (l = l2)) := by
  have HR : Hid (LsG 6 ElA w n a l) := hr
  have HR2 : Hid (LsG 6 ElA w n a2 l2) := hr2
  have HC : Hid (l.length ≤ 9223372036854775807) := hc
  clear hr hr2 hc
  by_cases hd : l.length = l2.length
  · rw [← hd]
    have HL : Hid (l.length = l2.length) := hd
    clear hd
    go_enter Try.func38, Try.ntmps38
    go_wp2_with fail
    go_loopw [17] (fun i wr => ∃ j : Nat, j ≤ l.length ∧ i = .int .i64 j ∧ Hid (l.take j = l2.take j) ∧ Hid (Below w.heap.size w wr)) (fun i _ => l.length - (intOf i).toNat)
    case atStart => exact ⟨0, Nat.zero_le _, rfl, rfl, Below.refl _ _⟩
    case round =>
      obtain ⟨j, hj, rfl, HE, HB⟩ := hrel
      by_cases hlt : j < l.length
      · have HL2 : Hid (j < l2.length) := HL.out ▸ hlt
        obtain ⟨B, o, r1, rfl, h5, hi⟩ := HR.out j _ (List.getElem?_eq_getElem hlt)
        obtain ⟨B', o', r2, rfl, h5', hi'⟩ := HR2.out j _ (List.getElem?_eq_getElem HL2.out)
        obtain ⟨z1, hz1⟩ : ∃ z, z = l[j] := ⟨_, rfl⟩
        obtain ⟨z2, hz2⟩ : ∃ z, z = l2[j]'HL2.out := ⟨_, rfl⟩
        rw [← hz1] at hi
        rw [← hz2] at hi'
        have HZ : Hid (z1 = l[j] ∧ z2 = l2[j]'HL2.out) := ⟨hz1, hz2⟩
        clear hz1 hz2
        have C0 : Hid (∀ W, Below wr.heap.size wr W → Calls Try.prog 39 #[.agg r1, .agg r2] W (SmP W (z1 = z2))) := fun W hB => sameA_calls n W (elA.map hi (fun _ _ h => (h.below HB.out).below hB)) (elA.map hi' (fun _ _ h => (h.below HB.out).below hB))
        obtain ⟨k1, x1, b1, s1, la1, lm1, lc1, rfl, _⟩ := hi
        obtain ⟨k2, x2, b2, s2, la2, lm2, lc2, rfl, _⟩ := hi'
        have e0 := cellG (h5 0 _ rfl) HB.out
        have e1 := cellG (h5 1 _ rfl) HB.out
        have e2 := cellG (h5 2 _ rfl) HB.out
        have e3 := cellG (h5 3 _ rfl) HB.out
        have e4 := cellG (h5 4 _ rfl) HB.out
        have e5 := cellG (h5 5 _ rfl) HB.out
        have f0 := cellG (h5' 0 _ rfl) (bel2 HB.out (bel1 wr (Obj.cells #[.int .i64 z1.1, .int .i64 k1, .int .i64 x1, .int .u64 b1, .string s1, .slice la1 lm1 lc1] 73)))
        have f1 := cellG (h5' 1 _ rfl) (bel2 HB.out (bel1 wr (Obj.cells #[.int .i64 z1.1, .int .i64 k1, .int .i64 x1, .int .u64 b1, .string s1, .slice la1 lm1 lc1] 73)))
        have f2 := cellG (h5' 2 _ rfl) (bel2 HB.out (bel1 wr (Obj.cells #[.int .i64 z1.1, .int .i64 k1, .int .i64 x1, .int .u64 b1, .string s1, .slice la1 lm1 lc1] 73)))
        have f3 := cellG (h5' 3 _ rfl) (bel2 HB.out (bel1 wr (Obj.cells #[.int .i64 z1.1, .int .i64 k1, .int .i64 x1, .int .u64 b1, .string s1, .slice la1 lm1 lc1] 73)))
        have f4 := cellG (h5' 4 _ rfl) (bel2 HB.out (bel1 wr (Obj.cells #[.int .i64 z1.1, .int .i64 k1, .int .i64 x1, .int .u64 b1, .string s1, .slice la1 lm1 lc1] 73)))
        have f5 := cellG (h5' 5 _ rfl) (bel2 HB.out (bel1 wr (Obj.cells #[.int .i64 z1.1, .int .i64 k1, .int .i64 x1, .int .u64 b1, .string s1, .slice la1 lm1 lc1] 73)))
        dsimp only [Nat.add_zero] at e0 f0
        have HW : Hid (wrap64 ((j : Int) + 1) = ((j + 1 : Nat) : Int)) := wr1 hlt HC.out
        have hjl : (j : Int) < (l.length : Int) := by omega
        clear h5 h5'
        go_wp2_with fail
        refine Calls.mono (C0.out _ ?_) ?_
        · exact bel2 (bel1 _ _) (bel1 _ _)
        rintro e w1 ⟨⟨r1, rfl, hr1⟩, hb1⟩
        have HB1 : Hid (Below w.heap.size w w1) := bel2 HB.out (bel2 (bel2 (bel1 _ _) (bel1 _ _)) hb1)
        have HR1 : Hid (r1 = true ↔ _) := hr1
        clear hb1 hr1 C0 e0 f0 e1 f1 e2 f2 e3 f3 e4 f4 e5 f5
        cases r1
        · go_wp2_with fail
          go_ret
          have hn : ¬ l[j] = l2[j]'HL2.out := fun h => by cases HR1.out.2 (HZ.out.1.trans (h.trans HZ.out.2.symm))
          exact ⟨⟨false, rfl, ⟨fun h => (by cases h), fun h => absurd h (fun e => hn (by subst e; rfl))⟩⟩, HB1.out⟩
        · go_wp2_with fail
          exact ⟨⟨j + 1, hlt, by rw [HW.out], take_moreG hlt HL2.out HE.out (HZ.out.1.symm.trans ((HR1.out.1 (by simp)).trans HZ.out.2)), HB1⟩, meas hlt HW.out⟩
      · obtain rfl : j = l.length := by omega
        go_wp2_with fail
        go_ret
        refine ⟨⟨true, rfl, ?_⟩, HB.out⟩
        have h := HE.out
        rw [List.take_length, HL.out, List.take_length] at h
        simp [h]
  · have hd' : ((l.length : Int) != (l2.length : Int)) = true := by simp; omega
    go_enter Try.func38, Try.ntmps38
    go_wp2_with fail
    go_ret
    exact ⟨⟨false, rfl, ⟨fun h => (by cases h), fun h => absurd (congrArg List.length h) hd⟩⟩, Below.refl _ _⟩
end Go.Proofs.Ytjmonkhkcmcfiaa
