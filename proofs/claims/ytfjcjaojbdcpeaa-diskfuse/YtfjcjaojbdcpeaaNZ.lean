/- The walk of DiskFuse. -/
import Derived.Test.YtfjcjaojbdcpeaaNY
namespace Go.Proofs.Ytfjcjaojbdcpeaa
open Go.ChangeShapes Go.WideShapes Go.ChangeAt Go.RowKit Go.Maps
/-- q bytes 1 in the zone 0. -/
def bq (q : Nat) : Int → List UInt8 := upd b0 0 (List.replicate q 1)
theorem bq_0 : bq 0 = b0 := by
  funext k
  unfold bq
  by_cases e : k = 0
  · subst e; rw [upd_same]; rfl
  · rw [upd_other _ _ e]
theorem bq_at (q : Nat) : bq q 0 = List.replicate q 1 := upd_same _ _ _
theorem bq_succ (q : Nat) : upd (bq q) 0 (bq q 0 ++ [1]) = bq (q + 1) := by
  funext k
  by_cases e : k = 0
  · subst e
    rw [upd_same, bq_at, bq_at, List.replicate_succ']
  · rw [upd_other _ _ e]
    unfold bq
    rw [upd_other _ _ e, upd_other _ _ e]
theorem bq_len (q : Nat) (k : Int) : (bq q k).length ≤ q := by
  unfold bq
  by_cases e : k = 0
  · subst e; rw [upd_same]; simp
  · rw [upd_other _ _ e]; simp [b0]
theorem bq_sum (q : Nat) : ∀ N : Nat, sumN (bq q) (N + 1) = q
  | 0 => by
    unfold sumN sumN
    have : bq q ((0 : Nat) : Int) = List.replicate q 1 := bq_at q
    rw [this]
    simp
  | N + 1 => by
    rw [sumN, bq_sum q N]
    have : bq q ((N + 1 : Nat) : Int) = [] := by
      unfold bq
      rw [upd_other _ _ (by omega)]
      rfl
    rw [this]
    rfl
theorem bq_used (q : Nat) : used (bq q) = q := bq_sum q 39
theorem Dk.fuse {lo g N : Nat} {w : World} {room f : Int} {dead : Bool} {bs : Int → List UInt8} {ss : Int → Int} (h : Dk lo w g room f dead N bs ss) (f' : Int) : Dk lo (w.setCell ⟨g, 1, none⟩ (.int .i64 f')) g room f' dead N bs ss := by
  obtain ⟨b, n, D, av, cv, hn, hk, hd⟩ := h
  exact ⟨b, n, D, av, cv, hn, hk.set 1 _, hd.setg (KB.setCell g w 1 _) (bk_ne hk hd.zm)⟩
theorem crB_all {bs : Int → List UInt8} (h : ∀ k, (bs k).length ≤ 1048576) : ∀ (zs : List Int) (i : Nat), crB [1048576] (fun _ => 0) zs i bs = bs
  | [], _ => rfl
  | z :: r, i => by
    have e : upd bs z ((bs z).take ((0 : Int) + kept [1048576] i ((bs z).length - 0)).toNat) = bs := by
      funext k
      by_cases e : k = z
      · subst e
        rw [upd_same]
        apply List.take_of_length_le
        have := h k
        unfold kept
        rw [if_neg (by simp)]
        simp only [List.length_singleton, Nat.mod_one]
        have : ([1048576] : List Int).getD 0 0 = 1048576 := rfl
        rw [this]
        omega
      · rw [upd_other _ _ e]
    rw [crB, e]
    exact crB_all h r (i + 1)
theorem kp_big (w : World) : Kp (w.alloc (.cells #[.int .i64 1048576] 3)) (some ⟨w.heap.size, 0, none⟩) [1048576] := fun i z hz => by
  match i, hz with
  | 0, hz =>
    cases hz
    exact ⟨_, rfl, (Bk.new w #[.int .i64 1048576] 3).cell 0⟩
  | i + 1, hz => simp at hz
set_option maxHeartbeats 4000000 in
set_option maxRecDepth 100000 in
theorem fuse_walk (n m : Nat) (hn : n < 256) (hm : m < 256) (w : World) :
    Calls Try.prog 5 #[.int .u8 (n : Int), .int .u8 (m : Int)] w fun e w' => e = .returned (.bool true) ∧ Below w.heap.size w w' := by
  have HN : Hid (Calls Try.prog 7 #[.int .i64 10000] w _) := new_calls 10000 ⟨by decide, by decide⟩ w
  have hn1 : (n : Int) < 256 := by omega
  have hw8 : IntKind.i64.wrap (n : Int) = (n : Int) := by rw [IntKind.wrap_i64]; omega
  go_enter Try.func5, Try.ntmps5
  go_wp2_with fail
  refine HN.out.mono ?_
  rintro e w1 ⟨g, b, rfl, hbl, hgb, hk, hz, hb⟩
  have HD0 : Hid (Dk w.heap.size w1 g 10000 (-1) false 0 b0 (fun _ => 0)) := dk_new hk hz (by omega) hbl
  have HF : Hid (Calls Try.prog 22 #[.pointer (some ⟨g, 0, none⟩), .int .i64 (n : Int)] w1 _) := fuse_calls g b _ _ (n : Int) (by omega) w1 hk
  have HB1 : Hid (Below w.heap.size w w1) := hb
  have HLG : Hid (w.heap.size ≤ g) := by show _ ≤ _; omega
  have HB1' : Hid (Below w.heap.size w (w1.setCell ⟨g, 1, none⟩ (.int .i64 (n : Int)))) := hb.trans ((KB.setCell g w1 1 _).below (by omega) hb.size)
  clear hbl hgb hk hz hb HN
  go_wp2_with fail
  refine HF.out.mono ?_
  rintro e w2 ⟨rfl, hw2⟩
  have HD1 : Hid (Dk w.heap.size w2 g 10000 (n : Int) false 0 (bq 0) (fun _ => 0)) := by rw [hw2, bq_0]; exact HD0.out.fuse _
  have HB2 : Hid (Below w.heap.size w w2) := by rw [hw2]; exact HB1'.out
  clear hw2 HF HD0 HB1'
  go_wp2_with fail
  go_loopw [26] (fun i wr => ∃ q : Nat, q ≤ n ∧ i = .int .u8 (q : Int) ∧ Hid (Dk w.heap.size wr g 10000 ((n : Int) - (q : Int)) false q (bq q) (fun _ => 0)) ∧ Hid (Below w.heap.size w wr)) (fun i _ => n - (intOf i).toNat)
  case atStart => exact ⟨0, Nat.zero_le _, rfl, by rw [show (n : Int) - ((0 : Nat) : Int) = (n : Int) by omega]; exact HD1, HB2⟩
  case round =>
    obtain ⟨q, hq, rfl, HD, HB⟩ := hrel
    by_cases hlt : q < n
    · have hql : (q : Int) < (n : Int) := by omega
      have hqa : IntKind.u8.wrap ((q : Int) + 1) = ((q + 1 : Nat) : Int) := by
        simp only [IntKind.wrap, IntKind.signed, IntKind.bits]
        simp
        omega
      have hglt : g < wr.heap.size := by obtain ⟨_, _, _, _, _, _, hk, _⟩ := HD.out; exact hk.lt
      have HA : Hid (Calls Try.prog 16 #[.pointer (some ⟨g, 0, none⟩), .int .i64 0, .slice (some ⟨wr.heap.size, 0, none⟩) 1 1] (wr.alloc (.cells #[.int .u8 1] 5)) _) := append_fuse w.heap.size g q 10000 (bq q) _ 0 ⟨by decide, by decide⟩ _ 1 [1] (wr.alloc (.cells #[.int .u8 1] 5)) _ (HD.out.below (bel1 _ _)) (by omega) (holds_bval wr [1] (0, 0)) (by rw [bq_used]; simp; omega) (by decide) (by omega) (by omega) (fun a ha => by cases ha; show wr.heap.size ≠ g; omega)
      clear hglt
      go_wp2_with fail
      refine HA.out.mono ?_
      rintro e w3 ⟨rfl, hd, hb⟩
      rw [bq_succ] at hd
      have HD3 : Hid (Dk w.heap.size w3 g 10000 ((n : Int) - ((q + 1 : Nat) : Int)) false (q + 1) (bq (q + 1)) (fun _ => 0)) := by
        rw [show (n : Int) - ((q + 1 : Nat) : Int) = (n : Int) - (q : Int) - 1 by omega]; exact hd
      have HB3 : Hid (Below w.heap.size w w3) := (bel2 HB.out (bel1 _ _)).trans hb
      clear hd hb HA
      go_wp2_with fail
      refine ⟨⟨q + 1, hlt, by first | rfl | (rw [Int.natCast_add]; rfl), HD3, HB3⟩, ?_⟩
      simp only [intOf]
      omega
    · obtain rfl : q = n := by omega
      have HDn : Hid (Dk w.heap.size wr g 10000 0 false q (bq q) (fun _ => 0)) := by
        have := HD.out
        rw [show (q : Int) - (q : Int) = 0 by omega] at this
        exact this
      obtain ⟨M, hM⟩ : ∃ M, M = 1 + m % 5 := ⟨_, rfl⟩
      have hM5 : M ≤ 5 ∧ 1 ≤ M := by omega
      have htm : Int.tmod (m : Int) 5 = ((m % 5 : Nat) : Int) := by rw [Int.ofNat_tmod]; rfl
      have hmw : wrap64 (1 + ((m % 5 : Nat) : Int)) = (M : Int) := by unfold wrap64; omega
      have hm8 : IntKind.i64.wrap (m : Int) = (m : Int) := by rw [IntKind.wrap_i64]; omega
      have HM : Hid (M ≤ 5 ∧ 1 ≤ M) := hM5
      generalize hmm : ((m % 5 : Nat) : Int) = m5 at htm hmw
      clear HD hM hM5 hmm
      have HD2 := HDn
      have HBn := HB
      obtain ⟨W1, hW1⟩ : ∃ W1, W1 = wr := ⟨_, rfl⟩
      rw [← hW1] at HDn HBn
      have HWW : Hid (W1 = wr) := hW1
      clear hW1
      go_wp2_with fail
      rw [hmw]
      go_loopw [37] (fun i wq => ∃ r : Nat, r ≤ M ∧ i = .int .i64 (r : Int) ∧ Hid (r = 0 → Dk w.heap.size wq g 10000 0 false q (bq q) (fun _ => 0)) ∧ Hid (0 < r → Dk w.heap.size wq g 10000 0 true q (bq q) (fun _ => 0)) ∧ Hid (Below w.heap.size w wq)) (fun i _ => M - (intOf i).toNat)
      case atStart => exact ⟨0, Nat.zero_le _, rfl, fun _ => HD2.out, fun h => absurd h (by omega), HB⟩
      case round =>
        obtain ⟨r, hr, rfl, HDa, HDb, HBr⟩ := hrel
        clear HDn HBn HD2 HWW HB HB1 HB2 HD1
        by_cases hlt2 : r < M
        · have hrl : (r : Int) < (M : Int) := by omega
          have hr5 : (r : Int) < 5 := by have := HM.out; omega
          have hlw : w.heap.size ≤ wr.heap.size := HBr.out.size
          have HA : Hid (Calls Try.prog 16 #[.pointer (some ⟨g, 0, none⟩), .int .i64 0, .slice (some ⟨wr.heap.size, 0, none⟩) 1 1] (wr.alloc (.cells #[.int .u8 1] 5)) fun e w' => e = .returned (.int .i64 8) ∧ Dk w.heap.size w' g 10000 0 true q (bq q) (fun _ => 0) ∧ Below w.heap.size (wr.alloc (.cells #[.int .u8 1] 5)) w') := by
            by_cases e0 : r = 0
            · exact append_out w.heap.size g q 10000 (bq q) _ 0 ⟨by decide, by decide⟩ _ 1 [1] (wr.alloc (.cells #[.int .u8 1] 5)) ((HDa.out e0).below (bel1 _ _)) (by omega) (holds_bval wr [1] (0, 0)) (by rw [bq_used]; simp; omega) (by decide)
            · have hd := (HDb.out (by omega)).below (bel1 wr (.cells #[.int .u8 1] 5))
              exact (append_dead w.heap.size g q 10000 0 (bq q) _ 0 ⟨by decide, by decide⟩ _ 1 1 _ hd).mono fun e w' ⟨h1, h2⟩ => ⟨h1, hd.below h2, h2.mono (by simp; omega)⟩
          clear hlw
          go_wp2_with fail
          refine HA.out.mono ?_
          rintro e w3 ⟨rfl, hd, hb⟩
          have HD3 : Hid (Dk w.heap.size w3 g 10000 0 true q (bq q) (fun _ => 0)) := hd
          have HS3 : Hid (Calls Try.prog 17 #[.pointer (some ⟨g, 0, none⟩)] w3 _) := sync_dead w.heap.size g q 10000 0 (bq q) _ w3 hd
          have HDd : Hid (Calls Try.prog 13 #[.pointer (some ⟨g, 0, none⟩)] w3 fun e w' => e = .returned (.bool true) ∧ w' = w3) := by
            obtain ⟨b', _, _, _, _, _, hk, _⟩ := hd
            exact dead_calls g b' _ _ true w3 hk
          have HB3 : Hid (Below w.heap.size w w3) := (bel2 HBr.out (bel1 _ _)).trans hb
          clear hd hb HA
          go_wp2_with fail
          refine HS3.out.mono ?_
          rintro e w4 ⟨rfl, hw⟩
          have hw' := hw.symm
          subst hw'
          clear hw HS3
          go_wp2_with fail
          refine HDd.out.mono ?_
          rintro e w4 ⟨rfl, hw⟩
          have hw' := hw.symm
          subst hw'
          clear hw HDd
          go_wp2_with fail
          refine ⟨⟨r + 1, hlt2, by first | rfl | (rw [Int.natCast_add]; rfl), fun h => absurd h (by omega), fun _ => HD3.out, HB3⟩, ?_⟩
          simp only [intOf]
          omega
        · obtain rfl : r = M := by omega
          have hd := HDb.out (by have := HM.out; omega)
          have HC : Hid (Calls Try.prog 18 #[.pointer (some ⟨g, 0, none⟩), .slice (some ⟨wr.heap.size, 0, none⟩) 1 1] (wr.alloc (.cells #[.int .i64 1048576] 3)) _) := crash_calls w.heap.size g q 10000 0 true (bq q) (fun _ => 0) [1048576] _ 1 (wr.alloc (.cells #[.int .i64 1048576] 3)) (hd.below (bel1 _ _)) (fun k => by simp) (by omega) (kp_big wr) (by decide)
          clear hd HDa HDb
          go_wp2_with fail
          refine HC.out.mono ?_
          rintro e w5 ⟨rfl, hdk, hb⟩
          rw [crB_all (fun k => by have := bq_len q k; omega)] at hdk
          obtain ⟨b', n', D', av', cv', _, hk, hd'⟩ := hdk
          have ho := (hd'.own 0).holds
          have hv3 := hd'.hv 0
          dsimp only at hv3
          rw [bq_at] at ho hv3
          have HR : Hid (Calls Try.prog 19 #[.pointer (some ⟨g, 0, none⟩), .int .i64 0] w5 _) := read_calls g b' n' _ _ false D' 0 (by decide +kernel) _ _ _ _ (List.replicate q 1) w5 hk hd'.zm hv3 ho (by simp; omega)
          have HBk : Hid (Bk w5 g #[.int .i64 10000, .int .i64 (-1), .bool false, .map (some b')] 57) := hk
          have HB5 : Hid (Below w.heap.size w w5) := (bel2 HBr.out (bel1 _ _)).trans hb
          clear hk hd' hb ho hv3 HC
          go_wp2_with fail
          refine HR.out.mono ?_
          rintro e w6 ⟨ra, rn, rc, rfl, hh, hb⟩
          have hrn : rn = q := by
            obtain ⟨_, _, e1, _, _⟩ := hh
            injection e1 with _ e2 _
            rw [e2]
            simp [rdE]
          subst hrn
          have HDd : Hid (Calls Try.prog 13 #[.pointer (some ⟨g, 0, none⟩)] w6 fun e w' => e = .returned (.bool false) ∧ w' = w6) := dead_calls g b' _ _ false w6 (HBk.out.below hb)
          have HB6 : Hid (Below w.heap.size w w6) := bel2 HB5.out hb
          rw [show rdE 0 false = 0 from rfl]
          clear hh hb HR
          go_wp2_with fail
          refine HDd.out.mono ?_
          rintro e w7 ⟨rfl, hw⟩
          have hw' := hw.symm
          subst hw'
          clear hw HDd
          go_wp2_with fail
          refine (awake_calls _).mono ?_
          rintro e w8 ⟨rfl, hb⟩
          have HB8 : Hid (Below w.heap.size w w8) := bel2 HB6.out hb
          clear hb
          go_wp2_with fail
          go_ret
          exact ⟨rfl, HB8.out⟩
end Go.Proofs.Ytfjcjaojbdcpeaa
