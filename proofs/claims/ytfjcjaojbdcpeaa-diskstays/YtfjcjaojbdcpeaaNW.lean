/- The contract of awake. -/
import Derived.Test.YtfjcjaojbdcpeaaNV
import Derived.Test.YtfjcjaojbdcpeaaNH
import Derived.Shelf.Bytes.SlEqualAll
import Derived.Lib.SlBytesConst
namespace Go.Proofs.Ytfjcjaojbdcpeaa
open Go.ChangeShapes Go.WideShapes Go.ChangeAt Go.RowKit Go.Maps
theorem holds_bval (w : World) (l : List UInt8) (fr : Nat × Nat) : Lib.HoldsBytes (w.alloc (.cells (bval l).toArray 5 fr)) (.slice (some ⟨w.heap.size, 0, none⟩) l.length l.length) l := by
  refine ⟨_, _, rfl, (fun h => by cases h), ?_⟩
  intro a ha i x hx
  cases ha
  rw [add_plain, Nat.zero_add]
  have hb : (w.alloc (.cells (bval l).toArray 5 fr)).heap[w.heap.size]? = some (.cells (bval l).toArray 5 fr) := by
    show (w.heap.push _)[w.heap.size]? = _
    simp
  simp only [World.cell?, hb]
  simp [bval, hx]
theorem conv_string (w : World) (p : Option Addr) (n c : Nat) (l : List UInt8) (h : Lib.HoldsBytes w (.slice p n c) l) : (convert 31 9 (.slice p n c)).run Try.prog w = .ok (.string (strOfNums (Lib.numsL l))) w := by
  obtain ⟨p', c', e, h1, h2⟩ := h
  cases e
  have hb : Lib.BytesIn w p l.length (Lib.numsL l) := by
    cases p with
    | none =>
      have : l = [] := h1 rfl
      subst this
      exact Lib.BytesIn.nil w none _
    | some a =>
      refine Lib.BytesIn.of_cells (fun i hi => ?_)
      have := h2 a rfl i l[i] (List.getElem?_eq_getElem hi)
      rw [this]
      simp [Lib.numsL, List.getD, List.getElem?_eq_getElem hi]
  exact hb.convert (P := Try.prog) (Lib.numsL_length l) c 31 5 9 Try.underlying31 Try.underlying5 Try.underlying9
def b0 : Int → List UInt8 := fun _ => []
def b1 : Int → List UInt8 := upd b0 3 [97, 98]
def s1 : Int → Int := fun k => ((b1 k).length : Int)
def b2 : Int → List UInt8 := upd b1 3 [97, 98, 99, 100]
def b3 : Int → List UInt8 := crB [1] s1 (unsureOf b2 s1) 0 b2
theorem u0 : used b0 = 0 := by decide +kernel
theorem u1 : used b1 = 2 := by decide +kernel
theorem b3_3 : b3 3 = [97, 98, 99] := by decide +kernel
theorem sur2 : Sur b2 s1 := fun k => by
  unfold s1 b2 b1
  by_cases e : k = 3
  · subst e; simp only [upd_same]; decide
  · simp only [upd_other _ _ e]; unfold b0; decide
theorem dk_new {lo g b : Nat} {w : World} {room : Int} (hk : Bk w g #[.int .i64 room, .int .i64 (-1), .bool false, .map (some b)] 57) (hz : Zm w b 0 (.map [])) (hg : lo ≤ g) (hb : lo ≤ b) : Dk lo w g room (-1) false 0 b0 (fun _ => 0) :=
  ⟨b, 0, .map [], fun _ => none, fun _ => 0, Nat.le_refl _, hk, hz, fun _ => rfl, (fun k => by simp [Maps.has, b0]), (fun k h => absurd rfl h), (fun k => Own.nil _ _), (fun k k' B _ h => by cases h), (fun k h => by cases h), (fun k h => by cases h), hg, hb, (fun k => by simp [b0])⟩
theorem ab_cd : upd b1 3 (b1 3 ++ [99, 100]) = b2 := rfl
theorem ab_ : upd b0 3 (b0 3 ++ [97, 98]) = b1 := rfl
theorem kp_one (w : World) : Kp (w.alloc (.cells #[.int .i64 1] 3)) (some ⟨w.heap.size, 0, none⟩) [1] := fun i z hz => by
  match i, hz with
  | 0, hz =>
    cases hz
    exact ⟨_, rfl, (Bk.new w #[.int .i64 1] 3).cell 0⟩
  | i + 1, hz => simp at hz
theorem abc_str : strOfNums (Lib.numsL [97, 98, 99]) = ⟨#[97, 98, 99]⟩ := by decide +kernel
set_option maxHeartbeats 2000000 in
set_option maxRecDepth 100000 in
theorem awake_calls (w : World) : Calls Try.prog 9 #[] w fun e w' => e = .returned (.bool true) ∧ Below w.heap.size w w' := by
  have HN : Hid (Calls Try.prog 7 #[.int .i64 100] w _) := new_calls 100 ⟨by decide, by decide⟩ w
  go_enter Try.func9, Try.ntmps9
  go_wp2_with fail
  refine HN.out.mono ?_
  rintro e w1 ⟨g, b, rfl, hbl, hgb, hk, hz, hb⟩
  have d0 : Dk w.heap.size w1 g 100 (-1) false 0 b0 (fun _ => 0) := dk_new hk hz (by omega) hbl
  have HA1 : Hid (Calls Try.prog 16 #[.pointer (some ⟨g, 0, none⟩), .int .i64 3, .slice (some ⟨w1.heap.size, 0, none⟩) 2 2] (w1.alloc (.cells #[.int .u8 97, .int .u8 98] 5 (2, 3))) _) := append_live w.heap.size g 0 100 b0 _ 3 ⟨by decide, by decide⟩ _ 2 [97, 98] (w1.alloc (.cells #[.int .u8 97, .int .u8 98] 5 (2, 3))) (d0.below (bel1 _ _)) (by decide) (holds_bval w1 [97, 98] (2, 3)) (by rw [u0]; decide) (by decide)
  have HB1 : Hid (Below w.heap.size w w1) := hb
  have cv := Lib.run_convert_bytes_const (P := Try.prog) w1 31 5 #[.int .u8 97, .int .u8 98] 2 2 Try.underlying31 Try.underlying5
  clear hbl hgb hk hz hb d0 HN
  go_wp2_with fail
  refine HA1.out.mono ?_
  rintro e w2 ⟨rfl, d1, hb⟩
  rw [ab_] at d1
  have HS1 : Hid (Calls Try.prog 17 #[.pointer (some ⟨g, 0, none⟩)] w2 _) := sync_live w.heap.size g 1 100 b1 _ w2 d1 (by decide)
  have HB2 : Hid (Below w.heap.size w w2) := (bel2 HB1.out (bel1 _ _)).trans hb
  clear d1 hb HA1 cv
  go_wp2_with fail
  refine HS1.out.mono ?_
  rintro e w3 ⟨rfl, d2, hb⟩
  have HA2 : Hid (Calls Try.prog 16 #[.pointer (some ⟨g, 0, none⟩), .int .i64 3, .slice (some ⟨w3.heap.size, 0, none⟩) 2 2] (w3.alloc (.cells #[.int .u8 99, .int .u8 100] 5 (2, 3))) _) := append_live w.heap.size g 1 100 b1 s1 3 ⟨by decide, by decide⟩ _ 2 [99, 100] (w3.alloc (.cells #[.int .u8 99, .int .u8 100] 5 (2, 3))) (d2.below (bel1 _ _)) (by decide) (holds_bval w3 [99, 100] (2, 3)) (by rw [u1]; decide) (by decide)
  have HB3 : Hid (Below w.heap.size w w3) := HB2.out.trans hb
  have cv := Lib.run_convert_bytes_const (P := Try.prog) w3 31 5 #[.int .u8 99, .int .u8 100] 2 2 Try.underlying31 Try.underlying5
  clear d2 hb HS1
  go_wp2_with fail
  refine HA2.out.mono ?_
  rintro e w4 ⟨rfl, d3, hb⟩
  rw [ab_cd] at d3
  have HC : Hid (Calls Try.prog 18 #[.pointer (some ⟨g, 0, none⟩), .slice (some ⟨w4.heap.size, 0, none⟩) 1 1] (w4.alloc (.cells #[.int .i64 1] 3)) _) := crash_calls w.heap.size g 2 100 (-1) false b2 s1 [1] _ 1 (w4.alloc (.cells #[.int .i64 1] 3)) (d3.below (bel1 _ _)) sur2 (by decide) (kp_one w4) (by decide)
  have HB4 : Hid (Below w.heap.size w w4) := (bel2 HB3.out (bel1 _ _)).trans hb
  clear d3 hb HA2 cv
  go_wp2_with fail
  refine HC.out.mono ?_
  rintro e w5 ⟨rfl, ⟨b', n', D', av', cv', _, hk, hd⟩, hb⟩
  have hd' : Dz w.heap.size w5 g b' n' D' av' cv' b3 (fun k => ((b3 k).length : Int)) := hd
  have ho := (hd'.own 3).holds
  rw [b3_3] at ho
  have hv3 := hd'.hv 3
  dsimp only at hv3
  rw [b3_3] at hv3
  have HR : Hid (Calls Try.prog 19 #[.pointer (some ⟨g, 0, none⟩), .int .i64 3] w5 _) := read_calls g b' n' _ _ false D' 3 (by decide +kernel) _ _ _ _ [97, 98, 99] w5 hk hd'.zm hv3 ho (by decide)
  have HB5 : Hid (Below w.heap.size w w5) := (bel2 HB4.out (bel1 _ _)).trans hb
  clear hk hd hd' hb ho hv3 HC
  go_wp2_with fail
  refine HR.out.mono ?_
  rintro e w6 ⟨ra, rn, rc, rfl, hh, hb⟩
  have hh' : Lib.HoldsBytes w6 (.slice ra rn rc) [97, 98, 99] := hh
  have cv := conv_string w6 ra rn rc [97, 98, 99] hh'
  rw [abc_str] at cv
  have HB6 : Hid (Below w.heap.size w w6) := bel2 HB5.out hb
  rw [show rdE 3 false = 0 from rfl]
  clear hh hh' hb HR
  go_wp2_with fail
  go_ret
  exact ⟨rfl, HB6.out⟩
end Go.Proofs.Ytfjcjaojbdcpeaa
