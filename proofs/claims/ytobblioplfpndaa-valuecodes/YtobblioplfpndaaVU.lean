/- The walk of ValueTotal. -/
import Derived.Test.YtobblioplfpndaaVP
import Derived.Test.YtobblioplfpndaaVK
import Derived.Test.YtobblioplfpndaaVC
import Derived.Test.YtobblioplfpndaaVT
import Derived.Deep.DeepCutAuto
namespace Go.Proofs.Ytobblioplfpndaa
open Go.ChangeShapes Go.WideShapes Go.ChangeAt Go.RowKit
set_option maxHeartbeats 2000000 in
theorem float_calls (x c : Nat) (hc : ∀ W, Calls Try.prog 38 #[.int .u64 (x : Int)] W fun e w' => e = .returned (.int .u64 (c : Nat)) ∧ w' = W) (w : World) : Calls Try.prog 14 #[.int .u64 (x : Int)] w fun e w' => e = .returned (.agg #[.int .i64 2, .int .i64 0, .int .u64 (c : Int), .string ⟨#[]⟩, .slice none 0 0]) ∧ Below w.heap.size w w' := by
  have HC : Hid (∀ W, _) := hc
  clear hc
  go_enter Try.func14, Try.ntmps14
  go_wp2_with fail
  refine (HC.out _).mono ?_
  rintro e w1 ⟨rfl, rfl⟩
  go_wp2_with fail
  refine bodyPost_ret (ret5 Try.results14 _ (g := w.heap.size) rfl (box_at w _ _ _ _ _)) rfl ?_
  exact ⟨rfl, bel1 _ _⟩
theorem cn_cn (x : Nat) : cn (cn x) = cn x := by
  unfold cn
  have : FM.isN (cn x) = FM.isN x := isN_cn x
  cases h : FM.isN x
  · simp [h]
  · simp only [cn, h, if_true] at this ⊢
    simp [this]
set_option maxHeartbeats 8000000 in
set_option maxRecDepth 100000 in
theorem walk_total (n : Nat) (v : Value) (t : Tv) (v2 : Value) (t2 : Tv) (v3 : Value) (t3 : Tv) (w : World) (h : Is w n v t) (h2 : Is w n v2 t2) (h3 : Is w n v3 t3) :
    Calls Try.prog 7 #[v, v2, v3] w fun e w' => e = .returned (.bool true) ∧ Below w.heap.size w w' := by
  have F1 := fun W (hB : Below w.heap.size w W) => fine_calls n v t W (h.below hB)
  have F2 := fun W (hB : Below w.heap.size w W) => fine_calls n v2 t2 W (h2.below hB)
  have F3 := fun W (hB : Below w.heap.size w W) => fine_calls n v3 t3 W (h3.below hB)
  have K1 := fun W (hB : Below w.heap.size w W) => check_calls n v t W (h.below hB)
  have K2 := fun W (hB : Below w.heap.size w W) => check_calls n v2 t2 W (h2.below hB)
  have S1 := fun W (hB : Below w.heap.size w W) => same_calls n v t v2 t2 W (h.below hB) (h2.below hB)
  obtain ⟨p, hp⟩ : ∃ r, r = ordT n t t2 := ⟨_, rfl⟩
  obtain ⟨q, hq⟩ : ∃ r, r = ordT n t2 t3 := ⟨_, rfl⟩
  obtain ⟨r, hr⟩ : ∃ r, r = ordT n t t3 := ⟨_, rfl⟩
  obtain ⟨p', hp'⟩ : ∃ r, r = ordT n t2 t := ⟨_, rfl⟩
  have O := ord3_ordT n
  have P3 : p = -1 ∨ p = 0 ∨ p = 1 := by rw [hp]; exact O.three _ _
  have PT : p' = -p := by rw [hp, hp']; exact O.turn _ _
  have TR : p ≤ 0 → q ≤ 0 → r ≤ 0 ∧ (p < 0 → r < 0) := by
    rw [hp, hq, hr]
    intro h1 h2
    have := O.trans _ _ _ h1 h2
    exact ⟨this.1, this.2.1⟩
  have ZE : May n t → May n t2 → (p = 0 ↔ t = t2) := fun m1 m2 => by rw [hp]; exact ordT_zero n v t v2 t2 4 4 h h2 m1.1 m2.1
  have HZ : Hid (May n t → May n t2 → (p = 0 ↔ t = t2)) := ZE
  have HT : Hid (p ≤ 0 → q ≤ 0 → r ≤ 0 ∧ (p < 0 → r < 0)) := TR
  have HP3 : Hid (p = -1 ∨ p = 0 ∨ p = 1) := P3
  have HPT : Hid (p' = -p) := PT
  have C1 : ∀ W, Below w.heap.size w W → Calls Try.prog 23 #[v, v2] W fun e w' => e = .returned (.int .i64 p) ∧ Below W.heap.size W w' := fun W hB => by rw [hp]; exact order_calls5 n v t v2 t2 W (h.below hB) (h2.below hB)
  have C2 : ∀ W, Below w.heap.size w W → Calls Try.prog 23 #[v2, v3] W fun e w' => e = .returned (.int .i64 q) ∧ Below W.heap.size W w' := fun W hB => by rw [hq]; exact order_calls5 n v2 t2 v3 t3 W (h2.below hB) (h3.below hB)
  have C3 : ∀ W, Below w.heap.size w W → Calls Try.prog 23 #[v, v3] W fun e w' => e = .returned (.int .i64 r) ∧ Below W.heap.size W w' := fun W hB => by rw [hr]; exact order_calls5 n v t v3 t3 W (h.below hB) (h3.below hB)
  have C4 : ∀ W, Below w.heap.size w W → Calls Try.prog 23 #[v2, v] W fun e w' => e = .returned (.int .i64 p') ∧ Below W.heap.size W w' := fun W hB => by rw [hp']; exact order_calls5 n v2 t2 v t W (h2.below hB) (h.below hB)
  have sh : ∀ {v : Value} {t : Tv}, Is w n v t → ∃ (k x : Int) (b : Nat) (s : ByteArray) (a : Option Addr) (m c : Nat), v = .agg #[.int .i64 k, .int .i64 x, .int .u64 (b : Int), .string s, .slice a m c] := by
    intro v t h
    cases n with
    | zero => exact h.elim
    | succ n =>
      obtain ⟨k, x, b, s, l⟩ := t; obtain ⟨a, c, rfl, hf, _⟩ := h
      obtain ⟨b, rfl⟩ : ∃ m : Nat, b = m := ⟨b.toNat, by have := hf.b0; omega⟩
      exact ⟨_, _, _, _, _, _, _, rfl⟩
  obtain ⟨k, x, b, s, a, m, c, rfl⟩ := sh h
  obtain ⟨k2, x2, b2, s2, a2, m2, c2, rfl⟩ := sh h2
  obtain ⟨k3, x3, b3, s3, a3, m3, c3, rfl⟩ := sh h3
  obtain ⟨z, hz⟩ : ∃ z, z = cn b := ⟨_, rfl⟩
  have D1 : ∀ W, Calls Try.prog 38 #[.int .u64 (b : Int)] W fun e w' => e = .returned (.int .u64 (z : Nat)) ∧ w' = W := fun W => by rw [hz]; exact canon_calls b W
  have D2 : ∀ W, Calls Try.prog 38 #[.int .u64 (z : Int)] W fun e w' => e = .returned (.int .u64 (z : Nat)) ∧ w' = W := fun W => by
    have := canon_calls z W
    rwa [show cn z = z from by rw [hz]; exact cn_cn b] at this
  have D3 := float_calls b z D1
  have HF1 : Hid (∀ W, Below w.heap.size w W → _) := F1
  have HF2 : Hid (∀ W, Below w.heap.size w W → _) := F2
  have HF3 : Hid (∀ W, Below w.heap.size w W → _) := F3
  have HK1 : Hid (∀ W, Below w.heap.size w W → _) := K1
  have HK2 : Hid (∀ W, Below w.heap.size w W → _) := K2
  have HS1 : Hid (∀ W, Below w.heap.size w W → _) := S1
  have HC1 : Hid (∀ W, Below w.heap.size w W → _) := C1
  have HC2 : Hid (∀ W, Below w.heap.size w W → _) := C2
  have HC3 : Hid (∀ W, Below w.heap.size w W → _) := C3
  have HC4 : Hid (∀ W, Below w.heap.size w W → _) := C4
  have HD1 : Hid (∀ W, _) := D1
  have HD2 : Hid (∀ W, _) := D2
  have HD3 : Hid (∀ W, _) := D3
  clear h h2 h3 hr hp hq hp' hz sh F1 F2 F3 K1 K2 S1 C1 C2 C3 C4 D1 D2 D3 O P3 PT TR ZE
  go_enter Try.func7, Try.ntmps7
  go_wp2_with fail
  generalize hW0 : ((w.alloc (Obj.cells #[.int .i64 k, .int .i64 x, .int .u64 (b : Int), .string s, .slice a m c] 25)).alloc (Obj.cells #[.int .i64 k2, .int .i64 x2, .int .u64 (b2 : Int), .string s2, .slice a2 m2 c2] 25)).alloc (Obj.cells #[.int .i64 k3, .int .i64 x3, .int .u64 (b3 : Int), .string s3, .slice a3 m3 c3] 25) = W0
  have HA : Hid (At5 W0 w.heap.size 0 (.int .i64 k) (.int .i64 x) (.int .u64 (b : Int)) (.string s) (.slice a m c)) := by subst hW0; exact (box_at w _ _ _ _ _).below (bel2 (bel1 _ _) (bel1 _ _))
  have HB : Hid (At5 W0 (w.heap.size + 1) 0 (.int .i64 k2) (.int .i64 x2) (.int .u64 (b2 : Int)) (.string s2) (.slice a2 m2 c2)) := by subst hW0; exact (box_at' _ _ (by simp) _ _ _ _ _).below (bel1 _ _)
  have HG : Hid (At5 W0 (w.heap.size + 1 + 1) 0 (.int .i64 k3) (.int .i64 x3) (.int .u64 (b3 : Int)) (.string s3) (.slice a3 m3 c3)) := by subst hW0; exact box_at' _ _ (by simp) _ _ _ _ _
  have HB0 : Hid (Below w.heap.size w W0) := by subst hW0; exact bel2 (bel2 (bel1 _ _) (bel1 _ _)) (bel1 _ _)
  clear hW0
  refine (HF1.out W0 HB0.out).mono ?_
  rintro e w1 ⟨⟨f1, rfl⟩, hb1⟩
  have T1 : Hid (Below W0.heap.size W0 w1) := hb1
  clear hb1
  obtain ⟨p0, p1, p2, p3, p4⟩ := HB.out.below T1.out
  cases f1 with
  | false =>
    go_wp2_with fail
    refine (awake_calls _).mono ?_
    rintro e w2 ⟨rfl, hb2⟩
    have T2 : Hid (Below W0.heap.size W0 w2) := bel2 T1.out hb2
    clear hb2
    go_wp2_with fail
    go_ret
    exact ⟨rfl, bel2 HB0.out T2.out⟩
  | true =>
    go_wp2_with fail
    refine (HF2.out w1 (bel2 HB0.out T1.out)).mono ?_
    rintro e w2 ⟨⟨f2, rfl⟩, hb2⟩
    have T2 : Hid (Below W0.heap.size W0 w2) := bel2 T1.out hb2
    clear hb2 p0 p1 p2 p3 p4
    obtain ⟨p0, p1, p2, p3, p4⟩ := HG.out.below T2.out
    cases f2 with
    | false =>
      go_wp2_with fail
      refine (awake_calls _).mono ?_
      rintro e w3 ⟨rfl, hb3⟩
      have T3 : Hid (Below W0.heap.size W0 w3) := bel2 T2.out hb3
      clear hb3
      go_wp2_with fail
      go_ret
      exact ⟨rfl, bel2 HB0.out T3.out⟩
    | true =>
      go_wp2_with fail
      refine (HF3.out w2 (bel2 HB0.out T2.out)).mono ?_
      rintro e w3 ⟨⟨f3, rfl⟩, hb3⟩
      have T3 : Hid (Below W0.heap.size W0 w3) := bel2 T2.out hb3
      clear hb3 p0 p1 p2 p3 p4
      cases f3 with
      | false =>
        go_wp2_with fail
        refine (awake_calls _).mono ?_
        rintro e w4 ⟨rfl, hb4⟩
        have T4 : Hid (Below W0.heap.size W0 w4) := bel2 T3.out hb4
        clear hb4
        go_wp2_with fail
        go_ret
        exact ⟨rfl, bel2 HB0.out T4.out⟩
      | true =>
        obtain ⟨y00, y01, y02, y03, y04⟩ := HA.out.below T3.out
        obtain ⟨z00, z01, z02, z03, z04⟩ := HB.out.below T3.out
        obtain ⟨g00, g01, g02, g03, g04⟩ := HG.out.below T3.out
        go_wp2_with fail
        go_region_held3 (fun w' => w'.cell? ⟨w.heap.size, 0, none⟩ = some (.int .i64 k) ∧ w'.cell? ⟨w.heap.size, 0 + 1, none⟩ = some (.int .i64 x) ∧ w'.cell? ⟨w.heap.size, 0 + 2, none⟩ = some (.int .u64 (b : Int)) ∧ w'.cell? ⟨w.heap.size, 0 + 3, none⟩ = some (.string s) ∧ w'.cell? ⟨w.heap.size, 0 + 4, none⟩ = some (.slice a m c) ∧ w'.cell? ⟨w.heap.size + 1, 0, none⟩ = some (.int .i64 k2) ∧ w'.cell? ⟨w.heap.size + 1, 0 + 1, none⟩ = some (.int .i64 x2) ∧ w'.cell? ⟨w.heap.size + 1, 0 + 2, none⟩ = some (.int .u64 (b2 : Int)) ∧ w'.cell? ⟨w.heap.size + 1, 0 + 3, none⟩ = some (.string s2) ∧ w'.cell? ⟨w.heap.size + 1, 0 + 4, none⟩ = some (.slice a2 m2 c2) ∧ w'.cell? ⟨w.heap.size + 1 + 1, 0, none⟩ = some (.int .i64 k3) ∧ w'.cell? ⟨w.heap.size + 1 + 1, 0 + 1, none⟩ = some (.int .i64 x3) ∧ w'.cell? ⟨w.heap.size + 1 + 1, 0 + 2, none⟩ = some (.int .u64 (b3 : Int)) ∧ w'.cell? ⟨w.heap.size + 1 + 1, 0 + 3, none⟩ = some (.string s3) ∧ w'.cell? ⟨w.heap.size + 1 + 1, 0 + 4, none⟩ = some (.slice a3 m3 c3)) (go_keep) (first | (go_at_call_of 23 (Value.agg #[.int .i64 k, .int .i64 x, .int .u64 (b : Int), .string s, .slice a m c]); go_at_call_of 23 (Value.agg #[.int .i64 k2, .int .i64 x2, .int .u64 (b2 : Int), .string s2, .slice a2 m2 c2]); refine (HC1.out _ (bel2 HB0.out T3.out).drew).mono ?_; rintro e w4 ⟨rfl, hb4⟩; have T4 : Hid (Below W0.heap.size W0 w4) := bel2 T3.out.drew hb4; obtain ⟨y40, y41, y42, y43, y44⟩ := HA.out.below T4.out; obtain ⟨z40, z41, z42, z43, z44⟩ := HB.out.below T4.out; obtain ⟨g40, g41, g42, g43, g44⟩ := HG.out.below T4.out; clear hb4) | (go_at_call_of 23 (Value.agg #[.int .i64 k2, .int .i64 x2, .int .u64 (b2 : Int), .string s2, .slice a2 m2 c2]); go_at_call_of 23 (Value.agg #[.int .i64 k3, .int .i64 x3, .int .u64 (b3 : Int), .string s3, .slice a3 m3 c3]); refine (HC2.out _ (bel2 HB0.out T4.out)).mono ?_; rintro e w5 ⟨rfl, hb5⟩; have T5 : Hid (Below W0.heap.size W0 w5) := bel2 T4.out hb5; obtain ⟨y50, y51, y52, y53, y54⟩ := HA.out.below T5.out; obtain ⟨z50, z51, z52, z53, z54⟩ := HB.out.below T5.out; obtain ⟨g50, g51, g52, g53, g54⟩ := HG.out.below T5.out; clear hb5) | (go_at_call_of 23 (Value.agg #[.int .i64 k, .int .i64 x, .int .u64 (b : Int), .string s, .slice a m c]); go_at_call_of 23 (Value.agg #[.int .i64 k3, .int .i64 x3, .int .u64 (b3 : Int), .string s3, .slice a3 m3 c3]); refine (HC3.out _ (bel2 HB0.out T5.out)).mono ?_; rintro e w6 ⟨rfl, hb6⟩; have T6 : Hid (Below W0.heap.size W0 w6) := bel2 T5.out hb6; obtain ⟨y60, y61, y62, y63, y64⟩ := HA.out.below T6.out; obtain ⟨z60, z61, z62, z63, z64⟩ := HB.out.below T6.out; obtain ⟨g60, g61, g62, g63, g64⟩ := HG.out.below T6.out; clear hb6))
        clear HF1 HF2 HF3 HC1 HC2 HC3 y00 y01 y02 y03 y04 z00 z01 z02 z03 z04 g00 g01 g02 g03 g04
        go_upto_region 4 with fail
        go_cut [7, 62] (fun s7 t62 wc => s7 = .int .i64 p ∧ t62 = .bool false ∧ Hid (Below W0.heap.size W0 wc))
        case first =>
          go_wp2_with fail
          refine (HC4.out _ (bel2 HB0.out T6.out)).mono ?_
          rintro e w7 ⟨rfl, hb7⟩
          have T7 : Hid (Below W0.heap.size W0 w7) := bel2 T6.out hb7
          clear hb7
          rcases HP3.out with rfl | rfl | rfl
          · obtain rfl : p' = 1 := by have := HPT.out; omega
            by_cases hq0 : q ≤ 0
            · have hr0 : r < 0 := (HT.out (by omega) hq0).2 (by omega)
              have dr1 : decide (0 < r) = false := decide_eq_false (by omega)
              have dr2 : decide (0 ≤ r) = false := decide_eq_false (by omega)
              have dq0 : decide (q ≤ 0) = true := decide_eq_true hq0
              by_cases hq1 : q < 0
              · have dq1 : decide (q < 0) = true := decide_eq_true hq1
                clear hq0 hq1 hr0
                go_wp2_with fail
                go_meet
                case rel => exact ⟨rfl, rfl, T7⟩
              · have dq1 : decide (q < 0) = false := decide_eq_false hq1
                clear hq0 hq1 hr0
                go_wp2_with fail
                go_meet
                case rel => exact ⟨rfl, rfl, T7⟩
            · have dq0 : decide (q ≤ 0) = false := decide_eq_false hq0
              have dq1 : decide (q < 0) = false := decide_eq_false (by omega)
              clear hq0
              go_wp2_with fail
              go_meet
              case rel => exact ⟨rfl, rfl, T7⟩
          · obtain rfl : p' = 0 := by have := HPT.out; omega
            by_cases hq0 : q ≤ 0
            · have hr0 : r ≤ 0 := (HT.out (by omega) hq0).1
              have dr1 : decide (0 < r) = false := decide_eq_false (by omega)
              have dq0 : decide (q ≤ 0) = true := decide_eq_true hq0
              clear hq0 hr0
              go_wp2_with fail
              go_meet
              case rel => exact ⟨rfl, rfl, T7⟩
            · have dq0 : decide (q ≤ 0) = false := decide_eq_false hq0
              clear hq0
              go_wp2_with fail
              go_meet
              case rel => exact ⟨rfl, rfl, T7⟩
          · obtain rfl : p' = -1 := by have := HPT.out; omega
            go_wp2_with fail
            go_meet
            case rel => exact ⟨rfl, rfl, T7⟩
        case rest =>
          obtain ⟨rfl, rfl, T7⟩ := hcut
          obtain ⟨y00, y01, y02, y03, y04⟩ := HA.out.below T7.out
          clear HC4 HPT HT HP3
          go_upto_region 6 with fail
          go_cut [78] (fun t78 wc => t78 = .bool false ∧ Hid (Below W0.heap.size W0 wc))
          case first =>
            go_wp2_with fail
            refine (HK1.out _ (bel2 HB0.out T7.out)).mono ?_
            rintro e w8 ⟨⟨r1, rfl, m1, m2⟩, hb8⟩
            have T8 : Hid (Below W0.heap.size W0 w8) := bel2 T7.out hb8
            clear hb8
            clear y00 y01 y02 y03 y04
            by_cases M1 : May n t
            · obtain rfl := m1 M1
              have HM1 : Hid (May n t) := M1
              clear m1 m2 M1
              obtain ⟨z00, z01, z02, z03, z04⟩ := HB.out.below T8.out
              go_wp2_with fail
              refine (HK2.out _ (bel2 HB0.out T8.out)).mono ?_
              rintro e w9 ⟨⟨r2, rfl, m1, m2⟩, hb9⟩
              have T9 : Hid (Below W0.heap.size W0 w9) := bel2 T8.out hb9
              clear hb9 z00 z01 z02 z03 z04
              by_cases M2 : May n t2
              · obtain rfl := m1 M2
                have HM2 : Hid (May n t2) := M2
                clear m1 m2 M2
                obtain ⟨y00, y01, y02, y03, y04⟩ := HA.out.below T9.out
                obtain ⟨z00, z01, z02, z03, z04⟩ := HB.out.below T9.out
                go_wp2_with fail
                refine (HS1.out _ (bel2 HB0.out T9.out)).mono ?_
                rintro e w10 ⟨⟨q0, rfl, hq0⟩, hb10⟩
                have T10 : Hid (Below W0.heap.size W0 w10) := bel2 T9.out hb10
                have hz0 := (HZ.out HM1.out HM2.out).trans hq0.symm
                have hz1 : (p == 0) = q0 := by
                  cases q0 with
                  | true => simpa using hz0.mpr rfl
                  | false => simp at hz0; simpa using hz0
                clear hb10 hq0 hz0 y00 y01 y02 y03 y04 z00 z01 z02 z03 z04
                cases q0 with
                | true =>
                  go_wp2_with fail
                  go_meet
                  case rel => exact ⟨rfl, T10⟩
                | false =>
                  go_wp2_with fail
                  go_meet
                  case rel => exact ⟨rfl, T10⟩
              · obtain rfl := m2 M2
                clear m1 m2 M2
                go_wp2_with fail
                go_meet
                case rel => exact ⟨rfl, T9⟩
            · obtain rfl := m2 M1
              clear m1 m2 M1
              go_wp2_with fail
              go_meet
              case rel => exact ⟨rfl, T8⟩
          case rest =>
            obtain ⟨rfl, T8⟩ := hcut
            obtain ⟨y00, y01, y02, y03, y04⟩ := HA.out.below T8.out
            have dz : ((z : Int) == (z : Int)) = true := by simp
            go_wp2_with fail
            have u0 : wc.cell? ⟨w.heap.size, 2, none⟩ = some (.int .u64 (b : Int)) := y02
            clear y00 y01 y02 y03 y04
            have hfl : ∀ W, (Instr.field 25 (Value.agg #[.int .i64 2, .int .i64 0, .int .u64 (z : Int), .string ⟨#[]⟩, .slice none 0 0]) 2).run Try.prog W = .ok (.int .u64 (z : Int)) W := fun W => by kernel_rfl
            go_region_held3 (fun w' => w'.cell? ⟨w.heap.size, 2, none⟩ = some (.int .u64 (b : Int))) (go_keep) (first | (go_at_call 14; refine (HD3.out _).mono ?_; rintro e w9 ⟨rfl, hb9⟩; have T9 : Hid (Below W0.heap.size W0 w9) := bel2 T8.out.drew hb9; have u9 : w9.cell? ⟨w.heap.size, 2, none⟩ = some (.int .u64 (b : Int)) := (HA.out.below T9.out).2.2.1; clear hb9) | (go_at_call_of 38 (Value.int IntKind.u64 (z : Int)); refine (HD2.out _).mono ?_; rintro e w10 ⟨rfl, hw10⟩; have hx := hw10.symm; subst hx; clear hw10) | (go_at_call_of 38 (Value.int IntKind.u64 (b : Int)); refine (HD1.out _).mono ?_; rintro e w11 ⟨rfl, hw11⟩; have hx := hw11.symm; subst hx; clear hw11) | (go_at_call 10; refine (awake_calls _).mono ?_; rintro e w12 ⟨rfl, hb12⟩; have T12 : Hid (Below W0.heap.size W0 w12) := bel2 T9.out hb12; have u12 : w12.cell? ⟨w.heap.size, 2, none⟩ = some (.int .u64 (b : Int)) := (HA.out.below T12.out).2.2.1; clear hb12))
            all_goals go_wp2_with fail
            all_goals go_ret
            all_goals exact ⟨rfl, bel2 HB0.out T12.out⟩
end Go.Proofs.Ytobblioplfpndaa
