/- A trial: region 3 of ValueMakes. -/
import Derived.Test.YtobblioplfpndaaYI
namespace Go.Proofs.Ytobblioplfpndaa
open Go.ChangeShapes Go.WideShapes Go.ChangeAt Go.RowKit Go.BigFrame
set_option maxHeartbeats 4000000 in
set_option maxRecDepth 100000 in
theorem makes_walk (n : Nat) (v : Value) (t : Tv) (v2 : Value) (t2 : Tv) (x0 : Int) (u : Nat) (str : ByteArray) (w : World) (h : Is w n v t) (h2 : Is w n v2 t2)
    (HSi : Hid (∀ W, Calls Try.prog 11 #[.agg #[.int .i64 1, .int .i64 x0, .int .u64 0, .string ⟨#[]⟩, .slice none 0 0], .agg #[.int .i64 1, .int .i64 x0, .int .u64 0, .string ⟨#[]⟩, .slice none 0 0]] W fun e w' => e = .returned (.bool true) ∧ Below W.heap.size W w'))
    (HSf : Hid (∀ W, Calls Try.prog 11 #[.agg #[.int .i64 2, .int .i64 0, .int .u64 ((cn u : Nat) : Int), .string ⟨#[]⟩, .slice none 0 0], .agg #[.int .i64 2, .int .i64 0, .int .u64 ((cn u : Nat) : Int), .string ⟨#[]⟩, .slice none 0 0]] W fun e w' => e = .returned (.bool true) ∧ Below W.heap.size W w'))
    (HSt : Hid (∀ W, Calls Try.prog 11 #[.agg #[.int .i64 3, .int .i64 0, .int .u64 0, .string str, .slice none 0 0], .agg #[.int .i64 3, .int .i64 0, .int .u64 0, .string str, .slice none 0 0]] W fun e w' => e = .returned (.bool true) ∧ Below W.heap.size W w')) :
    Calls Try.prog 3 #[.int .i64 x0, .int .u64 (u : Int), .string str, v, v2] w fun e w' => e = .returned (.bool true) ∧ Below w.heap.size w w' := by
  have HF1 : Hid (∀ W, Below w.heap.size w W → _) := fun W (hB : Below w.heap.size w W) => fine2_calls n v t W (h.below hB)
  have HF2 : Hid (∀ W, Below w.heap.size w W → _) := fun W (hB : Below w.heap.size w W) => fine2_calls n v2 t2 W (h2.below hB)
  have HI : Hid (Is w n v t ∧ Is w n v2 t2) := ⟨h, h2⟩
  have sh : ∀ {v : Value} {t : Tv}, Is w n v t → ∃ (k x b : Int) (s : ByteArray) (a : Option Addr) (m c : Nat), v = .agg #[.int .i64 k, .int .i64 x, .int .u64 b, .string s, .slice a m c] := by
    intro v t h
    cases n with
    | zero => exact h.elim
    | succ n => obtain ⟨k, x, b, s, l⟩ := t; obtain ⟨a, c, rfl, hf, _⟩ := h; exact ⟨_, _, _, _, _, _, _, rfl⟩
  obtain ⟨k, x, b, s, a, m, c, rfl⟩ := sh h
  obtain ⟨k2, x2, b2, s2, a2, m2, c2, rfl⟩ := sh h2
  obtain ⟨z, hz⟩ : ∃ z, z = cn u := ⟨_, rfl⟩
  rw [← hz] at HSf
  have HMf : Hid (∀ W, Calls Try.prog 14 #[.int .u64 (u : Int)] W fun e w' => e = .returned (.agg #[.int .i64 2, .int .i64 0, .int .u64 (z : Int), .string ⟨#[]⟩, .slice none 0 0]) ∧ Below W.heap.size W w') := fun W => by rw [hz]; exact mfloat_calls u W
  have HRf : Hid (∀ W, Calls Try.prog 15 #[.int .u64 (u : Int)] W fun e w' => e = .returned (.agg #[.int .i64 2, .int .i64 0, .int .u64 (z : Int), .string ⟨#[]⟩, .slice none 0 0]) ∧ Below W.heap.size W w') := fun W => by rw [hz]; exact rfloat_calls u W
  have HML : Hid (∀ W g, Below w.heap.size w W → Two W g k x b s a m c k2 x2 b2 s2 a2 m2 c2 → Small n t → Small n t2 → Calls Try.prog 18 #[.slice (some ⟨g, 0, none⟩) 2 2] W (LiP W n t t2)) := fun W g hB h2' s1 s2 => mlist_calls n g W t t2 (row2 h2'.1 h2'.2 (h.below hB) (h2.below hB)) s1 s2
  have HRL : Hid (∀ W g, Below w.heap.size w W → Two W g k x b s a m c k2 x2 b2 s2 a2 m2 c2 → Calls Try.prog 19 #[.slice (some ⟨g, 0, none⟩) 2 2] W (LiP W n t t2)) := fun W g hB h2' => rlist_calls n g W t t2 _ _ _ _ _ _ _ _ _ _ h2'.1 h2'.2 (h.below hB) (h2.below hB) (by intro z hz; simp only [List.mem_cons, List.not_mem_nil, or_false] at hz; rcases hz with rfl | rfl | rfl | rfl | rfl | rfl | rfl | rfl | rfl | rfl <;> rfl)
  obtain ⟨r0, HK, HK2⟩ : ∃ r0 : Int, Hid (∀ W, Below w.heap.size w W → Calls Try.prog 20 #[(Value.agg #[.int .i64 k, .int .i64 x, .int .u64 b, .string s, .slice a m c])] W fun e w' => e = .returned (.int .i64 r0) ∧ Below W.heap.size W w') ∧ Hid (∀ W, Below w.heap.size w W → Calls Try.prog 21 #[(Value.agg #[.int .i64 k, .int .i64 x, .int .u64 b, .string s, .slice a m c])] W fun e w' => e = .returned (.int .i64 r0) ∧ Below W.heap.size W w') := by
    rcases Classical.em (May n t) with hm | hm
    · exact ⟨0, fun W hB => (check_calls n _ t W (h.below hB)).mono fun e w' ⟨⟨r, he, h1, _⟩, hb⟩ => ⟨by rw [he, h1 hm], hb⟩, fun W hB => (rcheck_calls n _ t W (h.below hB)).mono fun e w' ⟨⟨r, he, h1, _⟩, hb⟩ => ⟨by rw [he, h1 hm], hb⟩⟩
    · exact ⟨1, fun W hB => (check_calls n _ t W (h.below hB)).mono fun e w' ⟨⟨r, he, _, h1⟩, hb⟩ => ⟨by rw [he, h1 hm], hb⟩, fun W hB => (rcheck_calls n _ t W (h.below hB)).mono fun e w' ⟨⟨r, he, _, h1⟩, hb⟩ => ⟨by rw [he, h1 hm], hb⟩⟩
  obtain ⟨q0, HQ, HQ2⟩ : ∃ q0 : Bool, Hid (∀ W, Below w.heap.size w W → Calls Try.prog 22 #[(Value.agg #[.int .i64 k, .int .i64 x, .int .u64 b, .string s, .slice a m c]), (Value.agg #[.int .i64 k2, .int .i64 x2, .int .u64 b2, .string s2, .slice a2 m2 c2])] W fun e w' => e = .returned (.bool q0) ∧ Below W.heap.size W w') ∧ Hid (∀ W, Below w.heap.size w W → Calls Try.prog 11 #[(Value.agg #[.int .i64 k, .int .i64 x, .int .u64 b, .string s, .slice a m c]), (Value.agg #[.int .i64 k2, .int .i64 x2, .int .u64 b2, .string s2, .slice a2 m2 c2])] W fun e w' => e = .returned (.bool q0) ∧ Below W.heap.size W w') := by
    rcases Classical.em (t = t2) with hm | hm
    · exact ⟨true, fun W hB => (same_calls n _ t _ t2 W (h.below hB) (h2.below hB)).mono fun e w' ⟨⟨r, he, h1⟩, hb⟩ => ⟨by rw [he, h1.2 hm], hb⟩, fun W hB => (rsame_calls n _ t _ t2 W (h.below hB) (h2.below hB)).mono fun e w' ⟨⟨r, he, h1⟩, hb⟩ => ⟨by rw [he, h1.2 hm], hb⟩⟩
    · exact ⟨false, fun W hB => (same_calls n _ t _ t2 W (h.below hB) (h2.below hB)).mono fun e w' ⟨⟨r, he, h1⟩, hb⟩ => ⟨by rw [he]; cases r with | false => rfl | true => exact absurd (h1.1 rfl) hm, hb⟩, fun W hB => (rsame_calls n _ t _ t2 W (h.below hB) (h2.below hB)).mono fun e w' ⟨⟨r, he, h1⟩, hb⟩ => ⟨by rw [he]; cases r with | false => rfl | true => exact absurd (h1.1 rfl) hm, hb⟩⟩
  have HQ3 : Hid (∀ W, Below w.heap.size w W → Calls Try.prog 22 #[(Value.agg #[.int .i64 k, .int .i64 x, .int .u64 b, .string s, .slice a m c]), (Value.agg #[.int .i64 k, .int .i64 x, .int .u64 b, .string s, .slice a m c])] W fun e w' => e = .returned (.bool true) ∧ Below W.heap.size W w') := fun W hB => (same_calls n _ t _ t W (h.below hB) (h.below hB)).mono fun e w' ⟨⟨r, he, h1⟩, hb⟩ => ⟨by rw [he, h1.2 rfl], hb⟩
  clear h h2 sh hz
  go_enter Try.func3, Try.ntmps3
  go_wp2_with fail
  generalize hW0 : (w.alloc (Obj.cells #[.int .i64 k, .int .i64 x, .int .u64 b, .string s, .slice a m c] 25)).alloc (Obj.cells #[.int .i64 k2, .int .i64 x2, .int .u64 b2, .string s2, .slice a2 m2 c2] 25) = W0
  have HA : Hid (At5 W0 w.heap.size 0 (.int .i64 k) (.int .i64 x) (.int .u64 b) (.string s) (.slice a m c)) := by subst hW0; exact (box_at w _ _ _ _ _).below (bel1 _ _)
  have HB : Hid (At5 W0 (w.heap.size + 1) 0 (.int .i64 k2) (.int .i64 x2) (.int .u64 b2) (.string s2) (.slice a2 m2 c2)) := by subst hW0; exact box_at' _ _ (by simp) _ _ _ _ _
  have HB0 : Hid (Below w.heap.size w W0) := by subst hW0; exact bel2 (bel1 _ _) (bel1 _ _)
  clear hW0
  refine (HF1.out W0 HB0.out).mono ?_
  rintro e w1 ⟨⟨f1, rfl, hs1⟩, hb1⟩
  have T1 : Hid (Below W0.heap.size W0 w1) := hb1
  have HS1 : Hid (f1 = true → Small n t) := hs1
  clear hb1 hs1
  obtain ⟨p0, p1, p2, p3, p4⟩ := HB.out.below T1.out
  cases f1 with
  | false =>
    go_wp2_with fail
    refine (awake_calls _).mono ?_
    rintro e w2 ⟨rfl, hb2⟩
    have T2 : Hid (Below W0.heap.size W0 w2) := bel2 T1.out hb2
    clear hb2
    go_wp2_with fail
    go_ret
    exact ⟨rfl, bel2 HB0.out T2.out⟩
  | true =>
    go_wp2_with fail
    refine (HF2.out w1 (bel2 HB0.out T1.out)).mono ?_
    rintro e w2 ⟨⟨f2, rfl, hs2⟩, hb2⟩
    have T2 : Hid (Below W0.heap.size W0 w2) := bel2 T1.out hb2
    have HS2 : Hid (f2 = true → Small n t2) := hs2
    clear hb2 hs2 p0 p1 p2 p3 p4
    cases f2 with
    | false =>
      go_wp2_with fail
      refine (awake_calls _).mono ?_
      rintro e w3 ⟨rfl, hb3⟩
      have T3 : Hid (Below W0.heap.size W0 w3) := bel2 T2.out hb3
      clear hb3
      go_wp2_with fail
      go_ret
      exact ⟨rfl, bel2 HB0.out T3.out⟩
    | true =>
      have HSm : Hid (Small n t ∧ Small n t2) := ⟨by simpa using HS1.out, by simpa using HS2.out⟩
      clear HS1 HS2
      obtain ⟨y00, y01, y02, y03, y04⟩ := HA.out.below T2.out
      obtain ⟨z00, z01, z02, z03, z04⟩ := HB.out.below T2.out
      go_wp2_with fail
      go_region_held3 (fun w' => w'.cell? ⟨w.heap.size, 0, none⟩ = some (.int .i64 k) ∧ w'.cell? ⟨w.heap.size, 0 + 1, none⟩ = some (.int .i64 x) ∧ w'.cell? ⟨w.heap.size, 0 + 2, none⟩ = some (.int .u64 b) ∧ w'.cell? ⟨w.heap.size, 0 + 3, none⟩ = some (.string s) ∧ w'.cell? ⟨w.heap.size, 0 + 4, none⟩ = some (.slice a m c) ∧ w'.cell? ⟨w.heap.size + 1, 0, none⟩ = some (.int .i64 k2) ∧ w'.cell? ⟨w.heap.size + 1, 0 + 1, none⟩ = some (.int .i64 x2) ∧ w'.cell? ⟨w.heap.size + 1, 0 + 2, none⟩ = some (.int .u64 b2) ∧ w'.cell? ⟨w.heap.size + 1, 0 + 3, none⟩ = some (.string s2) ∧ w'.cell? ⟨w.heap.size + 1, 0 + 4, none⟩ = some (.slice a2 m2 c2)) (go_keep) (first
        | (go_at_call 12; refine (mint_calls x0 _).mono ?_; rintro e w4 ⟨rfl, hb4⟩; have T4 : Hid (Below W0.heap.size W0 w4) := bel2 T2.out.drew hb4; obtain ⟨y40, y41, y42, y43, y44⟩ := HA.out.below T4.out; obtain ⟨z40, z41, z42, z43, z44⟩ := HB.out.below T4.out; clear hb4)
        | (go_at_call 13; refine (rint_calls x0 _).mono ?_; rintro e w5 ⟨rfl, hb5⟩; have T5 : Hid (Below W0.heap.size W0 w5) := bel2 T4.out hb5; obtain ⟨y50, y51, y52, y53, y54⟩ := HA.out.below T5.out; obtain ⟨z50, z51, z52, z53, z54⟩ := HB.out.below T5.out; clear hb5)
        | (go_at_call_of 11 (Value.agg #[.int .i64 1, .int .i64 x0, .int .u64 0, .string ⟨#[]⟩, .slice none 0 0]); refine (HSi.out _).mono ?_; rintro e w6 ⟨rfl, hb6⟩; have T6 : Hid (Below W0.heap.size W0 w6) := bel2 T5.out hb6; obtain ⟨y60, y61, y62, y63, y64⟩ := HA.out.below T6.out; obtain ⟨z60, z61, z62, z63, z64⟩ := HB.out.below T6.out; clear hb6)
        | (go_at_call 14; refine (HMf.out _).mono ?_; rintro e w7 ⟨rfl, hb7⟩; have T7 : Hid (Below W0.heap.size W0 w7) := bel2 T6.out hb7; obtain ⟨y70, y71, y72, y73, y74⟩ := HA.out.below T7.out; obtain ⟨z70, z71, z72, z73, z74⟩ := HB.out.below T7.out; clear hb7)
        | (go_at_call 15; refine (HRf.out _).mono ?_; rintro e w8 ⟨rfl, hb8⟩; have T8 : Hid (Below W0.heap.size W0 w8) := bel2 T7.out hb8; obtain ⟨y80, y81, y82, y83, y84⟩ := HA.out.below T8.out; obtain ⟨z80, z81, z82, z83, z84⟩ := HB.out.below T8.out; clear hb8)
        | (go_at_call_of 11 (Value.agg #[.int .i64 2, .int .i64 0, .int .u64 (z : Int), .string ⟨#[]⟩, .slice none 0 0]); refine (HSf.out _).mono ?_; rintro e w9 ⟨rfl, hb9⟩; have T9 : Hid (Below W0.heap.size W0 w9) := bel2 T8.out hb9; obtain ⟨y90, y91, y92, y93, y94⟩ := HA.out.below T9.out; obtain ⟨z90, z91, z92, z93, z94⟩ := HB.out.below T9.out; clear hb9)
        | (go_at_call 16; refine (mtext_calls str _).mono ?_; rintro e w10 ⟨rfl, hb10⟩; have T10 : Hid (Below W0.heap.size W0 w10) := bel2 T9.out hb10; obtain ⟨y100, y101, y102, y103, y104⟩ := HA.out.below T10.out; obtain ⟨z100, z101, z102, z103, z104⟩ := HB.out.below T10.out; clear hb10)
        | (go_at_call 17; refine (rtext_calls str _).mono ?_; rintro e w11 ⟨rfl, hb11⟩; have T11 : Hid (Below W0.heap.size W0 w11) := bel2 T10.out hb11; obtain ⟨y110, y111, y112, y113, y114⟩ := HA.out.below T11.out; obtain ⟨z110, z111, z112, z113, z114⟩ := HB.out.below T11.out; clear hb11)
        | (go_at_call_of 11 (Value.agg #[.int .i64 3, .int .i64 0, .int .u64 0, .string str, .slice none 0 0]); refine (HSt.out _).mono ?_; rintro e w12 ⟨rfl, hb12⟩; have T12 : Hid (Below W0.heap.size W0 w12) := bel2 T11.out hb12; obtain ⟨y120, y121, y122, y123, y124⟩ := HA.out.below T12.out; obtain ⟨z120, z121, z122, z123, z124⟩ := HB.out.below T12.out; clear hb12)
        | (go_at_call 18; refine (HML.out _ _ (by refine bel2 HB0.out ?_; first | exact bel2 T12.out (bel1 _ _) | exact bel2 (bel2 T12.out (bel1 _ _)) (bel1 _ _)) (by first | (refine two_new _ _ ?_ _ _ _ _ _ _ _ _ _ _ _ _ _ _; simp; done) | (refine Two.below (two_new _ _ ?_ _ _ _ _ _ _ _ _ _ _ _ _ _ _) (bel1 _ _); simp; done)) HSm.out.1 HSm.out.2).mono ?_; rintro e w13 ⟨⟨v13, rfl, hi13⟩, hb13⟩; have Q13 : Hid (Below _ _ w13) := hb13; have U13 : Hid (Is w13 (n + 1) v13 _) := hi13; have T13 : Hid (Below W0.heap.size W0 w13) := bel2 (by first | exact bel2 T12.out (bel1 _ _) | exact bel2 (bel2 T12.out (bel1 _ _)) (bel1 _ _)) hb13; obtain ⟨y130, y131, y132, y133, y134⟩ := HA.out.below T13.out; obtain ⟨z130, z131, z132, z133, z134⟩ := HB.out.below T13.out; clear hb13 hi13)
        | (go_at_call 19; refine (HRL.out _ _ (by refine bel2 HB0.out ?_; first | exact T13.out | exact bel2 T13.out (bel1 _ _)) (by first | (refine two_new _ _ ?_ _ _ _ _ _ _ _ _ _ _ _ _ _ _; simp; done) | (refine Two.below (two_new _ _ ?_ _ _ _ _ _ _ _ _ _ _ _ _ _ _) Q13.out; simp; done) | (refine Two.below (Two.below (two_new _ _ ?_ _ _ _ _ _ _ _ _ _ _ _ _ _ _) (bel1 _ _)) Q13.out; simp; done))).mono ?_; rintro e w14 ⟨⟨v14, rfl, hi14⟩, hb14⟩; have U14 : Hid (Is w14 (n + 1) v14 _) := hi14; have U13b : Hid (Is w14 (n + 1) v13 _) := (by first | exact U13.out.below hb14 | exact (U13.out.below (bel1 _ _)).below hb14); have T14 : Hid (Below W0.heap.size W0 w14) := bel2 (by first | exact T13.out | exact bel2 T13.out (bel1 _ _)) hb14; obtain ⟨y140, y141, y142, y143, y144⟩ := HA.out.below T14.out; obtain ⟨z140, z141, z142, z143, z144⟩ := HB.out.below T14.out; clear hb14 hi14)
        | (go_at_call 11; refine (rsame_calls (n + 1) _ _ _ _ _ U13b.out U14.out).mono ?_; rintro e w15 ⟨⟨r15, rfl, hr15⟩, hb15⟩; have hr := hr15.2 rfl; subst hr; have T15 : Hid (Below W0.heap.size W0 w15) := bel2 T14.out hb15; obtain ⟨y150, y151, y152, y153, y154⟩ := HA.out.below T15.out; obtain ⟨z150, z151, z152, z153, z154⟩ := HB.out.below T15.out; clear hb15 hr15)
        )
      all_goals clear HSi HSf HSt HMf HRf HML HRL HF1 HF2
      all_goals clear y00 y01 y02 y03 y04 z00 z01 z02 z03 z04
      all_goals go_upto_region 4 with fail
      all_goals
        go_region_held3 (fun w' => w'.cell? ⟨w.heap.size, 0, none⟩ = some (.int .i64 k) ∧ w'.cell? ⟨w.heap.size, 0 + 1, none⟩ = some (.int .i64 x) ∧ w'.cell? ⟨w.heap.size, 0 + 2, none⟩ = some (.int .u64 b) ∧ w'.cell? ⟨w.heap.size, 0 + 3, none⟩ = some (.string s) ∧ w'.cell? ⟨w.heap.size, 0 + 4, none⟩ = some (.slice a m c) ∧ w'.cell? ⟨w.heap.size + 1, 0, none⟩ = some (.int .i64 k2) ∧ w'.cell? ⟨w.heap.size + 1, 0 + 1, none⟩ = some (.int .i64 x2) ∧ w'.cell? ⟨w.heap.size + 1, 0 + 2, none⟩ = some (.int .u64 b2) ∧ w'.cell? ⟨w.heap.size + 1, 0 + 3, none⟩ = some (.string s2) ∧ w'.cell? ⟨w.heap.size + 1, 0 + 4, none⟩ = some (.slice a2 m2 c2)) (go_keep) (first
          | (go_at_call 20; refine (HK.out _ (bel2 HB0.out T15.out).drew).mono ?_; rintro e w20 ⟨rfl, hb20⟩; have T20 : Hid (Below W0.heap.size W0 w20) := bel2 T15.out.drew hb20; obtain ⟨y200, y201, y202, y203, y204⟩ := HA.out.below T20.out; obtain ⟨z200, z201, z202, z203, z204⟩ := HB.out.below T20.out; clear hb20)
          | (go_at_call 21; refine (HK2.out _ (bel2 HB0.out T20.out)).mono ?_; rintro e w21 ⟨rfl, hb21⟩; have T21 : Hid (Below W0.heap.size W0 w21) := bel2 T20.out hb21; obtain ⟨y210, y211, y212, y213, y214⟩ := HA.out.below T21.out; obtain ⟨z210, z211, z212, z213, z214⟩ := HB.out.below T21.out; clear hb21)
          | (go_at_call_of 22 (Value.agg #[.int .i64 k2, .int .i64 x2, .int .u64 b2, .string s2, .slice a2 m2 c2]); refine (HQ.out _ (bel2 HB0.out T21.out)).mono ?_; rintro e w22 ⟨rfl, hb22⟩; have T22 : Hid (Below W0.heap.size W0 w22) := bel2 T21.out hb22; obtain ⟨y220, y221, y222, y223, y224⟩ := HA.out.below T22.out; obtain ⟨z220, z221, z222, z223, z224⟩ := HB.out.below T22.out; clear hb22)
          | (go_at_call 11; refine (HQ2.out _ (bel2 HB0.out T22.out)).mono ?_; rintro e w23 ⟨rfl, hb23⟩; have T23 : Hid (Below W0.heap.size W0 w23) := bel2 T22.out hb23; obtain ⟨y230, y231, y232, y233, y234⟩ := HA.out.below T23.out; obtain ⟨z230, z231, z232, z233, z234⟩ := HB.out.below T23.out; clear hb23)
          | (go_at_call 22; refine (HQ3.out _ (bel2 HB0.out T23.out)).mono ?_; rintro e w24 ⟨rfl, hb24⟩; have T24 : Hid (Below W0.heap.size W0 w24) := bel2 T23.out hb24; obtain ⟨y240, y241, y242, y243, y244⟩ := HA.out.below T24.out; obtain ⟨z240, z241, z242, z243, z244⟩ := HB.out.below T24.out; clear hb24)
          | (go_at_call 10; refine (awake_calls _).mono ?_; rintro e w25 ⟨rfl, hb25⟩; have T25 : Hid (Below W0.heap.size W0 w25) := bel2 T24.out hb25; obtain ⟨y250, y251, y252, y253, y254⟩ := HA.out.below T25.out; obtain ⟨z250, z251, z252, z253, z254⟩ := HB.out.below T25.out; clear hb25)
          )
        all_goals go_wp2_with fail
        all_goals go_ret
        all_goals exact ⟨rfl, bel2 HB0.out T25.out⟩
end Go.Proofs.Ytobblioplfpndaa
