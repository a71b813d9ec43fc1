/- The contracts of the reference's reader: Num, Text, Open. -/
import Derived.Test.YtimiklekajelfaaPZ
namespace Go.Proofs.Ytimiklekajelfaa
open Go.ChangeShapes Go.WideShapes Go.ChangeAt Go.RowKit
theorem nb_le (x k : Nat) (h : x < 256 ^ k) : nb x ≤ k := by
  rcases Classical.em (x = 0) with h0 | h0
  · subst h0; have : nb 0 = 0 := by decide
    omega
  · have h1 := nb_ge x h0
    rcases Nat.lt_or_ge k (nb x) with h2 | h2
    · have h3 : (2 : Nat) ^ (8 * k) ≤ 2 ^ (8 * (nb x - 1)) := Nat.pow_le_pow_right (by decide) (by omega)
      rw [← pow_256] at h3
      omega
    · exact h2
/-- The two tests of a number that could have been written in fewer bytes are one. -/
theorem long_iff (x k : Nat) (hk : 1 ≤ k) (hx : x < 256 ^ k) : (enc x).length ≤ k ↔ x < 240 ∨ nb x ≠ k := by
  have hn := nb_le x k hx
  unfold enc
  by_cases h : x < 240
  · rw [if_pos h]; simp [h]; omega
  · rw [if_neg h, List.length_cons, be_length]; simp only [h, false_or]; omega
theorem rnum_nil (w : World) (g h : Nat) (e m : Int) (r : RT w g h [] e) :
    Calls Try.prog 25 #[.pointer (some ⟨g, 0, none⟩), .int .i64 m] w (Rr w g h (.int .i64 0) [] (se e)) := by
  have HT : Hid (Calls _ _ _ _ _) := rtake_short' w g h [] e 1 (by simp) r
  have hs := (se_ne e).1
  generalize se e = ee at HT hs ⊢
  clear r
  go_enter Try.func25, Try.ntmps25
  go_wp2_with fail
  refine Calls.mono HT.out ?_
  rintro x w1 ⟨rfl, h1, h2⟩
  have R1 : Hid (RT _ _ _ _ _) := h1
  have K1 : Hid (KB _ _ _) := h2
  obtain ⟨p1, c1, z1, b1, _, _, _, _, _, _⟩ := h1
  clear h2 z1
  go_wp2
  go_ret
  exact ⟨rfl, R1.out, K1.out⟩
set_option maxRecDepth 100000 in
theorem rnum_one (w : World) (g h : Nat) (m : Int) (b : UInt8) (t : List UInt8) (hb : b.toNat < 240) (hm : ¬ m < (b.toNat : Int)) (r : RT w g h (b :: t) 0) : Calls Try.prog 25 #[.pointer (some ⟨g, 0, none⟩), .int .i64 m] w (Rr w g h (.int .i64 (b.toNat : Int)) t 0) := by
  have HT : Hid (Calls _ _ _ _ _) := rfirst w g h b t r
  have hbu : (b.toNat : Int) ≤ 255 := by have := b.toNat_lt; omega
  clear r
  have d0 : decide ((247 : Int) < (b.toNat : Int)) = false := decide_eq_false (by omega)
  have d1 : decide ((240 : Int) ≤ (b.toNat : Int)) = false := decide_eq_false (by omega)
  go_enter Try.func25, Try.ntmps25
  go_wp2_with fail
  refine Calls.mono HT.out ?_
  rintro x w1 ⟨rfl, h1, h2⟩
  have R1 : Hid (RT _ _ _ _ _) := h1
  have K1 : Hid (KB _ _ _) := h2
  obtain ⟨p1, c1, z1, b1, _, _, _, _, _, _⟩ := h1
  clear h2 z1
  go_wp2
  go_ret
  exact ⟨rfl, R1.out, K1.out⟩
set_option maxRecDepth 100000 in
theorem rnum_oneLong (w : World) (g h : Nat) (m : Int) (b : UInt8) (t : List UInt8) (hb : b.toNat < 240) (hm : m < (b.toNat : Int)) (r : RT w g h (b :: t) 0) : Calls Try.prog 25 #[.pointer (some ⟨g, 0, none⟩), .int .i64 m] w (Rr w g h (.int .i64 0) [] 5) := by
  have HT : Hid (Calls _ _ _ _ _) := rfirst w g h b t r
  have hbu : (b.toNat : Int) ≤ 255 := by have := b.toNat_lt; omega
  clear r
  have d0 : decide ((247 : Int) < (b.toNat : Int)) = false := decide_eq_false (by omega)
  have d1 : decide ((240 : Int) ≤ (b.toNat : Int)) = false := decide_eq_false (by omega)
  go_enter Try.func25, Try.ntmps25
  go_wp2_with fail
  refine Calls.mono HT.out ?_
  rintro x w1 ⟨rfl, h1, h2⟩
  have R1 : Hid (RT _ _ _ _ _) := h1
  have K1 : Hid (KB _ _ _) := h2
  obtain ⟨p1, c1, z1, b1, _, _, _, _, _, _⟩ := h1
  clear h2 z1
  go_wp2_with fail
  refine (rfail_rt w1 g h t 0 5 R1.out).mono ?_
  rintro x w2 ⟨rfl, h1, h2⟩
  have R2 : Hid (RT w2 g h [] 5) := h1
  have K2 : Hid (KB _ _ _) := h2
  clear h1 h2
  go_wp2
  go_ret
  exact ⟨rfl, R2.out, K1.out.trans K2.out⟩
set_option maxRecDepth 100000 in
theorem rnum_bad (w : World) (g h : Nat) (m : Int) (b : UInt8) (t : List UInt8) (hb : 247 < b.toNat) (r : RT w g h (b :: t) 0) : Calls Try.prog 25 #[.pointer (some ⟨g, 0, none⟩), .int .i64 m] w (Rr w g h (.int .i64 0) [] 3) := by
  have HT : Hid (Calls _ _ _ _ _) := rfirst w g h b t r
  have hbu : (b.toNat : Int) ≤ 255 := by have := b.toNat_lt; omega
  clear r
  have d0 : decide ((247 : Int) < (b.toNat : Int)) = true := decide_eq_true (by omega)
  go_enter Try.func25, Try.ntmps25
  go_wp2_with fail
  refine Calls.mono HT.out ?_
  rintro x w1 ⟨rfl, h1, h2⟩
  have R1 : Hid (RT _ _ _ _ _) := h1
  have K1 : Hid (KB _ _ _) := h2
  obtain ⟨p1, c1, z1, b1, _, _, _, _, _, _⟩ := h1
  clear h2 z1
  go_wp2_with fail
  refine (rfail_rt w1 g h t 0 3 R1.out).mono ?_
  rintro x w2 ⟨rfl, h1, h2⟩
  have R2 : Hid (RT w2 g h [] 3) := h1
  have K2 : Hid (KB _ _ _) := h2
  clear h1 h2
  go_wp2
  go_ret
  exact ⟨rfl, R2.out, K1.out.trans K2.out⟩
set_option maxRecDepth 100000 in
theorem rnum_short (w : World) (g h : Nat) (m : Int) (b : UInt8) (t : List UInt8) (k : Nat) (hk : b.toNat = 239 + k) (hk1 : 1 ≤ k) (hk8 : k ≤ 8) (hn : t.length < k) (r : RT w g h (b :: t) 0) : Calls Try.prog 25 #[.pointer (some ⟨g, 0, none⟩), .int .i64 m] w (Rr w g h (.int .i64 0) [] 4) := by
  have HT : Hid (Calls _ _ _ _ _) := rfirst w g h b t r
  have hbu : (b.toNat : Int) ≤ 255 := by have := b.toNat_lt; omega
  clear r
  have d0 : decide ((247 : Int) < (b.toNat : Int)) = false := decide_eq_false (by omega)
  have d1 : decide ((240 : Int) ≤ (b.toNat : Int)) = true := decide_eq_true (by omega)
  have hkz : (b.toNat : Int) - 239 = (k : Int) := by omega
  clear hk
  go_enter Try.func25, Try.ntmps25
  go_wp2_with fail
  refine Calls.mono HT.out ?_
  rintro x w1 ⟨rfl, h1, h2⟩
  have R1 : Hid (RT _ _ _ _ _) := h1
  have K1 : Hid (KB _ _ _) := h2
  obtain ⟨p1, c1, z1, b1, _, _, _, _, _, _⟩ := h1
  clear h2 z1
  go_wp2_with fail
  refine (rtake_short' w1 g h t 0 k hn R1.out).mono ?_
  rintro x w2 ⟨rfl, h1, h2⟩
  have R2 : Hid (RT w2 g h [] 4) := h1
  have K2 : Hid (KB _ _ _) := h2
  obtain ⟨p2, c2, z2, b2, _, _, _, _, _, _⟩ := h1
  clear h2 z2
  have b2' : w2.cell? ⟨g, 1, none⟩ = some (.int .i64 4) := b2
  clear b2 b1
  go_wp2
  go_ret
  exact ⟨rfl, R2.out, K1.out.trans K2.out⟩
set_option maxRecDepth 100000 in
theorem rnum_over (w : World) (g h : Nat) (m : Int) (b : UInt8) (t : List UInt8) (k : Nat) (hk : b.toNat = 239 + k) (hk1 : 1 ≤ k) (hk8 : k ≤ 8) (hn : k ≤ t.length) (x : Nat) (hx : valB (t.take k) = x) (ho : 9223372036854775807 < x) (r : RT w g h (b :: t) 0) : Calls Try.prog 25 #[.pointer (some ⟨g, 0, none⟩), .int .i64 m] w (Rr w g h (.int .i64 0) [] 3) := by
  have HT : Hid (Calls _ _ _ _ _) := rfirst w g h b t r
  have hbu : (b.toNat : Int) ≤ 255 := by have := b.toNat_lt; omega
  clear r
  have d0 : decide ((247 : Int) < (b.toNat : Int)) = false := decide_eq_false (by omega)
  have d1 : decide ((240 : Int) ≤ (b.toNat : Int)) = true := decide_eq_true (by omega)
  have hkz : (b.toNat : Int) - 239 = (k : Int) := by omega
  clear hk
  have HX : Hid (valB (t.take k) = x) := hx
  clear hx
  have d2 : decide ((9223372036854775807 : Int) < (x : Int)) = true := decide_eq_true (by omega)
  clear ho
  go_enter Try.func25, Try.ntmps25
  go_wp2_with fail
  refine Calls.mono HT.out ?_
  rintro x w1 ⟨rfl, h1, h2⟩
  have R1 : Hid (RT _ _ _ _ _) := h1
  have K1 : Hid (KB _ _ _) := h2
  obtain ⟨p1, c1, z1, b1, _, _, _, _, _, _⟩ := h1
  clear h2 z1
  go_wp2_with fail
  refine (rtake_ok w1 g h t k hk1 hk8 hn R1.out).mono ?_
  rw [HX.out]
  rintro x w2 ⟨rfl, h1, h2⟩
  have R2 : Hid (RT w2 g h (t.drop k) 0) := h1
  have K2 : Hid (KB _ _ _) := h2
  obtain ⟨p2, c2, z2, b2, _, _, _, _, _, _⟩ := h1
  clear h2 z2
  clear b1
  go_wp2_with fail
  refine (rfail_rt w2 g h (t.drop k) 0 3 R2.out).mono ?_
  rintro x w3 ⟨rfl, h1, h2⟩
  have R3 : Hid (RT w3 g h [] 3) := h1
  have K3 : Hid (KB _ _ _) := h2
  clear h1 h2
  go_wp2
  go_ret
  exact ⟨rfl, R3.out, (K1.out.trans K2.out).trans K3.out⟩
set_option maxRecDepth 100000 in
theorem rnum_few (w : World) (g h : Nat) (m : Int) (b : UInt8) (t : List UInt8) (k : Nat) (hk : b.toNat = 239 + k) (hk1 : 1 ≤ k) (hk8 : k ≤ 8) (hn : k ≤ t.length) (x : Nat) (hx : valB (t.take k) = x) (ho : x ≤ 9223372036854775807) (hs : x < 240) (r : RT w g h (b :: t) 0) : Calls Try.prog 25 #[.pointer (some ⟨g, 0, none⟩), .int .i64 m] w (Rr w g h (.int .i64 0) [] 3) := by
  have HT : Hid (Calls _ _ _ _ _) := rfirst w g h b t r
  have hbu : (b.toNat : Int) ≤ 255 := by have := b.toNat_lt; omega
  clear r
  have d0 : decide ((247 : Int) < (b.toNat : Int)) = false := decide_eq_false (by omega)
  have d1 : decide ((240 : Int) ≤ (b.toNat : Int)) = true := decide_eq_true (by omega)
  have hkz : (b.toNat : Int) - 239 = (k : Int) := by omega
  clear hk
  have HX : Hid (valB (t.take k) = x) := hx
  clear hx
  have d2 : decide ((9223372036854775807 : Int) < (x : Int)) = false := decide_eq_false (by omega)
  have hw : IntKind.i64.wrap (x : Int) = (x : Int) := by rw [IntKind.wrap_i64]; omega
  have hw2 : wrap64 (x : Int) = (x : Int) := by unfold wrap64; omega
  have HO : Hid (x < 9223372036854775808) := by show x < 9223372036854775808; omega
  clear ho
  have d3 : decide ((x : Int) < 240) = true := decide_eq_true (by omega)
  clear hs
  go_enter Try.func25, Try.ntmps25
  go_wp2_with fail
  refine Calls.mono HT.out ?_
  rintro x w1 ⟨rfl, h1, h2⟩
  have R1 : Hid (RT _ _ _ _ _) := h1
  have K1 : Hid (KB _ _ _) := h2
  obtain ⟨p1, c1, z1, b1, _, _, _, _, _, _⟩ := h1
  clear h2 z1
  go_wp2_with fail
  refine (rtake_ok w1 g h t k hk1 hk8 hn R1.out).mono ?_
  rw [HX.out]
  rintro x w2 ⟨rfl, h1, h2⟩
  have R2 : Hid (RT w2 g h (t.drop k) 0) := h1
  have K2 : Hid (KB _ _ _) := h2
  obtain ⟨p2, c2, z2, b2, _, _, _, _, _, _⟩ := h1
  clear h2 z2
  clear b1
  go_wp2_with fail
  refine (rfail_rt w2 g h (t.drop k) 0 3 R2.out).mono ?_
  rintro x w3 ⟨rfl, h1, h2⟩
  have R3 : Hid (RT w3 g h [] 3) := h1
  have K3 : Hid (KB _ _ _) := h2
  clear h1 h2
  go_wp2
  go_ret
  exact ⟨rfl, R3.out, (K1.out.trans K2.out).trans K3.out⟩
set_option maxRecDepth 100000 in
theorem rnum_long (w : World) (g h : Nat) (m : Int) (b : UInt8) (t : List UInt8) (k : Nat) (hk : b.toNat = 239 + k) (hk1 : 1 ≤ k) (hk8 : k ≤ 8) (hn : k ≤ t.length) (x : Nat) (hx : valB (t.take k) = x) (ho : x ≤ 9223372036854775807) (hs : ¬ x < 240) (hb : nb x ≠ k) (r : RT w g h (b :: t) 0) : Calls Try.prog 25 #[.pointer (some ⟨g, 0, none⟩), .int .i64 m] w (Rr w g h (.int .i64 0) [] 3) := by
  have HT : Hid (Calls _ _ _ _ _) := rfirst w g h b t r
  have hbu : (b.toNat : Int) ≤ 255 := by have := b.toNat_lt; omega
  clear r
  have d0 : decide ((247 : Int) < (b.toNat : Int)) = false := decide_eq_false (by omega)
  have d1 : decide ((240 : Int) ≤ (b.toNat : Int)) = true := decide_eq_true (by omega)
  have hkz : (b.toNat : Int) - 239 = (k : Int) := by omega
  clear hk
  have HX : Hid (valB (t.take k) = x) := hx
  clear hx
  have d2 : decide ((9223372036854775807 : Int) < (x : Int)) = false := decide_eq_false (by omega)
  have hw : IntKind.i64.wrap (x : Int) = (x : Int) := by rw [IntKind.wrap_i64]; omega
  have hw2 : wrap64 (x : Int) = (x : Int) := by unfold wrap64; omega
  have HO : Hid (x < 9223372036854775808) := by show x < 9223372036854775808; omega
  clear ho
  have d3 : decide ((x : Int) < 240) = false := decide_eq_false (by omega)
  have d4 : (((nb x : Nat) : Int) != (k : Int)) = true := by rw [bne_iff_ne]; omega
  clear hs hb
  go_enter Try.func25, Try.ntmps25
  go_wp2_with fail
  refine Calls.mono HT.out ?_
  rintro x w1 ⟨rfl, h1, h2⟩
  have R1 : Hid (RT _ _ _ _ _) := h1
  have K1 : Hid (KB _ _ _) := h2
  obtain ⟨p1, c1, z1, b1, _, _, _, _, _, _⟩ := h1
  clear h2 z1
  go_wp2_with fail
  refine (rtake_ok w1 g h t k hk1 hk8 hn R1.out).mono ?_
  rw [HX.out]
  rintro x w2 ⟨rfl, h1, h2⟩
  have R2 : Hid (RT w2 g h (t.drop k) 0) := h1
  have K2 : Hid (KB _ _ _) := h2
  obtain ⟨p2, c2, z2, b2, _, _, _, _, _, _⟩ := h1
  clear h2 z2
  clear b1
  go_wp2_with fail
  refine (bytes_calls x w2 HO.out).mono ?_
  rintro y u ⟨rfl, hw1⟩
  have hw3 := hw1.symm
  subst hw3
  go_wp2_with fail
  refine (rfail_rt w2 g h (t.drop k) 0 3 R2.out).mono ?_
  rintro x w3 ⟨rfl, h1, h2⟩
  have R3 : Hid (RT w3 g h [] 3) := h1
  have K3 : Hid (KB _ _ _) := h2
  clear h1 h2
  go_wp2
  go_ret
  exact ⟨rfl, R3.out, (K1.out.trans K2.out).trans K3.out⟩
set_option maxRecDepth 100000 in
theorem rnum_much (w : World) (g h : Nat) (m : Int) (b : UInt8) (t : List UInt8) (k : Nat) (hk : b.toNat = 239 + k) (hk1 : 1 ≤ k) (hk8 : k ≤ 8) (hn : k ≤ t.length) (x : Nat) (hx : valB (t.take k) = x) (ho : x ≤ 9223372036854775807) (hs : ¬ x < 240) (hb : nb x = k) (hm : m < (x : Int)) (r : RT w g h (b :: t) 0) : Calls Try.prog 25 #[.pointer (some ⟨g, 0, none⟩), .int .i64 m] w (Rr w g h (.int .i64 0) [] 5) := by
  have HT : Hid (Calls _ _ _ _ _) := rfirst w g h b t r
  have hbu : (b.toNat : Int) ≤ 255 := by have := b.toNat_lt; omega
  clear r
  have d0 : decide ((247 : Int) < (b.toNat : Int)) = false := decide_eq_false (by omega)
  have d1 : decide ((240 : Int) ≤ (b.toNat : Int)) = true := decide_eq_true (by omega)
  have hkz : (b.toNat : Int) - 239 = (k : Int) := by omega
  clear hk
  have HX : Hid (valB (t.take k) = x) := hx
  clear hx
  have d2 : decide ((9223372036854775807 : Int) < (x : Int)) = false := decide_eq_false (by omega)
  have hw : IntKind.i64.wrap (x : Int) = (x : Int) := by rw [IntKind.wrap_i64]; omega
  have hw2 : wrap64 (x : Int) = (x : Int) := by unfold wrap64; omega
  have HO : Hid (x < 9223372036854775808) := by show x < 9223372036854775808; omega
  clear ho
  have d3 : decide ((x : Int) < 240) = false := decide_eq_false (by omega)
  have d4 : (((nb x : Nat) : Int) != (k : Int)) = false := by rw [hb]; simp
  clear hs hb
  go_enter Try.func25, Try.ntmps25
  go_wp2_with fail
  refine Calls.mono HT.out ?_
  rintro x w1 ⟨rfl, h1, h2⟩
  have R1 : Hid (RT _ _ _ _ _) := h1
  have K1 : Hid (KB _ _ _) := h2
  obtain ⟨p1, c1, z1, b1, _, _, _, _, _, _⟩ := h1
  clear h2 z1
  go_wp2_with fail
  refine (rtake_ok w1 g h t k hk1 hk8 hn R1.out).mono ?_
  rw [HX.out]
  rintro x w2 ⟨rfl, h1, h2⟩
  have R2 : Hid (RT w2 g h (t.drop k) 0) := h1
  have K2 : Hid (KB _ _ _) := h2
  obtain ⟨p2, c2, z2, b2, _, _, _, _, _, _⟩ := h1
  clear h2 z2
  clear b1
  go_wp2_with fail
  refine (bytes_calls x w2 HO.out).mono ?_
  rintro y u ⟨rfl, hw1⟩
  have hw3 := hw1.symm
  subst hw3
  go_wp2_with fail
  refine (rfail_rt w2 g h (t.drop k) 0 5 R2.out).mono ?_
  rintro x w3 ⟨rfl, h1, h2⟩
  have R3 : Hid (RT w3 g h [] 5) := h1
  have K3 : Hid (KB _ _ _) := h2
  clear h1 h2
  go_wp2
  go_ret
  exact ⟨rfl, R3.out, (K1.out.trans K2.out).trans K3.out⟩
set_option maxRecDepth 100000 in
theorem rnum_ok (w : World) (g h : Nat) (m : Int) (b : UInt8) (t : List UInt8) (k : Nat) (hk : b.toNat = 239 + k) (hk1 : 1 ≤ k) (hk8 : k ≤ 8) (hn : k ≤ t.length) (x : Nat) (hx : valB (t.take k) = x) (ho : x ≤ 9223372036854775807) (hs : ¬ x < 240) (hb : nb x = k) (hm : ¬ m < (x : Int)) (r : RT w g h (b :: t) 0) : Calls Try.prog 25 #[.pointer (some ⟨g, 0, none⟩), .int .i64 m] w (Rr w g h (.int .i64 (x : Int)) (t.drop k) 0) := by
  have HT : Hid (Calls _ _ _ _ _) := rfirst w g h b t r
  have hbu : (b.toNat : Int) ≤ 255 := by have := b.toNat_lt; omega
  clear r
  have d0 : decide ((247 : Int) < (b.toNat : Int)) = false := decide_eq_false (by omega)
  have d1 : decide ((240 : Int) ≤ (b.toNat : Int)) = true := decide_eq_true (by omega)
  have hkz : (b.toNat : Int) - 239 = (k : Int) := by omega
  clear hk
  have HX : Hid (valB (t.take k) = x) := hx
  clear hx
  have d2 : decide ((9223372036854775807 : Int) < (x : Int)) = false := decide_eq_false (by omega)
  have hw : IntKind.i64.wrap (x : Int) = (x : Int) := by rw [IntKind.wrap_i64]; omega
  have hw2 : wrap64 (x : Int) = (x : Int) := by unfold wrap64; omega
  have HO : Hid (x < 9223372036854775808) := by show x < 9223372036854775808; omega
  clear ho
  have d3 : decide ((x : Int) < 240) = false := decide_eq_false (by omega)
  have d4 : (((nb x : Nat) : Int) != (k : Int)) = false := by rw [hb]; simp
  clear hs hb
  go_enter Try.func25, Try.ntmps25
  go_wp2_with fail
  refine Calls.mono HT.out ?_
  rintro x w1 ⟨rfl, h1, h2⟩
  have R1 : Hid (RT _ _ _ _ _) := h1
  have K1 : Hid (KB _ _ _) := h2
  obtain ⟨p1, c1, z1, b1, _, _, _, _, _, _⟩ := h1
  clear h2 z1
  go_wp2_with fail
  refine (rtake_ok w1 g h t k hk1 hk8 hn R1.out).mono ?_
  rw [HX.out]
  rintro x w2 ⟨rfl, h1, h2⟩
  have R2 : Hid (RT w2 g h (t.drop k) 0) := h1
  have K2 : Hid (KB _ _ _) := h2
  obtain ⟨p2, c2, z2, b2, _, _, _, _, _, _⟩ := h1
  clear h2 z2
  clear b1
  go_wp2_with fail
  refine (bytes_calls x w2 HO.out).mono ?_
  rintro y u ⟨rfl, hw1⟩
  have hw3 := hw1.symm
  subst hw3
  go_wp2
  go_ret
  exact ⟨rfl, R2.out, K1.out.trans K2.out⟩
end Go.Proofs.Ytimiklekajelfaa
