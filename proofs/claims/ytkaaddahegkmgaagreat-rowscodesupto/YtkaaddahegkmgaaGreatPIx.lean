/- The contracts of pack's reader, in whatever state: Num, Int, Bits, Text, Flag. -/
import Derived.Test.YtkaaddahegkmgaaGreatPN
namespace Go.Proofs.YtkaaddahegkmgaaGreat
open Go.ChangeShapes Go.WideShapes Go.ChangeAt Go.RowKit
theorem number_st (w : World) (g h c : Nat) (p : Option Addr) (l : List UInt8) (r : Rd w g h p c l) : Calls Tryz.prog 71 #[.pointer (some ⟨g, 0, none⟩)] w (Rs w g h (.int .i64 ((sNumber l).1 : Int)) (sNumber l).2.1 (sNumber l).2.2) := by
  cases l with
  | nil => exact number_nil w g h c p r
  | cons b t =>
    unfold sNumber
    dsimp only
    by_cases h1 : b.toNat < 240
    · rw [if_pos h1]
      exact number_one w g h c p b t h1 r
    · rw [if_neg h1]
      have hk : b.toNat = 239 + (b.toNat - 239) := by omega
      by_cases h2 : 247 < b.toNat
      · rw [if_pos h2]
        exact number_bad w g h c p b t _ hk (by omega) r
      · rw [if_neg h2]
        by_cases h3 : t.length < b.toNat - 239
        · rw [if_pos h3]
          exact number_short w g h c p b t _ hk (by omega) (by omega) h3 r
        · rw [if_neg h3]
          by_cases h4 : 9223372036854775807 < valB (t.take (b.toNat - 239))
          · rw [if_pos (.inl h4)]
            exact number_over w g h c p b t _ hk (by omega) (by omega) (by omega) _ rfl h4 r
          · by_cases h5 : (enc (valB (t.take (b.toNat - 239)))).length ≤ b.toNat - 239
            · rw [if_pos (.inr h5)]
              exact number_long w g h c p b t _ hk (by omega) (by omega) (by omega) _ rfl (by omega) h5 r
            · rw [if_neg (by intro h; rcases h with h | h; · exact h4 h
                             · exact h5 h)]
              have h4' : valB (t.take (b.toNat - 239)) ≤ 9223372036854775807 := Nat.le_of_not_lt h4
              have h5' : b.toNat - 239 < (enc (valB (t.take (b.toNat - 239)))).length := Nat.lt_of_not_le h5
              have q1 : 1 ≤ b.toNat - 239 := by omega
              have q2 : b.toNat - 239 ≤ 8 := by omega
              have q3 : b.toNat - 239 ≤ t.length := by omega
              generalize b.toNat - 239 = k at hk h3 h4 h5 h4' h5' q1 q2 q3 ⊢
              clear h1 h2 h3 h4 h5
              obtain ⟨X, hX⟩ : ∃ X, valB (t.take k) = X := ⟨_, rfl⟩
              rw [hX] at h4' h5' ⊢
              dsimp only
              exact number_ok w g h c p b t k hk q1 q2 q3 X hX h4' h5' r
theorem sNumber_dead (l : List UInt8) (h : (sNumber l).2.2 ≠ 0) : (sNumber l).1 = 0 ∧ (sNumber l).2.1 = [] := by
  revert h
  unfold sNumber
  cases l with
  | nil => intro _; exact ⟨rfl, rfl⟩
  | cons b t =>
    dsimp only
    by_cases h1 : b.toNat < 240
    · rw [if_pos h1]; intro h; exact absurd rfl h
    · rw [if_neg h1]
      by_cases h2 : 247 < b.toNat
      · rw [if_pos h2]; intro _; exact ⟨rfl, rfl⟩
      · rw [if_neg h2]
        by_cases h3 : t.length < b.toNat - 239
        · rw [if_pos h3]; intro _; exact ⟨rfl, rfl⟩
        · rw [if_neg h3]
          by_cases h4 : 9223372036854775807 < valB (t.take (b.toNat - 239)) ∨ (enc (valB (t.take (b.toNat - 239)))).length ≤ b.toNat - 239
          · rw [if_pos h4]; intro _; exact ⟨rfl, rfl⟩
          · rw [if_neg h4]; intro h; exact absurd rfl h
/-- What Num reads. -/
def sNum (m : Int) (l : List UInt8) (e : Int) : Int × List UInt8 × Int :=
  if e = 0 then (if (sNumber l).2.2 = 0 then (if m < ((sNumber l).1 : Int) then (0, [], 5) else (((sNumber l).1 : Int), (sNumber l).2.1, 0)) else (0, [], (sNumber l).2.2)) else (0, l, e)
theorem num_live (w : World) (g h c : Nat) (p : Option Addr) (l : List UInt8) (m : Int) (r : Rd w g h p c l) :
    Calls Tryz.prog 40 #[.pointer (some ⟨g, 0, none⟩), .int .i64 m] w (Rs w g h (.int .i64 (sNum m l 0).1) (sNum m l 0).2.1 (sNum m l 0).2.2) := by
  have NS := number_st w g h c p l r
  clear r
  by_cases h0 : (sNumber l).2.2 = 0
  · by_cases hm : m < ((sNumber l).1 : Int)
    · have hk : sNum m l 0 = (0, [], 5) := by unfold sNum; rw [if_pos rfl, if_pos h0, if_pos hm]
      rw [hk]
      rw [h0] at NS
      have HN : Hid (Calls _ _ _ _ _) := NS
      generalize (sNumber l).1 = n at hm HN
      generalize (sNumber l).2.1 = l2 at HN
      clear NS h0 hk
      go_enter Tryz.func40, Tryz.ntmps40
      go_wp2_with fail
      refine Calls.mono HN.out ?_
      rintro e w1 ⟨rfl, h1, h2⟩
      obtain ⟨p1, c1, r1⟩ := st_live h1
      have R1 : Hid (Rd w1 g h p1 c1 l2) := r1
      have H2 : Hid (KB g w w1) := h2
      clear h1 h2 r1
      go_wp2_with fail
      refine (fail_live w1 g h c1 p1 l2 5 rfl R1.out).mono ?_
      rintro e w2 ⟨rfl, h1, h2⟩
      have H4 : Hid (St _ _ _ _ _) := h1
      have H5 : Hid (KB _ _ _) := h2
      clear h1 h2
      go_wp2
      go_ret
      exact ⟨rfl, H4.out, H2.out.trans H5.out⟩
    · have hk : sNum m l 0 = (((sNumber l).1 : Int), (sNumber l).2.1, 0) := by unfold sNum; rw [if_pos rfl, if_pos h0, if_neg hm]
      rw [hk]
      rw [h0] at NS
      have HN : Hid (Calls _ _ _ _ _) := NS
      dsimp only
      generalize (sNumber l).1 = n at hm HN
      generalize (sNumber l).2.1 = l2 at HN
      clear NS h0 hk
      go_enter Tryz.func40, Tryz.ntmps40
      go_wp2_with fail
      refine Calls.mono HN.out ?_
      rintro e w1 ⟨rfl, h1, h2⟩
      have H1 : Hid (St _ _ _ _ _) := h1
      have H2 : Hid (KB g w w1) := h2
      clear h1 h2
      go_wp2
      go_ret
      exact ⟨rfl, H1.out, H2.out⟩
  · have hd := sNumber_dead l h0
    have hk : sNum m l 0 = (0, [], (sNumber l).2.2) := by unfold sNum; rw [if_pos rfl, if_neg h0]
    rw [hk]
    rw [hd.1, hd.2] at NS
    have HN : Hid (Calls _ _ _ _ _) := NS
    dsimp only
    have he : ((sNumber l).2.2 != 0) = true := by simpa using h0
    generalize (sNumber l).2.2 = ee at he HN
    clear NS h0 hk hd
    have HE : Hid ((ee != 0) = true) := he
    by_cases hm : m < 0
    · clear he
      go_enter Tryz.func40, Tryz.ntmps40
      go_wp2_with fail
      refine Calls.mono HN.out ?_
      rintro e w1 ⟨rfl, h1, h2⟩
      have H1 : Hid (St w1 g h [] ee) := h1
      have H2 : Hid (KB g w w1) := h2
      clear h1 h2
      go_wp2_with fail
      refine (fail_dead _ ee w1 (err_st H1.out) HE.out 5).mono ?_
      rintro e w2 ⟨rfl, hw1⟩
      have hw2 := hw1.symm
      subst hw2
      go_wp2
      go_ret
      exact ⟨rfl, H1.out, H2.out⟩
    · clear he
      go_enter Tryz.func40, Tryz.ntmps40
      go_wp2_with fail
      refine Calls.mono HN.out ?_
      rintro e w1 ⟨rfl, h1, h2⟩
      have H1 : Hid (St w1 g h [] ee) := h1
      have H2 : Hid (KB g w w1) := h2
      clear h1 h2
      go_wp2
      go_ret
      exact ⟨rfl, H1.out, H2.out⟩
theorem num_st (w : World) (g h : Nat) (l : List UInt8) (e m : Int) (r : St w g h l e) :
    Calls Tryz.prog 40 #[.pointer (some ⟨g, 0, none⟩), .int .i64 m] w (Rs w g h (.int .i64 (sNum m l e).1) (sNum m l e).2.1 (sNum m l e).2.2) := by
  rcases Classical.em (e = 0) with h0 | h0
  · subst h0
    obtain ⟨p, c, r⟩ := st_live r
    exact num_live w g h c p l m r
  · have hk : sNum m l e = (0, l, e) := by unfold sNum; rw [if_neg h0]
    rw [hk]
    refine (num_dead _ e w (err_st r) (by simpa using h0) m).mono ?_
    rintro x w1 ⟨rfl, rfl⟩
    exact ⟨rfl, r, KB.refl _ _⟩
end Go.Proofs.YtkaaddahegkmgaaGreat
