/- The contracts of the reference's reader: Num in whatever state, Text, Open. -/
import Derived.Test.YtimiklekajelfaaPG
namespace Go.Proofs.Ytimiklekajelfaa
open Go.ChangeShapes Go.WideShapes Go.ChangeAt Go.RowKit
theorem sNum_nil (m e : Int) : sNum m [] e = (0, [], se e) := by
  unfold sNum se
  by_cases h : e = 0
  · rw [if_pos h, if_pos h]; rfl
  · rw [if_neg h, if_neg h]
theorem sNum_of (m : Int) (l t : List UInt8) (n : Nat) (h : sNumber l = (n, t, 0)) : sNum m l 0 = if m < (n : Int) then (0, [], 5) else ((n : Int), t, 0) := by
  unfold sNum
  rw [if_pos rfl, h]
  dsimp only
  rw [if_pos rfl]
theorem sNum_errR (m : Int) (l : List UInt8) (x : Int) (hx : x ≠ 0) (h : sNumber l = (0, [], x)) : sNum m l 0 = (0, [], x) := by
  unfold sNum
  rw [if_pos rfl, h]
  dsimp only
  rw [if_neg hx]
theorem rnum_rt (w : World) (g h : Nat) (l : List UInt8) (e m : Int) (r : RT w g h l e) :
    Calls Try.prog 25 #[.pointer (some ⟨g, 0, none⟩), .int .i64 m] w (Rr w g h (.int .i64 (sNum m l e).1) (sNum m l e).2.1 (sNum m l e).2.2) := by
  cases l with
  | nil =>
    rw [sNum_nil]
    exact rnum_nil w g h e m r
  | cons b t =>
    obtain rfl : e = 0 := rt_live r (by simp)
    by_cases h1 : b.toNat < 240
    · have hs : sNumber (b :: t) = (b.toNat, t, 0) := by unfold sNumber; dsimp only; rw [if_pos h1]
      rw [sNum_of m _ _ _ hs]
      by_cases hm : m < (b.toNat : Int)
      · rw [if_pos hm]; exact rnum_oneLong w g h m b t h1 hm r
      · rw [if_neg hm]; exact rnum_one w g h m b t h1 hm r
    · by_cases h2 : 247 < b.toNat
      · have hs : sNumber (b :: t) = (0, [], 3) := by unfold sNumber; dsimp only; rw [if_neg h1, if_pos h2]
        rw [sNum_errR m _ 3 (by decide) hs]
        exact rnum_bad w g h m b t h2 r
      · obtain ⟨k, hk⟩ : ∃ k, b.toNat = 239 + k := ⟨b.toNat - 239, by omega⟩
        have hk' : b.toNat - 239 = k := by omega
        have k1 : 1 ≤ k := by omega
        have k8 : k ≤ 8 := by omega
        by_cases h3 : t.length < k
        · have hs : sNumber (b :: t) = (0, [], 4) := by unfold sNumber; dsimp only; rw [if_neg h1, if_neg h2, hk', if_pos h3]
          rw [sNum_errR m _ 4 (by decide) hs]
          exact rnum_short w g h m b t k hk k1 k8 h3 r
        · have hn : k ≤ t.length := Nat.le_of_not_lt h3
          obtain ⟨x, hx⟩ : ∃ x, valB (t.take k) = x := ⟨_, rfl⟩
          have hxl : x < 256 ^ k := by
            have := valB_lt (t.take k)
            rw [hx, List.length_take, Nat.min_eq_left hn] at this
            exact this
          have hl := long_iff x k k1 hxl
          by_cases h4 : 9223372036854775807 < x
          · have hs : sNumber (b :: t) = (0, [], 3) := by unfold sNumber; dsimp only; rw [if_neg h1, if_neg h2, hk', if_neg h3, hx, if_pos (.inl h4)]
            rw [sNum_errR m _ 3 (by decide) hs]
            exact rnum_over w g h m b t k hk k1 k8 hn x hx h4 r
          · have h4' : x ≤ 9223372036854775807 := Nat.le_of_not_lt h4
            by_cases h5 : (enc x).length ≤ k
            · have hs : sNumber (b :: t) = (0, [], 3) := by unfold sNumber; dsimp only; rw [if_neg h1, if_neg h2, hk', if_neg h3, hx, if_pos (.inr h5)]
              rw [sNum_errR m _ 3 (by decide) hs]
              by_cases h6 : x < 240
              · exact rnum_few w g h m b t k hk k1 k8 hn x hx h4' h6 r
              · have h7 : nb x ≠ k := by
                  rcases hl.1 h5 with h | h
                  · exact absurd h h6
                  · exact h
                exact rnum_long w g h m b t k hk k1 k8 hn x hx h4' h6 h7 r
            · have h6 : ¬ x < 240 := fun h => h5 (hl.2 (.inl h))
              have h7 : nb x = k := Classical.byContradiction fun h => h5 (hl.2 (.inr h))
              have hs : sNumber (b :: t) = (x, t.drop k, 0) := by
                unfold sNumber
                dsimp only
                rw [if_neg h1, if_neg h2, hk', if_neg h3, hx, if_neg]
                intro h
                rcases h with h | h
                · exact h4 h
                · exact h5 h
              rw [sNum_of m _ _ _ hs]
              by_cases hm : m < (x : Int)
              · rw [if_pos hm]; exact rnum_much w g h m b t k hk k1 k8 hn x hx h4' h6 h7 hm r
              · rw [if_neg hm]; exact rnum_ok w g h m b t k hk k1 k8 hn x hx h4' h6 h7 hm r
theorem rtext_rt (w : World) (g h : Nat) (l : List UInt8) (e m : Int) (r : RT w g h l e) :
    Calls Try.prog 26 #[.pointer (some ⟨g, 0, none⟩), .int .i64 m] w (Rr w g h (.string (str (sText m l e).1)) (sText m l e).2.1 (sText m l e).2.2) := by
  have NC := rnum_rt w g h l e m r
  have n0 := sNum_nat m l e
  unfold sText
  generalize (sNum m l e).1 = n at NC n0 ⊢
  generalize (sNum m l e).2.1 = l1 at NC ⊢
  generalize (sNum m l e).2.2 = e1 at NC ⊢
  obtain ⟨k, rfl⟩ := Int.eq_ofNat_of_zero_le n0
  rw [Int.toNat_natCast]
  have HN : Hid (Calls _ _ _ _ _) := NC
  clear NC n0 r
  rcases Classical.em (e1 = 0) with h0 | h0
  · subst h0
    rw [if_pos rfl]
    by_cases hk : l1.length < k
    · rw [if_pos hk]
      dsimp only
      have hkz : (l1.length : Int) < (k : Int) := by omega
      go_enter Try.func26, Try.ntmps26
      go_wp2_with fail
      refine Calls.mono HN.out ?_
      rintro x w1 ⟨rfl, h1, h2⟩
      have R1 : Hid (RT w1 g h l1 0) := h1
      have K1 : Hid (KB g w w1) := h2
      obtain ⟨p1, c1, z1, b1, _, _, _, _, _, _⟩ := h1
      clear h2
      go_wp2_with fail
      refine (rfail_rt w1 g h l1 0 4 R1.out).mono ?_
      rintro x w2 ⟨rfl, h1, h2⟩
      have R2 : Hid (RT w2 g h [] 4) := h1
      have K2 : Hid (KB _ _ _) := h2
      obtain ⟨p2, c2, z2, b2, _, _, _, _, _, _⟩ := R2.out
      clear h1 h2 z1 b1
      go_wp2
      go_ret
      exact ⟨rfl, R2.out, K1.out.trans K2.out⟩
    · rw [if_neg hk]
      dsimp only
      have hkz : ¬ (l1.length : Int) < (k : Int) := by omega
      go_enter Try.func26, Try.ntmps26
      go_wp2_with fail
      refine Calls.mono HN.out ?_
      rintro x w1 ⟨rfl, h1, h2⟩
      have K1 : Hid (KB g w w1) := h2
      obtain ⟨p1, c1, z1, b1, f0, f1, hl, hg, hb, he⟩ := h1
      have s1 := slice_from p1 l1.length c1 k (by omega)
      have s2 := slice_head p1 l1.length c1 k (by omega)
      have hlen : (l1.take k).length = k := by rw [List.length_take]; omega
      have hh : HBk w1 h (headA p1 c1) (l1.take k) := by
        intro hne
        obtain ⟨o, ho, hc⟩ := hb.take k hne
        have hk0 : k ≠ 0 := by intro e; subst e; simp at hne
        refine ⟨o, ?_, hc⟩
        unfold headA at ho ⊢
        rw [if_neg hk0] at ho
        rw [if_neg (by omega)]
        exact ho
      have hcv := conv_string w1 (headA p1 c1) c1 (l1.take k) (hh.holds c1)
      rw [hlen, str_nums] at hcv
      have HR : Hid (RT (w1.setCell ⟨g, 0, none⟩ (.slice (offA p1 c1 k) (l1.length - k) (c1 - k))) g h (l1.drop k) 0 ∧ KB g w1 (w1.setCell ⟨g, 0, none⟩ (.slice (offA p1 c1 k) (l1.length - k) (c1 - k)))) := by
        have hkb := KB.setCell g w1 0 (.slice (offA p1 c1 k) (l1.length - k) (c1 - k))
        refine ⟨⟨offA p1 c1 k, c1 - k, ?_, ?_, ?_, ?_, by rw [List.length_drop]; omega, hg, (hb.drop hl k).kb hkb hg, fun h => absurd rfl h⟩, hkb⟩
        · rw [World.cell?_setCell_same _ _ _ z1, List.length_drop]
        · rw [cell_other _ g 0 1 _ (by decide)]; exact b1
        · rw [World.frozen?_setCell]; exact f0
        · rw [World.frozen?_setCell]; exact f1
      clear h2 hb hh hlen he
      go_wp2
      go_ret
      exact ⟨rfl, HR.out.1, K1.out.trans HR.out.2⟩
  · rw [if_neg h0]
    dsimp only
    have he1 : (e1 == 0) = false := by simpa using h0
    have he2 : (e1 != 0) = true := by simpa using h0
    clear h0
    go_enter Try.func26, Try.ntmps26
    go_wp2_with fail
    refine Calls.mono HN.out ?_
    rintro x w1 ⟨rfl, h1, h2⟩
    have R1 : Hid (RT w1 g h l1 e1) := h1
    have K1 : Hid (KB g w w1) := h2
    obtain ⟨p1, c1, z1, b1, _, _, _, _, _, _⟩ := h1
    clear h2
    go_wp2
    go_ret
    exact ⟨rfl, R1.out, K1.out⟩
theorem copied_all (v : Value) (l : List UInt8) (w : World) (hv : Lib.HoldsBytes w v l) (hl : l.length ≤ 140737488355328) :
    Calls Try.prog 47 #[v] w fun e w' => ∃ v', e = .returned v' ∧ Own w.heap.size w' v' l ∧ Below w.heap.size w w' := by
  obtain ⟨p, cap, rfl, h1, h2⟩ := hv
  obtain ⟨i0, hi, hz0, hz1, hz2⟩ := info_parts Try.info5
  cases p with
  | none =>
    have hn : l = [] := h1 rfl
    subst hn
    clear h1 h2 hl
    go_enter Try.func47, Try.ntmps47
    go_wp2
    go_ret
    exact ⟨_, rfl, World.ownsRow_nil _ _ _ _, Below.refl _ _⟩
  | some a =>
    have HC : Hid (∀ (i : Nat) x, l[i]? = some x → w.cell? (a.add i) = some (.int .u8 (x.toNat : Int))) := h2 a rfl
    clear h1 h2
    go_enter Try.func47, Try.ntmps47
    go_wp2_with (at_builtin; refine wpList_append_own _ rfl _ _ 23 rfl w.heap.size 5 i0 (.int .u8 0) 1 1 Try.underlying23 hi hz0 hz1 hz2 rfl (by decide) _ _ _ rfl (World.ownsRow_nil _ _ _ _) a l.length cap (bval l) rfl ?qc1 ?qc2 ?qc3 ?qc4 ?qc5 ?qc6 ?_)
    case qc1 => simp [bval]
    case qc2 =>
      intro j u hj
      unfold bval at hj
      rw [List.getElem?_map] at hj
      obtain ⟨x, hx, rfl⟩ := Option.map_eq_some_iff.1 hj
      exact HC.out j x hx
    case qc3 => intro u hu; obtain ⟨x, _, rfl⟩ := List.mem_map.1 hu; rfl
    case qc4 => unfold maxLen; omega
    case qc5 => omega
    case qc6 => exact Nat.le_refl _
    intro v' w1 hown hgrow hnil
    go_wp2
    go_ret
    refine ⟨v', rfl, by simpa [Own] using hown, ?_⟩
    exact (Below.refl _ w).grown hgrow (Nat.le_refl _) (by intro k hk; simp [Value.ownBlock] at hk)
theorem ropen_world (w w1 : World) (v1 : Value) (l : List UInt8) (ho : Own w.heap.size w1 v1 l) (hs : w.heap.size ≤ w1.heap.size) :
    ∃ p c h, v1 = .slice p l.length c ∧ w.heap.size ≤ h ∧ RT (w1.alloc (.cells #[.slice p l.length c, .int .i64 0] 64)) w1.heap.size h l 0 := by
  have hb := below_alloc w1
  have h0 : w1.ownsRow w.heap.size 5 1 v1 l.length (bval l) := ho
  have mk : ∀ p c h, l.length ≤ c → h ≠ w1.heap.size → HBk (w1.alloc (.cells #[.slice p l.length c, .int .i64 0] 64)) h p l → RT (w1.alloc (.cells #[.slice p l.length c, .int .i64 0] 64)) w1.heap.size h l 0 := by
    intro p c h hlc hne hk
    refine ⟨p, c, ?_, ?_, ?_, ?_, hlc, hne, hk, fun h => absurd rfl h⟩
    all_goals simp
  rcases h0.2 with ⟨rfl, hn⟩ | ⟨g, cap, cur, rfl, hg, hheap, hle, _⟩
  · have hl : l = [] := List.eq_nil_of_length_eq_zero hn
    subst hl
    exact ⟨none, 0, w1.heap.size + 1, rfl, by omega, mk none 0 _ (Nat.le_refl _) (by omega) (HBk.nil _ _ _)⟩
  · have hlt : g < w1.heap.size := by
      rcases Nat.lt_or_ge g w1.heap.size with h | h
      · exact h
      · rw [Array.getElem?_eq_none h] at hheap
        cases hheap
    refine ⟨some ⟨g, 0, none⟩, cap, g, rfl, hg, mk _ _ _ hle (by omega) ?_⟩
    intro _
    refine ⟨0, rfl, ?_⟩
    intro i x hx
    have hi : i < l.length := (List.getElem?_eq_some_iff.1 hx).1
    have hc := h0.cellAt i (by omega)
    rw [Nat.zero_add]
    refine Lib.Below.cellOf (hb _) ?_ (Nat.le_refl _)
    rw [hc]
    simp [bval, hx]
/-- Open: a reader of the bytes as they are now. -/
theorem ropen_calls (v : Value) (l : List UInt8) (w : World) (hv : Lib.HoldsBytes w v l) (hl : l.length ≤ 140737488351232) :
    Calls Try.prog 24 #[v] w fun e w' => ∃ g h, e = .returned (.pointer (some ⟨g, 0, none⟩)) ∧ w.heap.size ≤ g ∧ w.heap.size ≤ h ∧ RT w' g h l 0 ∧ Below w.heap.size w w' := by
  have HV : Hid (Lib.HoldsBytes w v l) := hv
  have HL : Hid (l.length ≤ 140737488355328) := by show l.length ≤ 140737488355328; omega
  obtain ⟨p, cap, rfl, q1, q2⟩ := hv
  clear q1 q2 hl
  go_enter Try.func24, Try.ntmps24
  go_wp2_with fail
  refine (copied_all _ _ _ HV.out HL.out).mono ?_
  rintro e w1 ⟨v1, rfl, ho, hb⟩
  obtain ⟨p1, c1, h, rfl, k1, k2⟩ := ropen_world w w1 v1 l ho hb.size
  have K1 : Hid (w.heap.size ≤ h) := k1
  have K2 : Hid (RT _ _ _ _ _) := k2
  have HB : Hid (Below w.heap.size w w1) := hb
  clear ho hb k1 k2
  go_wp2
  go_ret
  exact ⟨_, h, rfl, HB.out.size, K1.out, K2.out, HB.out.alloc HB.out.size _⟩
end Go.Proofs.Ytimiklekajelfaa
