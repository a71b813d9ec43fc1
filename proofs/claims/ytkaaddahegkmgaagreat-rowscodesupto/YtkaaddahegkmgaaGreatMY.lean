/- PY, PZ, PG, PF, TQ, put together. -/
import Derived.Test.YtkaaddahegkmgaaGreatPH
import Derived.Test.YtkaaddahegkmgaaGreatPS
import Derived.Test.YtkaaddahegkmgaaGreatSF
import Derived.Test.YtkaaddahegkmgaaGreatRE
import Derived.Deep.RegionLaw
namespace Go.Proofs.YtkaaddahegkmgaaGreat
open Go.ChangeShapes Go.WideShapes Go.ChangeAt Go.RowKit
/-- The reference's reader at block g: what is left, in block h, and its error. -/
def RD (w : World) (g h : Nat) (p : Option Addr) (c : Nat) (l : List UInt8) (e : Int) : Prop :=
  w.cell? ⟨g, 0, none⟩ = some (.slice p l.length c) ∧ w.cell? ⟨g, 1, none⟩ = some (.int .i64 e) ∧ w.frozen? ⟨g, 0, none⟩ = false ∧ w.frozen? ⟨g, 1, none⟩ = false ∧ l.length ≤ c ∧ h ≠ g ∧ HBk w h p l ∧ (e ≠ 0 → l = [])
def RT (w : World) (g h : Nat) (l : List UInt8) (e : Int) : Prop := ∃ p c, RD w g h p c l e
theorem RD.kb {w w' : World} {g h g' c : Nat} {p : Option Addr} {l : List UInt8} {e : Int} (r : RD w g h p c l e) (k : KB g' w w') (h1 : g ≠ g') (h2 : h ≠ g') : RD w' g h p c l e := by
  obtain ⟨a0, a1, f0, f1, hl, hg, hb, he⟩ := r
  have hlt := World.block_lt_of_cell? w _ a0
  exact ⟨k.cell a0 h1, k.cell a1 h1, (k.frozen (a := ⟨g, 0, none⟩) hlt h1).trans f0, (k.frozen (a := ⟨g, 1, none⟩) hlt h1).trans f1, hl, hg, hb.kb k h2, he⟩
theorem RT.kb {w w' : World} {g h g' : Nat} {l : List UInt8} {e : Int} (r : RT w g h l e) (k : KB g' w w') (h1 : g ≠ g') (h2 : h ≠ g') : RT w' g h l e := by
  obtain ⟨p, c, r⟩ := r
  exact ⟨p, c, r.kb k h1 h2⟩
/-- What a call of the reference's reader at g leaves. -/
def Rr (w : World) (g h : Nat) (v : Value) (l : List UInt8) (e : Int) (x : Ending) (w' : World) : Prop := x = .returned v ∧ RT w' g h l e ∧ KB g w w'
theorem rerr_rt (w : World) (g h : Nat) (l : List UInt8) (e : Int) (r : RT w g h l e) :
    Calls Tryz.prog 22 #[.pointer (some ⟨g, 0, none⟩)] w fun x w' => x = .returned (.int .i64 e) ∧ w' = w := by
  obtain ⟨p, c, a0, a1, f0, f1, hl, hg, hb, he⟩ := r
  clear hb he
  go_enter Tryz.func22, Tryz.ntmps22
  go_wp2
  go_ret
  exact ⟨rfl, rfl⟩
theorem rend_rt (w : World) (g h : Nat) (l : List UInt8) (e : Int) (r : RT w g h l e) :
    Calls Tryz.prog 24 #[.pointer (some ⟨g, 0, none⟩)] w fun x w' => x = .returned (.int .i64 (en l e)) ∧ w' = w := by
  obtain ⟨p, c, a0, a1, f0, f1, hl, hg, hb, he⟩ := r
  clear hb he
  rcases Classical.em (e = 0) with h0 | h0
  · subst h0
    by_cases hz : l.length = 0
    · have hk : en l 0 = 0 := by simp [en, hz]
      rw [hk]
      rw [hz] at a0
      go_enter Tryz.func24, Tryz.ntmps24
      go_wp2
      go_ret
      exact ⟨rfl, rfl⟩
    · have hk : en l 0 = 3 := by simp [en]; intro h; subst h; simp at hz
      rw [hk]
      have hp : (0 : Int) < (l.length : Int) := by omega
      go_enter Tryz.func24, Tryz.ntmps24
      go_wp2
      go_ret
      exact ⟨rfl, rfl⟩
  · have he2 : (e == 0) = false := by simpa using h0
    have hk : en l e = e := by simp [en, he2]
    rw [hk]
    clear hk h0
    go_enter Tryz.func24, Tryz.ntmps24
    go_wp2
    go_ret
    exact ⟨rfl, rfl⟩
theorem rfail_rt (w : World) (g h : Nat) (l : List UInt8) (e f : Int) (r : RT w g h l e) :
    Calls Tryz.prog 53 #[.pointer (some ⟨g, 0, none⟩), .int .i64 f] w (Rr w g h (.tuple #[]) (if e == 0 && f != 0 then [] else l) (if e == 0 then f else e)) := by
  obtain ⟨p, c, r⟩ := r
  have R := r
  obtain ⟨a0, a1, f0, f1, hl, hg, hb, he⟩ := r
  rcases Classical.em (e = 0) with h0 | h0
  · subst h0
    rcases Classical.em (f = 0) with hf | hf
    · subst hf
      have HR : Hid (RD w g h p c l 0) := R
      clear hb he R
      show Calls Tryz.prog 53 #[.pointer (some ⟨g, 0, none⟩), .int .i64 0] w (Rr w g h (.tuple #[]) l 0)
      go_enter Tryz.func53, Tryz.ntmps53
      go_wp2
      first | go_end0 | refine bodyPost_ret (results_none rfl _ _ _) rfl ?_
      exact ⟨rfl, ⟨_, _, HR.out⟩, KB.refl _ _⟩
    · have hfb : (f != 0) = true := by simpa using hf
      have HR : Hid (RT ((w.setCell ⟨g, 1, none⟩ (.int .i64 f)).setCell ⟨g, 0, none⟩ (.slice none 0 0)) g h [] f ∧ KB g w ((w.setCell ⟨g, 1, none⟩ (.int .i64 f)).setCell ⟨g, 0, none⟩ (.slice none 0 0))) := by
        refine ⟨⟨none, 0, ?_, ?_, ?_, ?_, Nat.le_refl _, hg, HBk.nil _ _ _, fun _ => rfl⟩, (KB.setCell g w 1 _).trans (KB.setCell g _ 0 _)⟩
        · exact World.cell?_setCell_same _ _ _ ((cell_other w g 1 0 _ (by decide)).trans a0)
        · rw [cell_other _ g 0 1 _ (by decide)]
          exact World.cell?_setCell_same _ _ _ a1
        · rw [World.frozen?_setCell, World.frozen?_setCell]; exact f0
        · rw [World.frozen?_setCell, World.frozen?_setCell]; exact f1
      have e1 : (if ((0 : Int) == 0 && f != 0) = true then ([] : List UInt8) else l) = [] := by rw [hfb]; rfl
      rw [e1]
      show Calls Tryz.prog 53 #[.pointer (some ⟨g, 0, none⟩), .int .i64 f] w (Rr w g h (.tuple #[]) [] f)
      clear hb he R hf e1
      go_enter Tryz.func53, Tryz.ntmps53
      go_wp2
      first | go_end0 | refine bodyPost_ret (results_none rfl _ _ _) rfl ?_
      exact ⟨rfl, HR.out⟩
  · have hl0 : l = [] := he h0
    subst hl0
    have he2 : (e == 0) = false := by simpa using h0
    have he3 : (e != 0) = true := by simpa using h0
    have HR : Hid (RT (w.setCell ⟨g, 0, none⟩ (.slice none 0 0)) g h [] e ∧ KB g w (w.setCell ⟨g, 0, none⟩ (.slice none 0 0))) := by
      refine ⟨⟨none, 0, ?_, ?_, ?_, ?_, Nat.le_refl _, hg, HBk.nil _ _ _, fun _ => rfl⟩, KB.setCell g w 0 _⟩
      · exact World.cell?_setCell_same _ _ _ a0
      · rw [cell_other _ g 0 1 _ (by decide)]; exact a1
      · rw [World.frozen?_setCell]; exact f0
      · rw [World.frozen?_setCell]; exact f1
    have e1 : (if (e == 0 && f != 0) = true then ([] : List UInt8) else []) = [] := by split <;> rfl
    have e2 : (if (e == 0) = true then f else e) = e := by rw [he2]; rfl
    rw [e1, e2]
    clear hb he R e1 e2 h0
    go_enter Tryz.func53, Tryz.ntmps53
    go_wp2
    first | go_end0 | refine bodyPost_ret (results_none rfl _ _ _) rfl ?_
    exact ⟨rfl, HR.out⟩
end Go.Proofs.YtkaaddahegkmgaaGreat
namespace Go.Proofs.YtkaaddahegkmgaaGreat
open Go.ChangeShapes Go.WideShapes Go.ChangeAt Go.RowKit
theorem rtake_short (w : World) (g h : Nat) (l : List UInt8) (e : Int) (k : Nat) (hk : l.length < k) (r : RT w g h l e) :
    Calls Tryz.prog 52 #[.pointer (some ⟨g, 0, none⟩), .int .i64 (k : Int)] w (Rr w g h (.int .u64 0) [] (if e = 0 then 4 else e)) := by
  have FL := rfail_rt w g h l e 4 r
  have e1 : (if (e == 0 && (4 : Int) != 0) = true then ([] : List UInt8) else l) = [] := by
    rcases Classical.em (e = 0) with h0 | h0
    · subst h0; rfl
    · obtain ⟨p, c, _, _, _, _, _, _, _, he⟩ := r
      rw [he h0]; split <;> rfl
  have e2 : (if (e == 0) = true then (4 : Int) else e) = if e = 0 then 4 else e := by
    rcases Classical.em (e = 0) with h0 | h0
    · subst h0; rfl
    · rw [if_neg (by simpa using h0), if_neg h0]
  rw [e1, e2] at FL
  generalize (if e = 0 then 4 else e) = ee at FL ⊢
  have HF : Hid (Calls _ _ _ _ _) := FL
  obtain ⟨p, c, a0, a1, f0, f1, hl, hg, hb, he⟩ := r
  clear FL e1 e2 hb he
  have hkz : (l.length : Int) < (k : Int) := by omega
  go_enter Tryz.func52, Tryz.ntmps52
  go_wp2_with fail
  refine Calls.mono HF.out ?_
  rintro x w1 ⟨rfl, h1, h2⟩
  have H1 : Hid (RT _ _ _ _ _) := h1
  have H2 : Hid (KB _ _ _) := h2
  clear h1 h2 a0 a1 f0 f1
  go_wp2
  go_ret
  exact ⟨rfl, H1.out, H2.out⟩
theorem rtake_ok (w : World) (g h : Nat) (l : List UInt8) (k : Nat) (hk1 : 1 ≤ k) (hk8 : k ≤ 8) (hk : k ≤ l.length) (r : RT w g h l 0) :
    Calls Tryz.prog 52 #[.pointer (some ⟨g, 0, none⟩), .int .i64 (k : Int)] w (Rr w g h (.int .u64 ((valB (l.take k) : Nat) : Int)) (l.drop k) 0) := by
  obtain ⟨p, c, a0, a1, f0, f1, hl, hg, hb, he⟩ := r
  have hlne : l ≠ [] := by intro e; subst e; simp at hk; omega
  obtain ⟨o, rfl, hc⟩ := hb hlne
  have HC : Hid (∀ (i : Nat) x, l[i]? = some x → w.cell? ⟨h, o + i, none⟩ = some (.int .u8 (x.toNat : Int))) := hc
  have HR : Hid (RT (w.setCell ⟨g, 0, none⟩ (.slice (offA (some ⟨h, o, none⟩) c k) (l.length - k) (c - k))) g h (l.drop k) 0 ∧ KB g w (w.setCell ⟨g, 0, none⟩ (.slice (offA (some ⟨h, o, none⟩) c k) (l.length - k) (c - k)))) := by
    have hkb := KB.setCell g w 0 (.slice (offA (some ⟨h, o, none⟩) c k) (l.length - k) (c - k))
    refine ⟨⟨offA (some ⟨h, o, none⟩) c k, c - k, ?_, ?_, ?_, ?_, by rw [List.length_drop]; omega, hg, (hb.drop hl k).kb hkb hg, fun h => absurd rfl h⟩, hkb⟩
    · rw [World.cell?_setCell_same _ _ _ a0, List.length_drop]
    · rw [cell_other _ g 0 1 _ (by decide)]; exact a1
    · rw [World.frozen?_setCell]; exact f0
    · rw [World.frozen?_setCell]; exact f1
  have s1 := slice_from (some ⟨h, o, none⟩) l.length c k hk
  have hkz : ¬ ((l.length : Int) < (k : Int)) := by omega
  obtain ⟨L, hL⟩ : ∃ L, L = l.drop k := ⟨_, rfl⟩
  rw [← hL] at HR ⊢
  obtain ⟨V, hV⟩ : ∃ V, V = valB (l.take k) := ⟨_, rfl⟩
  have HVV : Hid (V = valB (l.take k)) := hV
  rw [← hV]
  clear hb he hc hlne hL hV
  go_enter Tryz.func52, Tryz.ntmps52
  go_wp2
  go_loop [5, 6] (fun x i => ∃ j X : Nat, j ≤ k ∧ i = .int .i64 j ∧ x = .int .u64 (X : Int) ∧ Hid (X = valB (l.take j))) (fun _ i => k - (intOf i).toNat)
  case atStart => exact ⟨0, 0, Nat.zero_le _, rfl, rfl, rfl⟩
  case round =>
    obtain ⟨j, X, hj, rfl, rfl, HXX⟩ := hrel
    by_cases hjk : j < k
    · have hjl : j < l.length := by omega
      have hx : l[j]? = some l[j] := List.getElem?_eq_getElem hjl
      generalize l[j] = b at hx
      have hcell := HC.out j b hx
      have HS : Hid (valB (l.take (j + 1)) = X * 256 + b.toNat) := by
        show _ = _
        rw [valB_take _ _ _ hx, HXX.out]
      have hXb : (X : Int) ≤ 72057594037927935 := by
        have h1 := valB_lt (l.take j)
        rw [← HXX.out, List.length_take] at h1
        have h2 : (256 : Nat) ^ min j l.length ≤ 256 ^ 7 := Nat.pow_le_pow_right (by decide) (by omega)
        have h3 : (256 : Nat) ^ 7 = 72057594037927936 := by decide +kernel
        omega
      have hbb : (b.toNat : Int) ≤ 255 := by have := b.toNat_lt; omega
      have hjz : (j : Int) < (l.length : Int) := by omega
      clear hx
      go_wp2
      go_round
      case rel => exact ⟨j + 1, X * 256 + b.toNat, by omega, by go_num, by go_num, HS.out.symm⟩
      case measure => simp [intOf]; omega
    · obtain rfl : j = k := by omega
      have hXV : X = V := by rw [HXX.out, HVV.out]
      subst hXV
      go_wp2
      go_ret
      exact ⟨rfl, HR.out⟩
/-- The error behind bytes that end too early. -/
def se (e : Int) : Int := if e = 0 then 4 else e
theorem se_ne (e : Int) : (se e != 0) = true ∧ (se e == 0) = false := by
  unfold se
  by_cases h : e = 0
  · rw [if_pos h]; exact ⟨rfl, rfl⟩
  · rw [if_neg h]; simp [h]
theorem rt_live {w : World} {g h : Nat} {l : List UInt8} {e : Int} (r : RT w g h l e) (hl : l ≠ []) : e = 0 := by
  obtain ⟨p, c, _, _, _, _, _, _, _, he⟩ := r
  rcases Classical.em (e = 0) with h0 | h0
  · exact h0
  · exact absurd (he h0) hl
theorem rtake_short' (w : World) (g h : Nat) (l : List UInt8) (e : Int) (k : Nat) (hk : l.length < k) (r : RT w g h l e) :
    Calls Tryz.prog 52 #[.pointer (some ⟨g, 0, none⟩), .int .i64 (k : Int)] w (Rr w g h (.int .u64 0) [] (se e)) := rtake_short w g h l e k hk r
theorem sInt_short (l : List UInt8) (e : Int) (h : l.length < 8) (hd : e ≠ 0 → l = []) : sInt l e = (0, [], se e) := by
  unfold sInt se
  rcases Classical.em (e = 0) with h0 | h0
  · rw [if_pos h0, if_pos h, if_pos h0]
  · rw [if_neg h0, if_neg h0, hd h0]
theorem sBits_short (l : List UInt8) (e : Int) (h : l.length < 8) (hd : e ≠ 0 → l = []) : sBits l e = (0, [], se e) := by
  unfold sBits se
  rcases Classical.em (e = 0) with h0 | h0
  · rw [if_pos h0, if_pos h, if_pos h0]
  · rw [if_neg h0, if_neg h0, hd h0]
theorem rt_nil {w : World} {g h : Nat} {l : List UInt8} {e : Int} (r : RT w g h l e) : e ≠ 0 → l = [] := by
  obtain ⟨p, c, _, _, _, _, _, _, _, he⟩ := r
  exact he
theorem sFlag_nil (e : Int) : sFlag [] e = (false, [], se e) := by
  unfold sFlag se
  by_cases h : e = 0
  · rw [if_pos h, if_pos h]
  · rw [if_neg h, if_neg h]
theorem rfirst (w : World) (g h : Nat) (b : UInt8) (t : List UInt8) (r : RT w g h (b :: t) 0) :
    Calls Tryz.prog 52 #[.pointer (some ⟨g, 0, none⟩), .int .i64 1] w (Rr w g h (.int .u64 (b.toNat : Int)) t 0) := by
  have h1 := rtake_ok w g h (b :: t) 1 (by omega) (by omega) (by simp) r
  have e : valB ((b :: t).take 1) = b.toNat := by simp [valB]
  rw [e] at h1
  simpa using h1
end Go.Proofs.YtkaaddahegkmgaaGreat
namespace Go.Proofs.YtkaaddahegkmgaaGreat
open Go.ChangeShapes Go.WideShapes Go.ChangeAt Go.RowKit
theorem nb_le (x k : Nat) (h : x < 256 ^ k) : nb x ≤ k := by
  rcases Classical.em (x = 0) with h0 | h0
  · subst h0; have : nb 0 = 0 := by decide
    omega
  · have h1 := nb_ge x h0
    rcases Nat.lt_or_ge k (nb x) with h2 | h2
    · have h3 : (2 : Nat) ^ (8 * k) ≤ 2 ^ (8 * (nb x - 1)) := Nat.pow_le_pow_right (by decide) (by omega)
      rw [← pow_256] at h3
      omega
    · exact h2
/-- The two tests of a number that could have been written in fewer bytes are one. -/
theorem long_iff (x k : Nat) (hk : 1 ≤ k) (hx : x < 256 ^ k) : (enc x).length ≤ k ↔ x < 240 ∨ nb x ≠ k := by
  have hn := nb_le x k hx
  unfold enc
  by_cases h : x < 240
  · rw [if_pos h]; simp [h]; omega
  · rw [if_neg h, List.length_cons, be_length]; simp only [h, false_or]; omega
theorem rnum_nil (w : World) (g h : Nat) (e m : Int) (r : RT w g h [] e) :
    Calls Tryz.prog 21 #[.pointer (some ⟨g, 0, none⟩), .int .i64 m] w (Rr w g h (.int .i64 0) [] (se e)) := by
  have HT : Hid (Calls _ _ _ _ _) := rtake_short' w g h [] e 1 (by simp) r
  have hs := (se_ne e).1
  generalize se e = ee at HT hs ⊢
  clear r
  go_enter Tryz.func21, Tryz.ntmps21
  go_wp2_with fail
  refine Calls.mono HT.out ?_
  rintro x w1 ⟨rfl, h1, h2⟩
  have R1 : Hid (RT _ _ _ _ _) := h1
  have K1 : Hid (KB _ _ _) := h2
  obtain ⟨p1, c1, z1, b1, _, _, _, _, _, _⟩ := h1
  clear h2 z1
  go_wp2
  go_ret
  exact ⟨rfl, R1.out, K1.out⟩
set_option maxRecDepth 100000 in
theorem rnum_one (w : World) (g h : Nat) (m : Int) (b : UInt8) (t : List UInt8) (hb : b.toNat < 240) (hm : ¬ m < (b.toNat : Int)) (r : RT w g h (b :: t) 0) : Calls Tryz.prog 21 #[.pointer (some ⟨g, 0, none⟩), .int .i64 m] w (Rr w g h (.int .i64 (b.toNat : Int)) t 0) := by
  have HT : Hid (Calls _ _ _ _ _) := rfirst w g h b t r
  have hbu : (b.toNat : Int) ≤ 255 := by have := b.toNat_lt; omega
  clear r
  have d0 : decide ((247 : Int) < (b.toNat : Int)) = false := decide_eq_false (by omega)
  have d1 : decide ((240 : Int) ≤ (b.toNat : Int)) = false := decide_eq_false (by omega)
  go_enter Tryz.func21, Tryz.ntmps21
  go_wp2_with fail
  refine Calls.mono HT.out ?_
  rintro x w1 ⟨rfl, h1, h2⟩
  have R1 : Hid (RT _ _ _ _ _) := h1
  have K1 : Hid (KB _ _ _) := h2
  obtain ⟨p1, c1, z1, b1, _, _, _, _, _, _⟩ := h1
  clear h2 z1
  go_wp2
  go_ret
  exact ⟨rfl, R1.out, K1.out⟩
set_option maxRecDepth 100000 in
theorem rnum_oneLong (w : World) (g h : Nat) (m : Int) (b : UInt8) (t : List UInt8) (hb : b.toNat < 240) (hm : m < (b.toNat : Int)) (r : RT w g h (b :: t) 0) : Calls Tryz.prog 21 #[.pointer (some ⟨g, 0, none⟩), .int .i64 m] w (Rr w g h (.int .i64 0) [] 5) := by
  have HT : Hid (Calls _ _ _ _ _) := rfirst w g h b t r
  have hbu : (b.toNat : Int) ≤ 255 := by have := b.toNat_lt; omega
  clear r
  have d0 : decide ((247 : Int) < (b.toNat : Int)) = false := decide_eq_false (by omega)
  have d1 : decide ((240 : Int) ≤ (b.toNat : Int)) = false := decide_eq_false (by omega)
  go_enter Tryz.func21, Tryz.ntmps21
  go_wp2_with fail
  refine Calls.mono HT.out ?_
  rintro x w1 ⟨rfl, h1, h2⟩
  have R1 : Hid (RT _ _ _ _ _) := h1
  have K1 : Hid (KB _ _ _) := h2
  obtain ⟨p1, c1, z1, b1, _, _, _, _, _, _⟩ := h1
  clear h2 z1
  go_wp2_with fail
  refine (rfail_rt w1 g h t 0 5 R1.out).mono ?_
  rintro x w2 ⟨rfl, h1, h2⟩
  have R2 : Hid (RT w2 g h [] 5) := h1
  have K2 : Hid (KB _ _ _) := h2
  clear h1 h2
  go_wp2
  go_ret
  exact ⟨rfl, R2.out, K1.out.trans K2.out⟩
set_option maxRecDepth 100000 in
theorem rnum_bad (w : World) (g h : Nat) (m : Int) (b : UInt8) (t : List UInt8) (hb : 247 < b.toNat) (r : RT w g h (b :: t) 0) : Calls Tryz.prog 21 #[.pointer (some ⟨g, 0, none⟩), .int .i64 m] w (Rr w g h (.int .i64 0) [] 3) := by
  have HT : Hid (Calls _ _ _ _ _) := rfirst w g h b t r
  have hbu : (b.toNat : Int) ≤ 255 := by have := b.toNat_lt; omega
  clear r
  have d0 : decide ((247 : Int) < (b.toNat : Int)) = true := decide_eq_true (by omega)
  go_enter Tryz.func21, Tryz.ntmps21
  go_wp2_with fail
  refine Calls.mono HT.out ?_
  rintro x w1 ⟨rfl, h1, h2⟩
  have R1 : Hid (RT _ _ _ _ _) := h1
  have K1 : Hid (KB _ _ _) := h2
  obtain ⟨p1, c1, z1, b1, _, _, _, _, _, _⟩ := h1
  clear h2 z1
  go_wp2_with fail
  refine (rfail_rt w1 g h t 0 3 R1.out).mono ?_
  rintro x w2 ⟨rfl, h1, h2⟩
  have R2 : Hid (RT w2 g h [] 3) := h1
  have K2 : Hid (KB _ _ _) := h2
  clear h1 h2
  go_wp2
  go_ret
  exact ⟨rfl, R2.out, K1.out.trans K2.out⟩
set_option maxRecDepth 100000 in
theorem rnum_short (w : World) (g h : Nat) (m : Int) (b : UInt8) (t : List UInt8) (k : Nat) (hk : b.toNat = 239 + k) (hk1 : 1 ≤ k) (hk8 : k ≤ 8) (hn : t.length < k) (r : RT w g h (b :: t) 0) : Calls Tryz.prog 21 #[.pointer (some ⟨g, 0, none⟩), .int .i64 m] w (Rr w g h (.int .i64 0) [] 4) := by
  have HT : Hid (Calls _ _ _ _ _) := rfirst w g h b t r
  have hbu : (b.toNat : Int) ≤ 255 := by have := b.toNat_lt; omega
  clear r
  have d0 : decide ((247 : Int) < (b.toNat : Int)) = false := decide_eq_false (by omega)
  have d1 : decide ((240 : Int) ≤ (b.toNat : Int)) = true := decide_eq_true (by omega)
  have hkz : (b.toNat : Int) - 239 = (k : Int) := by omega
  clear hk
  go_enter Tryz.func21, Tryz.ntmps21
  go_wp2_with fail
  refine Calls.mono HT.out ?_
  rintro x w1 ⟨rfl, h1, h2⟩
  have R1 : Hid (RT _ _ _ _ _) := h1
  have K1 : Hid (KB _ _ _) := h2
  obtain ⟨p1, c1, z1, b1, _, _, _, _, _, _⟩ := h1
  clear h2 z1
  go_wp2_with fail
  refine (rtake_short' w1 g h t 0 k hn R1.out).mono ?_
  rintro x w2 ⟨rfl, h1, h2⟩
  have R2 : Hid (RT w2 g h [] 4) := h1
  have K2 : Hid (KB _ _ _) := h2
  obtain ⟨p2, c2, z2, b2, _, _, _, _, _, _⟩ := h1
  clear h2 z2
  have b2' : w2.cell? ⟨g, 1, none⟩ = some (.int .i64 4) := b2
  clear b2 b1
  go_wp2
  go_ret
  exact ⟨rfl, R2.out, K1.out.trans K2.out⟩
set_option maxRecDepth 100000 in
theorem rnum_over (w : World) (g h : Nat) (m : Int) (b : UInt8) (t : List UInt8) (k : Nat) (hk : b.toNat = 239 + k) (hk1 : 1 ≤ k) (hk8 : k ≤ 8) (hn : k ≤ t.length) (x : Nat) (hx : valB (t.take k) = x) (ho : 9223372036854775807 < x) (r : RT w g h (b :: t) 0) : Calls Tryz.prog 21 #[.pointer (some ⟨g, 0, none⟩), .int .i64 m] w (Rr w g h (.int .i64 0) [] 3) := by
  have HT : Hid (Calls _ _ _ _ _) := rfirst w g h b t r
  have hbu : (b.toNat : Int) ≤ 255 := by have := b.toNat_lt; omega
  clear r
  have d0 : decide ((247 : Int) < (b.toNat : Int)) = false := decide_eq_false (by omega)
  have d1 : decide ((240 : Int) ≤ (b.toNat : Int)) = true := decide_eq_true (by omega)
  have hkz : (b.toNat : Int) - 239 = (k : Int) := by omega
  clear hk
  have HX : Hid (valB (t.take k) = x) := hx
  clear hx
  have d2 : decide ((9223372036854775807 : Int) < (x : Int)) = true := decide_eq_true (by omega)
  clear ho
  go_enter Tryz.func21, Tryz.ntmps21
  go_wp2_with fail
  refine Calls.mono HT.out ?_
  rintro x w1 ⟨rfl, h1, h2⟩
  have R1 : Hid (RT _ _ _ _ _) := h1
  have K1 : Hid (KB _ _ _) := h2
  obtain ⟨p1, c1, z1, b1, _, _, _, _, _, _⟩ := h1
  clear h2 z1
  go_wp2_with fail
  refine (rtake_ok w1 g h t k hk1 hk8 hn R1.out).mono ?_
  rw [HX.out]
  rintro x w2 ⟨rfl, h1, h2⟩
  have R2 : Hid (RT w2 g h (t.drop k) 0) := h1
  have K2 : Hid (KB _ _ _) := h2
  obtain ⟨p2, c2, z2, b2, _, _, _, _, _, _⟩ := h1
  clear h2 z2
  clear b1
  go_wp2_with fail
  refine (rfail_rt w2 g h (t.drop k) 0 3 R2.out).mono ?_
  rintro x w3 ⟨rfl, h1, h2⟩
  have R3 : Hid (RT w3 g h [] 3) := h1
  have K3 : Hid (KB _ _ _) := h2
  clear h1 h2
  go_wp2
  go_ret
  exact ⟨rfl, R3.out, (K1.out.trans K2.out).trans K3.out⟩
set_option maxRecDepth 100000 in
theorem rnum_few (w : World) (g h : Nat) (m : Int) (b : UInt8) (t : List UInt8) (k : Nat) (hk : b.toNat = 239 + k) (hk1 : 1 ≤ k) (hk8 : k ≤ 8) (hn : k ≤ t.length) (x : Nat) (hx : valB (t.take k) = x) (ho : x ≤ 9223372036854775807) (hs : x < 240) (r : RT w g h (b :: t) 0) : Calls Tryz.prog 21 #[.pointer (some ⟨g, 0, none⟩), .int .i64 m] w (Rr w g h (.int .i64 0) [] 3) := by
  have HT : Hid (Calls _ _ _ _ _) := rfirst w g h b t r
  have hbu : (b.toNat : Int) ≤ 255 := by have := b.toNat_lt; omega
  clear r
  have d0 : decide ((247 : Int) < (b.toNat : Int)) = false := decide_eq_false (by omega)
  have d1 : decide ((240 : Int) ≤ (b.toNat : Int)) = true := decide_eq_true (by omega)
  have hkz : (b.toNat : Int) - 239 = (k : Int) := by omega
  clear hk
  have HX : Hid (valB (t.take k) = x) := hx
  clear hx
  have d2 : decide ((9223372036854775807 : Int) < (x : Int)) = false := decide_eq_false (by omega)
  have hw : IntKind.i64.wrap (x : Int) = (x : Int) := by rw [IntKind.wrap_i64]; omega
  have hw2 : wrap64 (x : Int) = (x : Int) := by unfold wrap64; omega
  have HO : Hid (x < 9223372036854775808) := by show x < 9223372036854775808; omega
  clear ho
  have d3 : decide ((x : Int) < 240) = true := decide_eq_true (by omega)
  clear hs
  go_enter Tryz.func21, Tryz.ntmps21
  go_wp2_with fail
  refine Calls.mono HT.out ?_
  rintro x w1 ⟨rfl, h1, h2⟩
  have R1 : Hid (RT _ _ _ _ _) := h1
  have K1 : Hid (KB _ _ _) := h2
  obtain ⟨p1, c1, z1, b1, _, _, _, _, _, _⟩ := h1
  clear h2 z1
  go_wp2_with fail
  refine (rtake_ok w1 g h t k hk1 hk8 hn R1.out).mono ?_
  rw [HX.out]
  rintro x w2 ⟨rfl, h1, h2⟩
  have R2 : Hid (RT w2 g h (t.drop k) 0) := h1
  have K2 : Hid (KB _ _ _) := h2
  obtain ⟨p2, c2, z2, b2, _, _, _, _, _, _⟩ := h1
  clear h2 z2
  clear b1
  go_wp2_with fail
  refine (rfail_rt w2 g h (t.drop k) 0 3 R2.out).mono ?_
  rintro x w3 ⟨rfl, h1, h2⟩
  have R3 : Hid (RT w3 g h [] 3) := h1
  have K3 : Hid (KB _ _ _) := h2
  clear h1 h2
  go_wp2
  go_ret
  exact ⟨rfl, R3.out, (K1.out.trans K2.out).trans K3.out⟩
set_option maxRecDepth 100000 in
theorem rnum_long (w : World) (g h : Nat) (m : Int) (b : UInt8) (t : List UInt8) (k : Nat) (hk : b.toNat = 239 + k) (hk1 : 1 ≤ k) (hk8 : k ≤ 8) (hn : k ≤ t.length) (x : Nat) (hx : valB (t.take k) = x) (ho : x ≤ 9223372036854775807) (hs : ¬ x < 240) (hb : nb x ≠ k) (r : RT w g h (b :: t) 0) : Calls Tryz.prog 21 #[.pointer (some ⟨g, 0, none⟩), .int .i64 m] w (Rr w g h (.int .i64 0) [] 3) := by
  have HT : Hid (Calls _ _ _ _ _) := rfirst w g h b t r
  have hbu : (b.toNat : Int) ≤ 255 := by have := b.toNat_lt; omega
  clear r
  have d0 : decide ((247 : Int) < (b.toNat : Int)) = false := decide_eq_false (by omega)
  have d1 : decide ((240 : Int) ≤ (b.toNat : Int)) = true := decide_eq_true (by omega)
  have hkz : (b.toNat : Int) - 239 = (k : Int) := by omega
  clear hk
  have HX : Hid (valB (t.take k) = x) := hx
  clear hx
  have d2 : decide ((9223372036854775807 : Int) < (x : Int)) = false := decide_eq_false (by omega)
  have hw : IntKind.i64.wrap (x : Int) = (x : Int) := by rw [IntKind.wrap_i64]; omega
  have hw2 : wrap64 (x : Int) = (x : Int) := by unfold wrap64; omega
  have HO : Hid (x < 9223372036854775808) := by show x < 9223372036854775808; omega
  clear ho
  have d3 : decide ((x : Int) < 240) = false := decide_eq_false (by omega)
  have d4 : (((nb x : Nat) : Int) != (k : Int)) = true := by rw [bne_iff_ne]; omega
  clear hs hb
  go_enter Tryz.func21, Tryz.ntmps21
  go_wp2_with fail
  refine Calls.mono HT.out ?_
  rintro x w1 ⟨rfl, h1, h2⟩
  have R1 : Hid (RT _ _ _ _ _) := h1
  have K1 : Hid (KB _ _ _) := h2
  obtain ⟨p1, c1, z1, b1, _, _, _, _, _, _⟩ := h1
  clear h2 z1
  go_wp2_with fail
  refine (rtake_ok w1 g h t k hk1 hk8 hn R1.out).mono ?_
  rw [HX.out]
  rintro x w2 ⟨rfl, h1, h2⟩
  have R2 : Hid (RT w2 g h (t.drop k) 0) := h1
  have K2 : Hid (KB _ _ _) := h2
  obtain ⟨p2, c2, z2, b2, _, _, _, _, _, _⟩ := h1
  clear h2 z2
  clear b1
  go_wp2_with fail
  refine (bytes_calls x w2 HO.out).mono ?_
  rintro y u ⟨rfl, hw1⟩
  have hw3 := hw1.symm
  subst hw3
  go_wp2_with fail
  refine (rfail_rt w2 g h (t.drop k) 0 3 R2.out).mono ?_
  rintro x w3 ⟨rfl, h1, h2⟩
  have R3 : Hid (RT w3 g h [] 3) := h1
  have K3 : Hid (KB _ _ _) := h2
  clear h1 h2
  go_wp2
  go_ret
  exact ⟨rfl, R3.out, (K1.out.trans K2.out).trans K3.out⟩
set_option maxRecDepth 100000 in
theorem rnum_much (w : World) (g h : Nat) (m : Int) (b : UInt8) (t : List UInt8) (k : Nat) (hk : b.toNat = 239 + k) (hk1 : 1 ≤ k) (hk8 : k ≤ 8) (hn : k ≤ t.length) (x : Nat) (hx : valB (t.take k) = x) (ho : x ≤ 9223372036854775807) (hs : ¬ x < 240) (hb : nb x = k) (hm : m < (x : Int)) (r : RT w g h (b :: t) 0) : Calls Tryz.prog 21 #[.pointer (some ⟨g, 0, none⟩), .int .i64 m] w (Rr w g h (.int .i64 0) [] 5) := by
  have HT : Hid (Calls _ _ _ _ _) := rfirst w g h b t r
  have hbu : (b.toNat : Int) ≤ 255 := by have := b.toNat_lt; omega
  clear r
  have d0 : decide ((247 : Int) < (b.toNat : Int)) = false := decide_eq_false (by omega)
  have d1 : decide ((240 : Int) ≤ (b.toNat : Int)) = true := decide_eq_true (by omega)
  have hkz : (b.toNat : Int) - 239 = (k : Int) := by omega
  clear hk
  have HX : Hid (valB (t.take k) = x) := hx
  clear hx
  have d2 : decide ((9223372036854775807 : Int) < (x : Int)) = false := decide_eq_false (by omega)
  have hw : IntKind.i64.wrap (x : Int) = (x : Int) := by rw [IntKind.wrap_i64]; omega
  have hw2 : wrap64 (x : Int) = (x : Int) := by unfold wrap64; omega
  have HO : Hid (x < 9223372036854775808) := by show x < 9223372036854775808; omega
  clear ho
  have d3 : decide ((x : Int) < 240) = false := decide_eq_false (by omega)
  have d4 : (((nb x : Nat) : Int) != (k : Int)) = false := by rw [hb]; simp
  clear hs hb
  go_enter Tryz.func21, Tryz.ntmps21
  go_wp2_with fail
  refine Calls.mono HT.out ?_
  rintro x w1 ⟨rfl, h1, h2⟩
  have R1 : Hid (RT _ _ _ _ _) := h1
  have K1 : Hid (KB _ _ _) := h2
  obtain ⟨p1, c1, z1, b1, _, _, _, _, _, _⟩ := h1
  clear h2 z1
  go_wp2_with fail
  refine (rtake_ok w1 g h t k hk1 hk8 hn R1.out).mono ?_
  rw [HX.out]
  rintro x w2 ⟨rfl, h1, h2⟩
  have R2 : Hid (RT w2 g h (t.drop k) 0) := h1
  have K2 : Hid (KB _ _ _) := h2
  obtain ⟨p2, c2, z2, b2, _, _, _, _, _, _⟩ := h1
  clear h2 z2
  clear b1
  go_wp2_with fail
  refine (bytes_calls x w2 HO.out).mono ?_
  rintro y u ⟨rfl, hw1⟩
  have hw3 := hw1.symm
  subst hw3
  go_wp2_with fail
  refine (rfail_rt w2 g h (t.drop k) 0 5 R2.out).mono ?_
  rintro x w3 ⟨rfl, h1, h2⟩
  have R3 : Hid (RT w3 g h [] 5) := h1
  have K3 : Hid (KB _ _ _) := h2
  clear h1 h2
  go_wp2
  go_ret
  exact ⟨rfl, R3.out, (K1.out.trans K2.out).trans K3.out⟩
set_option maxRecDepth 100000 in
theorem rnum_ok (w : World) (g h : Nat) (m : Int) (b : UInt8) (t : List UInt8) (k : Nat) (hk : b.toNat = 239 + k) (hk1 : 1 ≤ k) (hk8 : k ≤ 8) (hn : k ≤ t.length) (x : Nat) (hx : valB (t.take k) = x) (ho : x ≤ 9223372036854775807) (hs : ¬ x < 240) (hb : nb x = k) (hm : ¬ m < (x : Int)) (r : RT w g h (b :: t) 0) : Calls Tryz.prog 21 #[.pointer (some ⟨g, 0, none⟩), .int .i64 m] w (Rr w g h (.int .i64 (x : Int)) (t.drop k) 0) := by
  have HT : Hid (Calls _ _ _ _ _) := rfirst w g h b t r
  have hbu : (b.toNat : Int) ≤ 255 := by have := b.toNat_lt; omega
  clear r
  have d0 : decide ((247 : Int) < (b.toNat : Int)) = false := decide_eq_false (by omega)
  have d1 : decide ((240 : Int) ≤ (b.toNat : Int)) = true := decide_eq_true (by omega)
  have hkz : (b.toNat : Int) - 239 = (k : Int) := by omega
  clear hk
  have HX : Hid (valB (t.take k) = x) := hx
  clear hx
  have d2 : decide ((9223372036854775807 : Int) < (x : Int)) = false := decide_eq_false (by omega)
  have hw : IntKind.i64.wrap (x : Int) = (x : Int) := by rw [IntKind.wrap_i64]; omega
  have hw2 : wrap64 (x : Int) = (x : Int) := by unfold wrap64; omega
  have HO : Hid (x < 9223372036854775808) := by show x < 9223372036854775808; omega
  clear ho
  have d3 : decide ((x : Int) < 240) = false := decide_eq_false (by omega)
  have d4 : (((nb x : Nat) : Int) != (k : Int)) = false := by rw [hb]; simp
  clear hs hb
  go_enter Tryz.func21, Tryz.ntmps21
  go_wp2_with fail
  refine Calls.mono HT.out ?_
  rintro x w1 ⟨rfl, h1, h2⟩
  have R1 : Hid (RT _ _ _ _ _) := h1
  have K1 : Hid (KB _ _ _) := h2
  obtain ⟨p1, c1, z1, b1, _, _, _, _, _, _⟩ := h1
  clear h2 z1
  go_wp2_with fail
  refine (rtake_ok w1 g h t k hk1 hk8 hn R1.out).mono ?_
  rw [HX.out]
  rintro x w2 ⟨rfl, h1, h2⟩
  have R2 : Hid (RT w2 g h (t.drop k) 0) := h1
  have K2 : Hid (KB _ _ _) := h2
  obtain ⟨p2, c2, z2, b2, _, _, _, _, _, _⟩ := h1
  clear h2 z2
  clear b1
  go_wp2_with fail
  refine (bytes_calls x w2 HO.out).mono ?_
  rintro y u ⟨rfl, hw1⟩
  have hw3 := hw1.symm
  subst hw3
  go_wp2
  go_ret
  exact ⟨rfl, R2.out, K1.out.trans K2.out⟩
end Go.Proofs.YtkaaddahegkmgaaGreat
namespace Go.Proofs.YtkaaddahegkmgaaGreat
open Go.ChangeShapes Go.WideShapes Go.ChangeAt Go.RowKit
theorem sNum_nil (m e : Int) : sNum m [] e = (0, [], se e) := by
  unfold sNum se
  by_cases h : e = 0
  · rw [if_pos h, if_pos h]; rfl
  · rw [if_neg h, if_neg h]
theorem sNum_of (m : Int) (l t : List UInt8) (n : Nat) (h : sNumber l = (n, t, 0)) : sNum m l 0 = if m < (n : Int) then (0, [], 5) else ((n : Int), t, 0) := by
  unfold sNum
  rw [if_pos rfl, h]
  dsimp only
  rw [if_pos rfl]
theorem sNum_errR (m : Int) (l : List UInt8) (x : Int) (hx : x ≠ 0) (h : sNumber l = (0, [], x)) : sNum m l 0 = (0, [], x) := by
  unfold sNum
  rw [if_pos rfl, h]
  dsimp only
  rw [if_neg hx]
theorem rnum_rt (w : World) (g h : Nat) (l : List UInt8) (e m : Int) (r : RT w g h l e) :
    Calls Tryz.prog 21 #[.pointer (some ⟨g, 0, none⟩), .int .i64 m] w (Rr w g h (.int .i64 (sNum m l e).1) (sNum m l e).2.1 (sNum m l e).2.2) := by
  cases l with
  | nil =>
    rw [sNum_nil]
    exact rnum_nil w g h e m r
  | cons b t =>
    obtain rfl : e = 0 := rt_live r (by simp)
    by_cases h1 : b.toNat < 240
    · have hs : sNumber (b :: t) = (b.toNat, t, 0) := by unfold sNumber; dsimp only; rw [if_pos h1]
      rw [sNum_of m _ _ _ hs]
      by_cases hm : m < (b.toNat : Int)
      · rw [if_pos hm]; exact rnum_oneLong w g h m b t h1 hm r
      · rw [if_neg hm]; exact rnum_one w g h m b t h1 hm r
    · by_cases h2 : 247 < b.toNat
      · have hs : sNumber (b :: t) = (0, [], 3) := by unfold sNumber; dsimp only; rw [if_neg h1, if_pos h2]
        rw [sNum_errR m _ 3 (by decide) hs]
        exact rnum_bad w g h m b t h2 r
      · obtain ⟨k, hk⟩ : ∃ k, b.toNat = 239 + k := ⟨b.toNat - 239, by omega⟩
        have hk' : b.toNat - 239 = k := by omega
        have k1 : 1 ≤ k := by omega
        have k8 : k ≤ 8 := by omega
        by_cases h3 : t.length < k
        · have hs : sNumber (b :: t) = (0, [], 4) := by unfold sNumber; dsimp only; rw [if_neg h1, if_neg h2, hk', if_pos h3]
          rw [sNum_errR m _ 4 (by decide) hs]
          exact rnum_short w g h m b t k hk k1 k8 h3 r
        · have hn : k ≤ t.length := Nat.le_of_not_lt h3
          obtain ⟨x, hx⟩ : ∃ x, valB (t.take k) = x := ⟨_, rfl⟩
          have hxl : x < 256 ^ k := by
            have := valB_lt (t.take k)
            rw [hx, List.length_take, Nat.min_eq_left hn] at this
            exact this
          have hl := long_iff x k k1 hxl
          by_cases h4 : 9223372036854775807 < x
          · have hs : sNumber (b :: t) = (0, [], 3) := by unfold sNumber; dsimp only; rw [if_neg h1, if_neg h2, hk', if_neg h3, hx, if_pos (.inl h4)]
            rw [sNum_errR m _ 3 (by decide) hs]
            exact rnum_over w g h m b t k hk k1 k8 hn x hx h4 r
          · have h4' : x ≤ 9223372036854775807 := Nat.le_of_not_lt h4
            by_cases h5 : (enc x).length ≤ k
            · have hs : sNumber (b :: t) = (0, [], 3) := by unfold sNumber; dsimp only; rw [if_neg h1, if_neg h2, hk', if_neg h3, hx, if_pos (.inr h5)]
              rw [sNum_errR m _ 3 (by decide) hs]
              by_cases h6 : x < 240
              · exact rnum_few w g h m b t k hk k1 k8 hn x hx h4' h6 r
              · have h7 : nb x ≠ k := by
                  rcases hl.1 h5 with h | h
                  · exact absurd h h6
                  · exact h
                exact rnum_long w g h m b t k hk k1 k8 hn x hx h4' h6 h7 r
            · have h6 : ¬ x < 240 := fun h => h5 (hl.2 (.inl h))
              have h7 : nb x = k := Classical.byContradiction fun h => h5 (hl.2 (.inr h))
              have hs : sNumber (b :: t) = (x, t.drop k, 0) := by
                unfold sNumber
                dsimp only
                rw [if_neg h1, if_neg h2, hk', if_neg h3, hx, if_neg]
                intro h
                rcases h with h | h
                · exact h4 h
                · exact h5 h
              rw [sNum_of m _ _ _ hs]
              by_cases hm : m < (x : Int)
              · rw [if_pos hm]; exact rnum_much w g h m b t k hk k1 k8 hn x hx h4' h6 h7 hm r
              · rw [if_neg hm]; exact rnum_ok w g h m b t k hk k1 k8 hn x hx h4' h6 h7 hm r
theorem rtext_rt (w : World) (g h : Nat) (l : List UInt8) (e m : Int) (r : RT w g h l e) :
    Calls Tryz.prog 23 #[.pointer (some ⟨g, 0, none⟩), .int .i64 m] w (Rr w g h (.string (str (sText m l e).1)) (sText m l e).2.1 (sText m l e).2.2) := by
  have NC := rnum_rt w g h l e m r
  have n0 := sNum_nat m l e
  unfold sText
  generalize (sNum m l e).1 = n at NC n0 ⊢
  generalize (sNum m l e).2.1 = l1 at NC ⊢
  generalize (sNum m l e).2.2 = e1 at NC ⊢
  obtain ⟨k, rfl⟩ := Int.eq_ofNat_of_zero_le n0
  rw [Int.toNat_natCast]
  have HN : Hid (Calls _ _ _ _ _) := NC
  clear NC n0 r
  rcases Classical.em (e1 = 0) with h0 | h0
  · subst h0
    rw [if_pos rfl]
    by_cases hk : l1.length < k
    · rw [if_pos hk]
      dsimp only
      have hkz : (l1.length : Int) < (k : Int) := by omega
      go_enter Tryz.func23, Tryz.ntmps23
      go_wp2_with fail
      refine Calls.mono HN.out ?_
      rintro x w1 ⟨rfl, h1, h2⟩
      have R1 : Hid (RT w1 g h l1 0) := h1
      have K1 : Hid (KB g w w1) := h2
      obtain ⟨p1, c1, z1, b1, _, _, _, _, _, _⟩ := h1
      clear h2
      go_wp2_with fail
      refine (rfail_rt w1 g h l1 0 4 R1.out).mono ?_
      rintro x w2 ⟨rfl, h1, h2⟩
      have R2 : Hid (RT w2 g h [] 4) := h1
      have K2 : Hid (KB _ _ _) := h2
      obtain ⟨p2, c2, z2, b2, _, _, _, _, _, _⟩ := R2.out
      clear h1 h2 z1 b1
      go_wp2
      go_ret
      exact ⟨rfl, R2.out, K1.out.trans K2.out⟩
    · rw [if_neg hk]
      dsimp only
      have hkz : ¬ (l1.length : Int) < (k : Int) := by omega
      go_enter Tryz.func23, Tryz.ntmps23
      go_wp2_with fail
      refine Calls.mono HN.out ?_
      rintro x w1 ⟨rfl, h1, h2⟩
      have K1 : Hid (KB g w w1) := h2
      obtain ⟨p1, c1, z1, b1, f0, f1, hl, hg, hb, he⟩ := h1
      have s1 := slice_from p1 l1.length c1 k (by omega)
      have s2 := slice_head p1 l1.length c1 k (by omega)
      have hlen : (l1.take k).length = k := by rw [List.length_take]; omega
      have hh : HBk w1 h (headA p1 c1) (l1.take k) := by
        intro hne
        obtain ⟨o, ho, hc⟩ := hb.take k hne
        have hk0 : k ≠ 0 := by intro e; subst e; simp at hne
        refine ⟨o, ?_, hc⟩
        unfold headA at ho ⊢
        rw [if_neg hk0] at ho
        rw [if_neg (by omega)]
        exact ho
      have hcv := conv_string w1 (headA p1 c1) c1 (l1.take k) (hh.holds c1)
      rw [hlen, str_nums] at hcv
      have HR : Hid (RT (w1.setCell ⟨g, 0, none⟩ (.slice (offA p1 c1 k) (l1.length - k) (c1 - k))) g h (l1.drop k) 0 ∧ KB g w1 (w1.setCell ⟨g, 0, none⟩ (.slice (offA p1 c1 k) (l1.length - k) (c1 - k)))) := by
        have hkb := KB.setCell g w1 0 (.slice (offA p1 c1 k) (l1.length - k) (c1 - k))
        refine ⟨⟨offA p1 c1 k, c1 - k, ?_, ?_, ?_, ?_, by rw [List.length_drop]; omega, hg, (hb.drop hl k).kb hkb hg, fun h => absurd rfl h⟩, hkb⟩
        · rw [World.cell?_setCell_same _ _ _ z1, List.length_drop]
        · rw [cell_other _ g 0 1 _ (by decide)]; exact b1
        · rw [World.frozen?_setCell]; exact f0
        · rw [World.frozen?_setCell]; exact f1
      clear h2 hb hh hlen he
      go_wp2
      go_ret
      exact ⟨rfl, HR.out.1, K1.out.trans HR.out.2⟩
  · rw [if_neg h0]
    dsimp only
    have he1 : (e1 == 0) = false := by simpa using h0
    have he2 : (e1 != 0) = true := by simpa using h0
    clear h0
    go_enter Tryz.func23, Tryz.ntmps23
    go_wp2_with fail
    refine Calls.mono HN.out ?_
    rintro x w1 ⟨rfl, h1, h2⟩
    have R1 : Hid (RT w1 g h l1 e1) := h1
    have K1 : Hid (KB g w w1) := h2
    obtain ⟨p1, c1, z1, b1, _, _, _, _, _, _⟩ := h1
    clear h2
    go_wp2
    go_ret
    exact ⟨rfl, R1.out, K1.out⟩
theorem copied_all (v : Value) (l : List UInt8) (w : World) (hv : Lib.HoldsBytes w v l) (hl : l.length ≤ 140737488355328) :
    Calls Tryz.prog 51 #[v] w fun e w' => ∃ v', e = .returned v' ∧ Own w.heap.size w' v' l ∧ Below w.heap.size w w' := by
  obtain ⟨p, cap, rfl, h1, h2⟩ := hv
  obtain ⟨i0, hi, hz0, hz1, hz2⟩ := info_parts Tryz.info5
  cases p with
  | none =>
    have hn : l = [] := h1 rfl
    subst hn
    clear h1 h2 hl
    go_enter Tryz.func51, Tryz.ntmps51
    go_wp2
    go_ret
    exact ⟨_, rfl, World.ownsRow_nil _ _ _ _, Below.refl _ _⟩
  | some a =>
    have HC : Hid (∀ (i : Nat) x, l[i]? = some x → w.cell? (a.add i) = some (.int .u8 (x.toNat : Int))) := h2 a rfl
    clear h1 h2
    go_enter Tryz.func51, Tryz.ntmps51
    go_wp2_with (at_builtin; refine wpList_append_own _ rfl _ _ 26 rfl w.heap.size 5 i0 (.int .u8 0) 1 1 Tryz.underlying26 hi hz0 hz1 hz2 rfl (by decide) _ _ _ rfl (World.ownsRow_nil _ _ _ _) a l.length cap (bval l) rfl ?qc1 ?qc2 ?qc3 ?qc4 ?qc5 ?qc6 ?_)
    case qc1 => simp [bval]
    case qc2 =>
      intro j u hj
      unfold bval at hj
      rw [List.getElem?_map] at hj
      obtain ⟨x, hx, rfl⟩ := Option.map_eq_some_iff.1 hj
      exact HC.out j x hx
    case qc3 => intro u hu; obtain ⟨x, _, rfl⟩ := List.mem_map.1 hu; rfl
    case qc4 => unfold maxLen; omega
    case qc5 => omega
    case qc6 => exact Nat.le_refl _
    intro v' w1 hown hgrow hnil
    go_wp2
    go_ret
    refine ⟨v', rfl, by simpa [Own] using hown, ?_⟩
    exact (Below.refl _ w).grown hgrow (Nat.le_refl _) (by intro k hk; simp [Value.ownBlock] at hk)
theorem ropen_world (w w1 : World) (v1 : Value) (l : List UInt8) (ho : Own w.heap.size w1 v1 l) (hs : w.heap.size ≤ w1.heap.size) :
    ∃ p c h, v1 = .slice p l.length c ∧ w.heap.size ≤ h ∧ RT (w1.alloc (.cells #[.slice p l.length c, .int .i64 0] 89)) w1.heap.size h l 0 := by
  have hb := below_alloc w1
  have h0 : w1.ownsRow w.heap.size 5 1 v1 l.length (bval l) := ho
  have mk : ∀ p c h, l.length ≤ c → h ≠ w1.heap.size → HBk (w1.alloc (.cells #[.slice p l.length c, .int .i64 0] 89)) h p l → RT (w1.alloc (.cells #[.slice p l.length c, .int .i64 0] 89)) w1.heap.size h l 0 := by
    intro p c h hlc hne hk
    refine ⟨p, c, ?_, ?_, ?_, ?_, hlc, hne, hk, fun h => absurd rfl h⟩
    all_goals simp
  rcases h0.2 with ⟨rfl, hn⟩ | ⟨g, cap, cur, rfl, hg, hheap, hle, _⟩
  · have hl : l = [] := List.eq_nil_of_length_eq_zero hn
    subst hl
    exact ⟨none, 0, w1.heap.size + 1, rfl, by omega, mk none 0 _ (Nat.le_refl _) (by omega) (HBk.nil _ _ _)⟩
  · have hlt : g < w1.heap.size := by
      rcases Nat.lt_or_ge g w1.heap.size with h | h
      · exact h
      · rw [Array.getElem?_eq_none h] at hheap
        cases hheap
    refine ⟨some ⟨g, 0, none⟩, cap, g, rfl, hg, mk _ _ _ hle (by omega) ?_⟩
    intro _
    refine ⟨0, rfl, ?_⟩
    intro i x hx
    have hi : i < l.length := (List.getElem?_eq_some_iff.1 hx).1
    have hc := h0.cellAt i (by omega)
    rw [Nat.zero_add]
    refine Lib.Below.cellOf (hb _) ?_ (Nat.le_refl _)
    rw [hc]
    simp [bval, hx]
/-- Open: a reader of the bytes as they are now. -/
theorem ropen_calls (v : Value) (l : List UInt8) (w : World) (hv : Lib.HoldsBytes w v l) (hl : l.length ≤ 140737488351232) :
    Calls Tryz.prog 20 #[v] w fun e w' => ∃ g h, e = .returned (.pointer (some ⟨g, 0, none⟩)) ∧ w.heap.size ≤ g ∧ w.heap.size ≤ h ∧ RT w' g h l 0 ∧ Below w.heap.size w w' := by
  have HV : Hid (Lib.HoldsBytes w v l) := hv
  have HL : Hid (l.length ≤ 140737488355328) := by show l.length ≤ 140737488355328; omega
  obtain ⟨p, cap, rfl, q1, q2⟩ := hv
  clear q1 q2 hl
  go_enter Tryz.func20, Tryz.ntmps20
  go_wp2_with fail
  refine (copied_all _ _ _ HV.out HL.out).mono ?_
  rintro e w1 ⟨v1, rfl, ho, hb⟩
  obtain ⟨p1, c1, h, rfl, k1, k2⟩ := ropen_world w w1 v1 l ho hb.size
  have K1 : Hid (w.heap.size ≤ h) := k1
  have K2 : Hid (RT _ _ _ _ _) := k2
  have HB : Hid (Below w.heap.size w w1) := hb
  clear ho hb k1 k2
  go_wp2
  go_ret
  exact ⟨_, h, rfl, HB.out.size, K1.out, K2.out, HB.out.alloc HB.out.size _⟩
end Go.Proofs.YtkaaddahegkmgaaGreat
namespace Go.Proofs.YtkaaddahegkmgaaGreat
open Go.ChangeShapes Go.WideShapes Go.ChangeAt Go.RowKit
/-- What is read where there was an error moves nothing. -/
def Bad {α : Type} (f : List UInt8 → Int → α × List UInt8 × Int) : Prop := ∀ l e, e ≠ 0 → (f l e).2 = (l, e)
theorem num_bad (m : Int) : Bad (sNum m) := fun l e h => by rw [sNum_err h]
theorem text_bad (m : Int) : Bad (sText m) := fun l e h => by
  unfold sText
  rw [sNum_err h]
  dsimp only
  rw [if_neg h]
theorem rdL_bad {α : Type} {f : List UInt8 → Int → α × List UInt8 × Int} (hf : Bad f) : ∀ n, Bad (rdL f n)
  | 0 => fun _ _ _ => rfl
  | n + 1 => fun l e h => by
    show (rdL f n (f l e).2.1 (f l e).2.2).2 = (l, e)
    rw [hf l e h]
    exact rdL_bad hf n l e h
theorem rdN_bad {α : Type} {f : List UInt8 → Int → α × List UInt8 × Int} (hf : Bad f) (m : Int) : Bad (rdN m f) := fun l e h => by
  unfold rdN
  rw [num_bad m l e h]
  exact rdL_bad hf _ l e h
theorem row_bad : Bad rdRw := fun l e h => by
  show (sText 524288 (sNum 2147483648 (sText 64 l e).2.1 (sText 64 l e).2.2).2.1 (sNum 2147483648 (sText 64 l e).2.1 (sText 64 l e).2.2).2.2).2 = (l, e)
  rw [text_bad 64 l e h]
  dsimp only
  rw [num_bad _ l e h]
  exact text_bad _ l e h
theorem bn_bad : Bad rdBn := fun l e h => by
  show (rdN 120 (sText 4096) (sText 64 l e).2.1 (sText 64 l e).2.2).2 = (l, e)
  rw [text_bad 64 l e h]
  exact rdN_bad (text_bad _) _ l e h
/-- Where a loop of reading stands. -/
structure Lp {α : Type} (f : List UInt8 → Int → α × List UInt8 × Int) (N : Nat) (R : List α × List UInt8 × Int) (j : Nat) (acc : List α) (l : List UInt8) (e : Int) : Prop where
  tl : R.2 = (rdL f (N - j) l e).2
  hd : e = 0 → R.1 = acc ++ (rdL f (N - j) l e).1
theorem Lp.first {α : Type} (f : List UInt8 → Int → α × List UInt8 × Int) (N : Nat) (l : List UInt8) (e : Int) : Lp f N (rdL f N l e) 0 [] l e := ⟨by rw [Nat.sub_zero], fun _ => by rw [Nat.sub_zero, List.nil_append]⟩
theorem Lp.done {α : Type} {f : List UInt8 → Int → α × List UInt8 × Int} {N : Nat} {R : List α × List UInt8 × Int} {acc : List α} {l : List UInt8} {e : Int} (h : Lp f N R N acc l e) : R.2 = (l, e) ∧ (e = 0 → R.1 = acc) := by
  obtain ⟨h1, h2⟩ := h
  rw [Nat.sub_self] at h1 h2
  exact ⟨h1, fun h0 => by rw [h2 h0]; exact List.append_nil _⟩
theorem Lp.err {α : Type} {f : List UInt8 → Int → α × List UInt8 × Int} {N j : Nat} {R : List α × List UInt8 × Int} {acc : List α} {l : List UInt8} {e : Int} (h : Lp f N R j acc l e) (he : e ≠ 0) (hf : Bad f) : R.2 = (l, e) ∧ (e = 0 → R.1 = acc) :=
  ⟨by rw [h.tl, rdL_bad hf _ _ _ he], fun h0 => absurd h0 he⟩
theorem Lp.more {α : Type} {f : List UInt8 → Int → α × List UInt8 × Int} {N j : Nat} {R : List α × List UInt8 × Int} {acc : List α} {l l1 : List UInt8} {e1 : Int} {t : α} (h : Lp f N R j acc l 0) (hj : j < N) (hs : (f l 0).2 = (l1, e1)) (ht : e1 = 0 → t = (f l 0).1) : Lp f N R (j + 1) (acc ++ [t]) l1 e1 := by
  obtain ⟨h1, h2⟩ := h
  obtain ⟨n, hn⟩ : ∃ n, N - j = n + 1 := ⟨N - j - 1, by omega⟩
  have hn2 : N - (j + 1) = n := by omega
  have e : rdL f (n + 1) l 0 = ((f l 0).1 :: (rdL f n l1 e1).1, (rdL f n l1 e1).2) := by
    show (_, _) = _
    rw [hs]
  rw [hn, e] at h1 h2
  have h2' := h2 rfl
  exact ⟨by rw [hn2, h1], fun h0 => by rw [hn2, h2', ht h0, List.append_assoc]; rfl⟩
/-- The reference's reader stays, while its two blocks do. -/
theorem RT.keep {w w' : World} {g h : Nat} {l : List UInt8} {e : Int} (r : RT w g h l e) (h1 : w'.heap[g]? = w.heap[g]?) (h2 : w'.heap[h]? = w.heap[h]?) : RT w' g h l e := by
  have fg : ∀ o, w'.cell? ⟨g, o, none⟩ = w.cell? ⟨g, o, none⟩ := fun o => World.cell?_of_block h1
  have fh : ∀ o, w'.cell? ⟨h, o, none⟩ = w.cell? ⟨h, o, none⟩ := fun o => World.cell?_of_block h2
  have zg : ∀ o, w'.frozen? ⟨g, o, none⟩ = w.frozen? ⟨g, o, none⟩ := fun o => World.frozen?_of_block h1
  obtain ⟨p, c, a0, a1, f0, f1, hl, hg, hb, he⟩ := r
  refine ⟨p, c, (fg 0).trans a0, (fg 1).trans a1, (zg 0).trans f0, (zg 1).trans f1, hl, hg, fun hne => ?_, he⟩
  obtain ⟨o, hp, hcell⟩ := hb hne
  exact ⟨o, hp, fun i x hx => (fh _).trans (hcell i x hx)⟩
theorem RT.lt {w : World} {g h : Nat} {l : List UInt8} {e : Int} (r : RT w g h l e) : g < w.heap.size := by
  obtain ⟨p, c, a0, _⟩ := r
  exact World.block_lt_of_cell? w ⟨g, 0, none⟩ a0
/-- Open, its block of bytes told where there are none, too. -/
theorem ropen2_calls (v : Value) (l : List UInt8) (w : World) (hv : Lib.HoldsBytes w v l) (hl : l.length ≤ 140737488351232) (h0 : 0 < w.heap.size) :
    Calls Tryz.prog 20 #[v] w fun e w' => ∃ g h, e = .returned (.pointer (some ⟨g, 0, none⟩)) ∧ w.heap.size ≤ g ∧ h < w'.heap.size ∧ RT w' g h l 0 ∧ Below w.heap.size w w' := by
  refine (ropen_calls v l w hv hl).mono ?_
  rintro e w' ⟨g, h, rfl, hg, hh, ⟨p, c, a0, a1, f0, f1, hlc, hgh, hb, he⟩, hB⟩
  have hs := hB.size
  by_cases hn : l = []
  · subst hn
    exact ⟨g, 0, rfl, hg, by omega, ⟨p, c, a0, a1, f0, f1, hlc, by omega, HBk.nil _ _ _, he⟩, hB⟩
  · obtain ⟨o, hp, hc⟩ := hb hn
    obtain ⟨x, l2, rfl⟩ := List.exists_cons_of_ne_nil hn
    have := World.block_lt_of_cell? w' ⟨h, o + 0, none⟩ (hc 0 x rfl)
    exact ⟨g, h, rfl, hg, this, ⟨p, c, a0, a1, f0, f1, hlc, hgh, hb, he⟩, hB⟩
/-- Where the reading stands: the result's box, the own box, the reader; what was there at wm stays. -/
structure RS (w wm W : World) (g h q : Nat) (l : List UInt8) (e : Int) (cs : Array Value) : Prop where
  gr : w.heap.size < g
  gq : g < q
  hq : h < q
  qm : q < wm.heap.size
  mz : wm.heap.size ≤ W.heap.size
  res : Bk W w.heap.size #[.slice none 0 0, .slice none 0 0] 25
  own : Bk W q cs 25
  st : RT W g h l e
  bl : Below w.heap.size w W
  fr : ∀ B, B < wm.heap.size → B ≠ g → B ≠ q → W.heap[B]? = wm.heap[B]?
theorem RS.read {w wm W W' : World} {g h q : Nat} {l l' : List UInt8} {e e' : Int} {cs : Array Value} (m : RS w wm W g h q l e cs) (s : RT W' g h l' e') (k : KB g W W') : RS w wm W' g h q l' e' cs := by
  have a := m.gr
  have b := m.gq
  have c := m.mz
  exact ⟨a, b, m.hq, m.qm, Nat.le_trans m.mz k.2.2.2.1, (k.2.2.2.2 _ m.res.lt (by omega)).trans m.res, (k.2.2.2.2 _ m.own.lt (by omega)).trans m.own, s, m.bl.trans (k.below (by omega) m.bl.size), fun B h1 h2 h3 => (k.2.2.2.2 B (by omega) h2).trans (m.fr B h1 h2 h3)⟩
theorem RS.keep {w wm W W' : World} {g h q : Nat} {l : List UInt8} {e : Int} {cs : Array Value} (m : RS w wm W g h q l e cs) (hb : Below wm.heap.size W W') : RS w wm W' g h q l e cs := by
  have a := m.gr
  have b := m.gq
  have c := m.hq
  have d := m.qm
  exact ⟨a, b, c, d, Nat.le_trans m.mz hb.size, (hb.block _ (by omega)).trans m.res, (hb.block q d).trans m.own, m.st.keep (hb.block g (by omega)) (hb.block h (by omega)), m.bl.trans (hb.mono (by omega)), fun B h1 h2 h3 => (hb.block B h1).trans (m.fr B h1 h2 h3)⟩
theorem RS.below {w wm W W' : World} {g h q : Nat} {l : List UInt8} {e : Int} {cs : Array Value} (m : RS w wm W g h q l e cs) (hb : Below W.heap.size W W') : RS w wm W' g h q l e cs := m.keep (hb.mono m.mz)
theorem RS.put {w wm W : World} {g h q : Nat} {l : List UInt8} {e : Int} {cs : Array Value} (m : RS w wm W g h q l e cs) (i : Nat) (v : Value) : RS w wm (W.setCell ⟨q, i, none⟩ v) g h q l e (cs.setIfInBounds i v) := by
  have a := m.gr
  have b := m.gq
  have c := m.hq
  have hne : ∀ B, B ≠ q → (W.setCell ⟨q, i, none⟩ v).heap[B]? = W.heap[B]? := fun B hB => Below.heap_setCell _ _ _ _ hB
  exact ⟨a, b, c, m.qm, by simpa [World.setCell] using m.mz, (hne _ (by omega)).trans m.res, m.own.set i v, m.st.keep (hne g (by omega)) (hne h (by omega)), m.bl.trans ((KB.setCell q W i v).below (by omega) m.bl.size), fun B h1 h2 h3 => (hne B h3).trans (m.fr B h1 h2 h3)⟩
theorem RS.next {w wm W : World} {g h q : Nat} {l : List UInt8} {e : Int} {cs : Array Value} (m : RS w wm W g h q l e cs) : RS w W W g h q l e cs :=
  ⟨m.gr, m.gq, m.hq, m.own.lt, Nat.le_refl _, m.res, m.own, m.st, m.bl, fun _ _ _ _ => rfl⟩
/-- The first: Open has been called, the own box is new. -/
theorem RS.first {w w1 : World} {g h : Nat} {l : List UInt8} {e : Int} (cs : Array Value) (hg : (w.alloc (.cells #[.slice none 0 0, .slice none 0 0] 25)).heap.size ≤ g) (hh : h < w1.heap.size) (b1 : Below (w.alloc (.cells #[.slice none 0 0, .slice none 0 0] 25)).heap.size (w.alloc (.cells #[.slice none 0 0, .slice none 0 0] 25)) w1) (s : RT w1 g h l e) :
    RS w (w1.alloc (.cells cs 25)) (w1.alloc (.cells cs 25)) g h w1.heap.size l e cs := by
  have hz : (w.alloc (.cells #[.slice none 0 0, .slice none 0 0] 25)).heap.size = w.heap.size + 1 := by simp
  have r1 : Bk w1 w.heap.size _ 25 := (Bk.new w #[.slice none 0 0, .slice none 0 0] 25).below b1
  have b2 : Below w.heap.size w w1 := bel2 (bel1 w _) b1
  have hgl := s.lt
  exact ⟨by omega, hgl, hh, by simp, Nat.le_refl _, r1.below (bel1 _ _), Bk.new w1 cs 25, s.keep ((bel1 w1 _).block g hgl) ((bel1 w1 _).block h hh), b2.trans ((bel1 w1 _).mono b2.size), fun _ _ _ _ => rfl⟩
/-- The same within a round that began at W0, where an item has its own box p. -/
structure RW (w wm W0 W : World) (g h q p : Nat) (l : List UInt8) (e : Int) (cs ds : Array Value) (t : TypeId) : Prop where
  rs : RS w wm W g h q l e cs
  m0 : wm.heap.size ≤ W0.heap.size
  p0 : W0.heap.size ≤ p
  wb : Bk W p ds t
  fr : ∀ B, B < W0.heap.size → B ≠ g → B ≠ q → W.heap[B]? = W0.heap[B]?
theorem RW.first {w wm W0 W : World} {g h q : Nat} {l l' : List UInt8} {e e' : Int} {cs : Array Value} (m : RS w wm W0 g h q l e cs) (ds : Array Value) (t : TypeId) (s : RT W g h l' e') (k : KB g W0 W) : RW w wm W0 (W.alloc (.cells ds t)) g h q W.heap.size l' e' cs ds t := by
  have hk := k.2.2.2.1
  exact ⟨(m.read s k).below (bel1 _ _), m.mz, hk, Bk.new W ds t, fun B h1 h2 h3 => ((bel1 W _).block B (by omega)).trans (k.2.2.2.2 B h1 h2)⟩
theorem RW.read {w wm W0 W W' : World} {g h q p : Nat} {l l' : List UInt8} {e e' : Int} {cs ds : Array Value} {t : TypeId} (m : RW w wm W0 W g h q p l e cs ds t) (s : RT W' g h l' e') (k : KB g W W') : RW w wm W0 W' g h q p l' e' cs ds t := by
  have a := m.rs.gq
  have a2 := m.rs.qm
  have b := m.m0
  have c := m.p0
  have d := m.wb.lt
  exact ⟨m.rs.read s k, b, c, (k.2.2.2.2 _ d (by omega)).trans m.wb, fun B h1 h2 h3 => (k.2.2.2.2 B (by omega) h2).trans (m.fr B h1 h2 h3)⟩
theorem RW.keep {w wm W0 W W' : World} {g h q p : Nat} {l : List UInt8} {e : Int} {cs ds : Array Value} {t : TypeId} (m : RW w wm W0 W g h q p l e cs ds t) (hb : Below W0.heap.size W W') (hp : W'.heap[p]? = W.heap[p]?) : RW w wm W0 W' g h q p l e cs ds t :=
  ⟨m.rs.keep (hb.mono m.m0), m.m0, m.p0, hp.trans m.wb, fun B h1 h2 h3 => (hb.block B h1).trans (m.fr B h1 h2 h3)⟩
theorem RW.below {w wm W0 W W' : World} {g h q p : Nat} {l : List UInt8} {e : Int} {cs ds : Array Value} {t : TypeId} (m : RW w wm W0 W g h q p l e cs ds t) (hb : Below W.heap.size W W') : RW w wm W0 W' g h q p l e cs ds t :=
  m.keep (hb.mono (by have := m.p0; have := m.wb.lt; omega)) (hb.block p m.wb.lt)
theorem RW.put {w wm W0 W : World} {g h q p : Nat} {l : List UInt8} {e : Int} {cs ds : Array Value} {t : TypeId} (m : RW w wm W0 W g h q p l e cs ds t) (i : Nat) (v : Value) : RW w wm W0 (W.setCell ⟨p, i, none⟩ v) g h q p l e cs (ds.setIfInBounds i v) t := by
  have hz : W0.heap.size ≤ W.heap.size := by have := m.p0; have := m.wb.lt; omega
  have k := (KB.setCell p W i v).below m.p0 hz
  exact ⟨m.rs.keep (k.mono m.m0), m.m0, m.p0, m.wb.set i v, fun B h1 h2 h3 => (k.block B h1).trans (m.fr B h1 h2 h3)⟩
/-- The list of the call's own that lies where the round began lies there still. -/
theorem RW.gr {α : Type} {E : El α} {w wm W0 W : World} {g h q p : Nat} {l : List UInt8} {e : Int} {cs ds : Array Value} {t : TypeId} {u : Value} {xs : List α} (m : RW w wm W0 W g h q p l e cs ds t) (hG : Gr E wm.heap.size (fun B => wm.heap.size ≤ B) W0 u xs) : Gr E wm.heap.size (fun B => wm.heap.size ≤ B) W u xs := by
  have a := m.rs.gq
  have b := m.rs.qm
  exact hG.keep (fun B hB => by have := hG.lt B hB; exact m.fr B this.2 (by omega) (by omega)) (fun B hB hl => ⟨m.fr B hl (by omega) (by omega), hB⟩)
/-- An item is appended. -/
structure ApS {α : Type} (E : El α) (ty : TypeId) (i : Nat) (w wm wr w5 : World) (g h q : Nat) (l2 : List UInt8) (e2 : Int) (cs ds : Array Value) (wa : Option Addr) (wn wc : Nat) (wa' : Option Addr) (wn' wc' : Nat) (acc : List α) : Prop where
  run : ∀ t, (Builtin.append_ #[ty, ty] t #[.slice wa wn wc, .slice (some ⟨wr.heap.size, 0, none⟩) 1 1]).run Tryz.prog (wr.alloc (.cells ds E.ty)) = .ok (.slice wa' wn' wc') w5
  c5 : w5.cell? ⟨q, i, none⟩ = some (.slice wa wn wc)
  frz : w5.frozen? ⟨q, i, none⟩ = false
  rs : RS w wm (w5.setCell ⟨q, i, none⟩ (.slice wa' wn' wc')) g h q l2 e2 (cs.setIfInBounds i (.slice wa' wn' wc'))
  gr : Gr E wm.heap.size (fun B => wm.heap.size ≤ B) (w5.setCell ⟨q, i, none⟩ (.slice wa' wn' wc')) (.slice wa' wn' wc') acc
theorem row_step {w wm W0 wr : World} {g h q p : Nat} {l2 : List UInt8} {e2 : Int} {cs : Array Value} {v : Value} {x : Rw} {wa : Option Addr} {wn wc : Nat} {acc : List Rw} {i : Nat}
    (m : RW w wm W0 wr g h q p l2 e2 cs #[.string x.key, .int .i64 x.ver, v] 47) (hi : cs[i]? = some (.slice wa wn wc)) (hv : HB (fun B => W0.heap.size ≤ B) wr v x.row) (hG : Gr rowE wm.heap.size (fun B => wm.heap.size ≤ B) W0 (.slice wa wn wc) acc) (hl : acc.length ≤ 100000) :
    ∃ wa' wn' wc' w5, ApS rowE 22 i w wm wr w5 g h q l2 e2 cs #[.string x.key, .int .i64 x.ver, v] wa wn wc wa' wn' wc' (acc ++ [x]) := by
  have m0 := m.m0
  have qm := m.rs.qm
  obtain ⟨u', w5, hr, hg, hb5⟩ := app_row (x := x) (v := v) (m.gr hG) ⟨v, rfl, hv.all fun B hB => ⟨by omega, fun e => by have := (hG.lt B e).2; omega⟩⟩ hl m.rs.mz
  obtain ⟨a, c, rfl, _⟩ := hg.shape
  have m5 := m.rs.keep hb5
  exact ⟨a, _, c, w5, hr, (m5.own.cell i).trans hi, m5.own.frozen i, m5.put i _, hg.keep (fun B hB => Below.heap_setCell _ _ _ _ (fun e => by have e : B = q := e; have := (hg.lt B hB).1; omega)) (fun B hB _ => ⟨Below.heap_setCell _ _ _ _ (fun e => by have e : B = q := e; omega), hB⟩)⟩
theorem br_step {w wm W0 wr : World} {g h q p : Nat} {l2 : List UInt8} {e2 : Int} {cs : Array Value} {v : Value} {x : Bn} {wa : Option Addr} {wn wc : Nat} {acc : List Bn} {i : Nat}
    (m : RW w wm W0 wr g h q p l2 e2 cs #[.string x.key, v] 39) (hi : cs[i]? = some (.slice wa wn wc)) (hv : Sl evE (fun B => W0.heap.size ≤ B) wr v x.ev) (hG : Gr brE wm.heap.size (fun B => wm.heap.size ≤ B) W0 (.slice wa wn wc) acc) (hl : acc.length ≤ 100000) :
    ∃ wa' wn' wc' w5, ApS brE 23 i w wm wr w5 g h q l2 e2 cs #[.string x.key, v] wa wn wc wa' wn' wc' (acc ++ [x]) := by
  have m0 := m.m0
  have qm := m.rs.qm
  obtain ⟨u', w5, hr, hg, hb5⟩ := app_br (x := x) (v := v) (m.gr hG) ⟨v, rfl, hv.all' fun B hB => ⟨by omega, fun e => by have := (hG.lt B e).2; omega⟩⟩ hl m.rs.mz
  obtain ⟨a, c, rfl, _⟩ := hg.shape
  have m5 := m.rs.keep hb5
  exact ⟨a, _, c, w5, hr, (m5.own.cell i).trans hi, m5.own.frozen i, m5.put i _, hg.keep (fun B hB => Below.heap_setCell _ _ _ _ (fun e => by have e : B = q := e; have := (hg.lt B hB).1; omega)) (fun B hB _ => ⟨Below.heap_setCell _ _ _ _ (fun e => by have e : B = q := e; omega), hB⟩)⟩
/-- One event more is read, and appended. -/
structure EvS (w wm W0 w2 w3 w5 : World) (g h q p : Nat) (l2 : List UInt8) (e2 : Int) (cs : Array Value) (d0 x : Value) (ua : Option Addr) (un uc : Nat) (ua' : Option Addr) (un' uc' : Nat) (acc : List (List UInt8)) : Prop where
  run : ∀ ty, (Builtin.append_ #[37, 37] ty #[.slice ua un uc, .slice (some ⟨w3.heap.size, 0, none⟩) 1 1]).run Tryz.prog (w3.alloc (.cells #[x] 26)) = .ok (.slice ua' un' uc') w5
  c2 : w2.cell? ⟨p, 1, none⟩ = some (.slice ua un uc)
  c3 : w3.cell? ⟨p, 1, none⟩ = some (.slice ua un uc)
  c4 : (w3.alloc (.cells #[x] 26)).cell? ⟨p, 1, none⟩ = some (.slice ua un uc)
  c5 : w5.cell? ⟨p, 1, none⟩ = some (.slice ua un uc)
  frz : w5.frozen? ⟨p, 1, none⟩ = false
  mid : RW w wm W0 (w5.setCell ⟨p, 1, none⟩ (.slice ua' un' uc')) g h q p l2 e2 cs #[d0, .slice ua' un' uc'] 39
  ev : Gr evE (p + 1) (fun B => p + 1 ≤ B) (w5.setCell ⟨p, 1, none⟩ (.slice ua' un' uc')) (.slice ua' un' uc') acc
theorem ev_step {w wm W0 wr w2 w3 : World} {g h q p : Nat} {lm l2 X : List UInt8} {em e2 : Int} {cs : Array Value} {d0 : Value} {ua : Option Addr} {un uc z cap : Nat} {acc : List (List UInt8)}
    (m : RW w wm W0 wr g h q p lm em cs #[d0, .slice ua un uc] 39) (hv : Gr evE (p + 1) (fun B => p + 1 ≤ B) wr (.slice ua un uc) acc) (s2 : RT w2 g h l2 e2) (k2 : KB g wr.drew w2) (hh : HB (fun B => B = w2.heap.size) w3 (.slice (some ⟨w2.heap.size, 0, none⟩) z cap) X) (hb3 : Below w2.heap.size w2 w3) (hl : acc.length ≤ 1000) :
    ∃ ua' un' uc' w5, EvS w wm W0 w2 w3 w5 g h q p l2 e2 cs d0 (.slice (some ⟨w2.heap.size, 0, none⟩) z cap) ua un uc ua' un' uc' (acc ++ [X]) := by
  have k2' : KB g wr w2 := (KB.of_below (Below.refl _ wr).drew).trans k2
  have gq := m.rs.gq
  have gm := m.rs.qm
  have m0 := m.m0
  have p0 := m.p0
  have hp := m.wb.lt
  have hz2 : wr.heap.size ≤ w2.heap.size := k2'.2.2.2.1
  have hz3 := hb3.size
  have m2 := m.read s2 k2'
  have m3 := m2.below hb3
  have m4 := m3.below (bel1 w3 (.cells #[.slice (some ⟨w2.heap.size, 0, none⟩) z cap] 26))
  have v2 : Gr evE (p + 1) (fun B => p + 1 ≤ B) w2 (.slice ua un uc) acc := hv.keep (fun B hB => by have := hv.lt B hB; exact k2'.2.2.2.2 B this.2 (by omega)) (fun B h1 h2 => ⟨k2'.2.2.2.2 B h2 (by omega), h1⟩)
  have v3 := v2.below hb3
  obtain ⟨u', w5, hr, hv5, hb5⟩ := app_ev (x := X) v3 (hh.all fun B hB => ⟨by omega, fun e => by have := (hv.lt B e).2; omega⟩) (by omega) (by omega)
  obtain ⟨ua', uc', rfl, _⟩ := hv5.shape
  have m5 : RW w wm W0 w5 g h q p l2 e2 cs #[d0, .slice ua un uc] 39 := m3.keep (hb5.mono (by omega)) (hb5.block p (by omega))
  exact ⟨ua', _, uc', w5, hr, m2.wb.cell 1, m3.wb.cell 1, m4.wb.cell 1, m5.wb.cell 1, m5.wb.frozen 1, m5.put 1 _, hv5.keep (fun B hB => Below.heap_setCell _ _ _ _ (fun e => by have e : B = p := e; have := (hv5.lt B hB).1; omega)) (fun B hB _ => ⟨Below.heap_setCell _ _ _ _ (fun e => by have e : B = p := e; omega), hB⟩)⟩
end Go.Proofs.YtkaaddahegkmgaaGreat
