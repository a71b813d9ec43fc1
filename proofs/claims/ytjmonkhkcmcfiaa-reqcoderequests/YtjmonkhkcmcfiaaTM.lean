/- The reference's reader, moved from the value codes. -/
import Derived.Test.YtjmonkhkcmcfiaaPH
import Derived.Test.YtjmonkhkcmcfiaaPS
import Derived.Test.YtjmonkhkcmcfiaaFCon
import Derived.Laws.BitsAllLaws
import Derived.Test.YtjmonkhkcmcfiaaXF
import Derived.Deep.RegionLaw
import Derived.Test.YtjmonkhkcmcfiaaPP
import Derived.Test.YtjmonkhkcmcfiaaTY
namespace Go.Proofs.Ytjmonkhkcmcfiaa
open Go.ChangeShapes Go.WideShapes Go.ChangeAt Go.RowKit
/-- The reference's reader at block g: what is left, in block h, and its error. -/
def RD (w : World) (g h : Nat) (p : Option Addr) (c : Nat) (l : List UInt8) (e : Int) : Prop :=
  w.cell? ⟨g, 0, none⟩ = some (.slice p l.length c) ∧ w.cell? ⟨g, 1, none⟩ = some (.int .i64 e) ∧ w.frozen? ⟨g, 0, none⟩ = false ∧ w.frozen? ⟨g, 1, none⟩ = false ∧ l.length ≤ c ∧ h ≠ g ∧ HBk w h p l ∧ (e ≠ 0 → l = [])
def RT (w : World) (g h : Nat) (l : List UInt8) (e : Int) : Prop := ∃ p c, RD w g h p c l e
theorem RD.kb {w w' : World} {g h g' c : Nat} {p : Option Addr} {l : List UInt8} {e : Int} (r : RD w g h p c l e) (k : KB g' w w') (h1 : g ≠ g') (h2 : h ≠ g') : RD w' g h p c l e := by
  obtain ⟨a0, a1, f0, f1, hl, hg, hb, he⟩ := r
  have hlt := World.block_lt_of_cell? w _ a0
  exact ⟨k.cell a0 h1, k.cell a1 h1, (k.frozen (a := ⟨g, 0, none⟩) hlt h1).trans f0, (k.frozen (a := ⟨g, 1, none⟩) hlt h1).trans f1, hl, hg, hb.kb k h2, he⟩
theorem RT.kb {w w' : World} {g h g' : Nat} {l : List UInt8} {e : Int} (r : RT w g h l e) (k : KB g' w w') (h1 : g ≠ g') (h2 : h ≠ g') : RT w' g h l e := by
  obtain ⟨p, c, r⟩ := r
  exact ⟨p, c, r.kb k h1 h2⟩
/-- What a call of the reference's reader at g leaves. -/
def Rr (w : World) (g h : Nat) (v : Value) (l : List UInt8) (e : Int) (x : Ending) (w' : World) : Prop := x = .returned v ∧ RT w' g h l e ∧ KB g w w'
theorem rerr_rt (w : World) (g h : Nat) (l : List UInt8) (e : Int) (r : RT w g h l e) :
    Calls Try.prog 32 #[.pointer (some ⟨g, 0, none⟩)] w fun x w' => x = .returned (.int .i64 e) ∧ w' = w := by
  obtain ⟨p, c, a0, a1, f0, f1, hl, hg, hb, he⟩ := r
  clear hb he
  go_enter Try.func32, Try.ntmps32
  go_wp2
  go_ret
  exact ⟨rfl, rfl⟩
theorem rleft_rt (w : World) (g h : Nat) (l : List UInt8) (e : Int) (r : RT w g h l e) :
    Calls Try.prog 67 #[.pointer (some ⟨g, 0, none⟩)] w fun x w' => x = .returned (.int .i64 (l.length : Int)) ∧ w' = w := by
  obtain ⟨p, c, a0, a1, f0, f1, hl, hg, hb, he⟩ := r
  clear hb he
  go_enter Try.func67, Try.ntmps67
  go_wp2
  go_ret
  exact ⟨rfl, rfl⟩
theorem rend_rt (w : World) (g h : Nat) (l : List UInt8) (e : Int) (r : RT w g h l e) :
    Calls Try.prog 33 #[.pointer (some ⟨g, 0, none⟩)] w fun x w' => x = .returned (.int .i64 (en l e)) ∧ w' = w := by
  obtain ⟨p, c, a0, a1, f0, f1, hl, hg, hb, he⟩ := r
  clear hb he
  rcases Classical.em (e = 0) with h0 | h0
  · subst h0
    by_cases hz : l.length = 0
    · have hk : en l 0 = 0 := by simp [en, hz]
      rw [hk]
      rw [hz] at a0
      go_enter Try.func33, Try.ntmps33
      go_wp2
      go_ret
      exact ⟨rfl, rfl⟩
    · have hk : en l 0 = 3 := by simp [en]; intro h; subst h; simp at hz
      rw [hk]
      have hp : (0 : Int) < (l.length : Int) := by omega
      go_enter Try.func33, Try.ntmps33
      go_wp2
      go_ret
      exact ⟨rfl, rfl⟩
  · have he2 : (e == 0) = false := by simpa using h0
    have hk : en l e = e := by simp [en, he2]
    rw [hk]
    clear hk h0
    go_enter Try.func33, Try.ntmps33
    go_wp2
    go_ret
    exact ⟨rfl, rfl⟩
theorem rfail_rt (w : World) (g h : Nat) (l : List UInt8) (e f : Int) (r : RT w g h l e) :
    Calls Try.prog 66 #[.pointer (some ⟨g, 0, none⟩), .int .i64 f] w (Rr w g h (.tuple #[]) (if e == 0 && f != 0 then [] else l) (if e == 0 then f else e)) := by
  obtain ⟨p, c, r⟩ := r
  have R := r
  obtain ⟨a0, a1, f0, f1, hl, hg, hb, he⟩ := r
  rcases Classical.em (e = 0) with h0 | h0
  · subst h0
    rcases Classical.em (f = 0) with hf | hf
    · subst hf
      have HR : Hid (RD w g h p c l 0) := R
      clear hb he R
      show Calls Try.prog 66 #[.pointer (some ⟨g, 0, none⟩), .int .i64 0] w (Rr w g h (.tuple #[]) l 0)
      go_enter Try.func66, Try.ntmps66
      go_wp2
      first | go_end0 | refine bodyPost_ret (results_none rfl _ _ _) rfl ?_
      exact ⟨rfl, ⟨_, _, HR.out⟩, KB.refl _ _⟩
    · have hfb : (f != 0) = true := by simpa using hf
      have HR : Hid (RT ((w.setCell ⟨g, 1, none⟩ (.int .i64 f)).setCell ⟨g, 0, none⟩ (.slice none 0 0)) g h [] f ∧ KB g w ((w.setCell ⟨g, 1, none⟩ (.int .i64 f)).setCell ⟨g, 0, none⟩ (.slice none 0 0))) := by
        refine ⟨⟨none, 0, ?_, ?_, ?_, ?_, Nat.le_refl _, hg, HBk.nil _ _ _, fun _ => rfl⟩, (KB.setCell g w 1 _).trans (KB.setCell g _ 0 _)⟩
        · exact World.cell?_setCell_same _ _ _ ((cell_other w g 1 0 _ (by decide)).trans a0)
        · rw [cell_other _ g 0 1 _ (by decide)]
          exact World.cell?_setCell_same _ _ _ a1
        · rw [World.frozen?_setCell, World.frozen?_setCell]; exact f0
        · rw [World.frozen?_setCell, World.frozen?_setCell]; exact f1
      have e1 : (if ((0 : Int) == 0 && f != 0) = true then ([] : List UInt8) else l) = [] := by rw [hfb]; rfl
      rw [e1]
      show Calls Try.prog 66 #[.pointer (some ⟨g, 0, none⟩), .int .i64 f] w (Rr w g h (.tuple #[]) [] f)
      clear hb he R hf e1
      go_enter Try.func66, Try.ntmps66
      go_wp2
      first | go_end0 | refine bodyPost_ret (results_none rfl _ _ _) rfl ?_
      exact ⟨rfl, HR.out⟩
  · have hl0 : l = [] := he h0
    subst hl0
    have he2 : (e == 0) = false := by simpa using h0
    have he3 : (e != 0) = true := by simpa using h0
    have HR : Hid (RT (w.setCell ⟨g, 0, none⟩ (.slice none 0 0)) g h [] e ∧ KB g w (w.setCell ⟨g, 0, none⟩ (.slice none 0 0))) := by
      refine ⟨⟨none, 0, ?_, ?_, ?_, ?_, Nat.le_refl _, hg, HBk.nil _ _ _, fun _ => rfl⟩, KB.setCell g w 0 _⟩
      · exact World.cell?_setCell_same _ _ _ a0
      · rw [cell_other _ g 0 1 _ (by decide)]; exact a1
      · rw [World.frozen?_setCell]; exact f0
      · rw [World.frozen?_setCell]; exact f1
    have e1 : (if (e == 0 && f != 0) = true then ([] : List UInt8) else []) = [] := by split <;> rfl
    have e2 : (if (e == 0) = true then f else e) = e := by rw [he2]; rfl
    rw [e1, e2]
    clear hb he R e1 e2 h0
    go_enter Try.func66, Try.ntmps66
    go_wp2
    first | go_end0 | refine bodyPost_ret (results_none rfl _ _ _) rfl ?_
    exact ⟨rfl, HR.out⟩
end Go.Proofs.Ytjmonkhkcmcfiaa
namespace Go.Proofs.Ytjmonkhkcmcfiaa
open Go.ChangeShapes Go.WideShapes Go.ChangeAt Go.RowKit
theorem rtake_short (w : World) (g h : Nat) (l : List UInt8) (e : Int) (k : Nat) (hk : l.length < k) (r : RT w g h l e) :
    Calls Try.prog 65 #[.pointer (some ⟨g, 0, none⟩), .int .i64 (k : Int)] w (Rr w g h (.int .u64 0) [] (if e = 0 then 4 else e)) := by
  have FL := rfail_rt w g h l e 4 r
  have e1 : (if (e == 0 && (4 : Int) != 0) = true then ([] : List UInt8) else l) = [] := by
    rcases Classical.em (e = 0) with h0 | h0
    · subst h0; rfl
    · obtain ⟨p, c, _, _, _, _, _, _, _, he⟩ := r
      rw [he h0]; split <;> rfl
  have e2 : (if (e == 0) = true then (4 : Int) else e) = if e = 0 then 4 else e := by
    rcases Classical.em (e = 0) with h0 | h0
    · subst h0; rfl
    · rw [if_neg (by simpa using h0), if_neg h0]
  rw [e1, e2] at FL
  generalize (if e = 0 then 4 else e) = ee at FL ⊢
  have HF : Hid (Calls _ _ _ _ _) := FL
  obtain ⟨p, c, a0, a1, f0, f1, hl, hg, hb, he⟩ := r
  clear FL e1 e2 hb he
  have hkz : (l.length : Int) < (k : Int) := by omega
  go_enter Try.func65, Try.ntmps65
  go_wp2_with fail
  refine Calls.mono HF.out ?_
  rintro x w1 ⟨rfl, h1, h2⟩
  have H1 : Hid (RT _ _ _ _ _) := h1
  have H2 : Hid (KB _ _ _) := h2
  clear h1 h2 a0 a1 f0 f1
  go_wp2
  go_ret
  exact ⟨rfl, H1.out, H2.out⟩
theorem rtake_ok (w : World) (g h : Nat) (l : List UInt8) (k : Nat) (hk1 : 1 ≤ k) (hk8 : k ≤ 8) (hk : k ≤ l.length) (r : RT w g h l 0) :
    Calls Try.prog 65 #[.pointer (some ⟨g, 0, none⟩), .int .i64 (k : Int)] w (Rr w g h (.int .u64 ((valB (l.take k) : Nat) : Int)) (l.drop k) 0) := by
  obtain ⟨p, c, a0, a1, f0, f1, hl, hg, hb, he⟩ := r
  have hlne : l ≠ [] := by intro e; subst e; simp at hk; omega
  obtain ⟨o, rfl, hc⟩ := hb hlne
  have HC : Hid (∀ (i : Nat) x, l[i]? = some x → w.cell? ⟨h, o + i, none⟩ = some (.int .u8 (x.toNat : Int))) := hc
  have HR : Hid (RT (w.setCell ⟨g, 0, none⟩ (.slice (offA (some ⟨h, o, none⟩) c k) (l.length - k) (c - k))) g h (l.drop k) 0 ∧ KB g w (w.setCell ⟨g, 0, none⟩ (.slice (offA (some ⟨h, o, none⟩) c k) (l.length - k) (c - k)))) := by
    have hkb := KB.setCell g w 0 (.slice (offA (some ⟨h, o, none⟩) c k) (l.length - k) (c - k))
    refine ⟨⟨offA (some ⟨h, o, none⟩) c k, c - k, ?_, ?_, ?_, ?_, by rw [List.length_drop]; omega, hg, (hb.drop hl k).kb hkb hg, fun h => absurd rfl h⟩, hkb⟩
    · rw [World.cell?_setCell_same _ _ _ a0, List.length_drop]
    · rw [cell_other _ g 0 1 _ (by decide)]; exact a1
    · rw [World.frozen?_setCell]; exact f0
    · rw [World.frozen?_setCell]; exact f1
  have s1 := slice_from (some ⟨h, o, none⟩) l.length c k hk
  have hkz : ¬ ((l.length : Int) < (k : Int)) := by omega
  obtain ⟨L, hL⟩ : ∃ L, L = l.drop k := ⟨_, rfl⟩
  rw [← hL] at HR ⊢
  obtain ⟨V, hV⟩ : ∃ V, V = valB (l.take k) := ⟨_, rfl⟩
  have HVV : Hid (V = valB (l.take k)) := hV
  rw [← hV]
  clear hb he hc hlne hL hV
  go_enter Try.func65, Try.ntmps65
  go_wp2
  go_loop [5, 6] (fun x i => ∃ j X : Nat, j ≤ k ∧ i = .int .i64 j ∧ x = .int .u64 (X : Int) ∧ Hid (X = valB (l.take j))) (fun _ i => k - (intOf i).toNat)
  case atStart => exact ⟨0, 0, Nat.zero_le _, rfl, rfl, rfl⟩
  case round =>
    obtain ⟨j, X, hj, rfl, rfl, HXX⟩ := hrel
    by_cases hjk : j < k
    · have hjl : j < l.length := by omega
      have hx : l[j]? = some l[j] := List.getElem?_eq_getElem hjl
      generalize l[j] = b at hx
      have hcell := HC.out j b hx
      have HS : Hid (valB (l.take (j + 1)) = X * 256 + b.toNat) := by
        show _ = _
        rw [valB_take _ _ _ hx, HXX.out]
      have hXb : (X : Int) ≤ 72057594037927935 := by
        have h1 := valB_lt (l.take j)
        rw [← HXX.out, List.length_take] at h1
        have h2 : (256 : Nat) ^ min j l.length ≤ 256 ^ 7 := Nat.pow_le_pow_right (by decide) (by omega)
        have h3 : (256 : Nat) ^ 7 = 72057594037927936 := by decide +kernel
        omega
      have hbb : (b.toNat : Int) ≤ 255 := by have := b.toNat_lt; omega
      have hjz : (j : Int) < (l.length : Int) := by omega
      clear hx
      go_wp2
      go_round
      case rel => exact ⟨j + 1, X * 256 + b.toNat, by omega, by go_num, by go_num, HS.out.symm⟩
      case measure => simp [intOf]; omega
    · obtain rfl : j = k := by omega
      have hXV : X = V := by rw [HXX.out, HVV.out]
      subst hXV
      go_wp2
      go_ret
      exact ⟨rfl, HR.out⟩
/-- The error behind bytes that end too early. -/
def se (e : Int) : Int := if e = 0 then 4 else e
theorem se_ne (e : Int) : (se e != 0) = true ∧ (se e == 0) = false := by
  unfold se
  by_cases h : e = 0
  · rw [if_pos h]; exact ⟨rfl, rfl⟩
  · rw [if_neg h]; simp [h]
theorem rt_live {w : World} {g h : Nat} {l : List UInt8} {e : Int} (r : RT w g h l e) (hl : l ≠ []) : e = 0 := by
  obtain ⟨p, c, _, _, _, _, _, _, _, he⟩ := r
  rcases Classical.em (e = 0) with h0 | h0
  · exact h0
  · exact absurd (he h0) hl
theorem rtake_short' (w : World) (g h : Nat) (l : List UInt8) (e : Int) (k : Nat) (hk : l.length < k) (r : RT w g h l e) :
    Calls Try.prog 65 #[.pointer (some ⟨g, 0, none⟩), .int .i64 (k : Int)] w (Rr w g h (.int .u64 0) [] (se e)) := rtake_short w g h l e k hk r
theorem sInt_short (l : List UInt8) (e : Int) (h : l.length < 8) (hd : e ≠ 0 → l = []) : sInt l e = (0, [], se e) := by
  unfold sInt se
  rcases Classical.em (e = 0) with h0 | h0
  · rw [if_pos h0, if_pos h, if_pos h0]
  · rw [if_neg h0, if_neg h0, hd h0]
theorem sBits_short (l : List UInt8) (e : Int) (h : l.length < 8) (hd : e ≠ 0 → l = []) : sBits l e = (0, [], se e) := by
  unfold sBits se
  rcases Classical.em (e = 0) with h0 | h0
  · rw [if_pos h0, if_pos h, if_pos h0]
  · rw [if_neg h0, if_neg h0, hd h0]
theorem rt_nil {w : World} {g h : Nat} {l : List UInt8} {e : Int} (r : RT w g h l e) : e ≠ 0 → l = [] := by
  obtain ⟨p, c, _, _, _, _, _, _, _, he⟩ := r
  exact he
theorem rint_rt (w : World) (g h : Nat) (l : List UInt8) (e : Int) (r : RT w g h l e) :
    Calls Try.prog 85 #[.pointer (some ⟨g, 0, none⟩)] w (Rr w g h (.int .i64 (sInt l e).1) (sInt l e).2.1 (sInt l e).2.2) := by
  by_cases h8 : l.length < 8
  · rw [sInt_short l e h8 (rt_nil r)]
    have HT : Hid (Calls _ _ _ _ _) := rtake_short' w g h l e 8 h8 r
    have hs := (se_ne e).1
    generalize se e = ee at HT hs ⊢
    clear r
    dsimp only
    go_enter Try.func85, Try.ntmps85
    go_wp2_with fail
    refine Calls.mono HT.out ?_
    rintro x w1 ⟨rfl, h1, h2⟩
    have H1 : Hid (RT _ _ _ _ _) := h1
    have H2 : Hid (KB _ _ _) := h2
    obtain ⟨p1, c1, b0, b1, _, _, _, _, _, _⟩ := h1
    clear h2 b0
    go_wp2
    go_ret
    exact ⟨rfl, H1.out, H2.out⟩
  · obtain rfl : e = 0 := rt_live r (by intro e; subst e; simp at h8)
    have hk : sInt l 0 = ((valB (l.take 8) : Int) - 9223372036854775808, l.drop 8, 0) := by unfold sInt; rw [if_pos rfl, if_neg h8]
    rw [hk]
    dsimp only
    have HT : Hid (Calls _ _ _ _ _) := rtake_ok w g h l 8 (by omega) (by omega) (by omega) r
    have ht := turn_back (valB (l.take 8)) (val8_lt l)
    obtain ⟨V, hV⟩ : ∃ V : Int, (valB (l.take 8) : Int) - 9223372036854775808 = V := ⟨_, rfl⟩
    rw [hV] at ht ⊢
    have HTT : Hid (_ = V) := ht
    clear r hk hV ht
    go_enter Try.func85, Try.ntmps85
    go_wp2_with fail
    refine Calls.mono HT.out ?_
    rintro x w1 ⟨rfl, h1, h2⟩
    have H1 : Hid (RT _ _ _ _ _) := h1
    have H2 : Hid (KB _ _ _) := h2
    obtain ⟨p1, c1, b0, b1, _, _, _, _, _, _⟩ := h1
    clear h2 b0
    go_wp2
    go_ret
    exact ⟨ret_int HTT.out, H1.out, H2.out⟩
theorem rbits_rt (w : World) (g h : Nat) (l : List UInt8) (e : Int) (r : RT w g h l e) :
    Calls Try.prog 31 #[.pointer (some ⟨g, 0, none⟩)] w (Rr w g h (.int .u64 ((sBits l e).1 : Int)) (sBits l e).2.1 (sBits l e).2.2) := by
  by_cases h8 : l.length < 8
  · rw [sBits_short l e h8 (rt_nil r)]
    have HT : Hid (Calls _ _ _ _ _) := rtake_short' w g h l e 8 h8 r
    clear r
    dsimp only
    go_enter Try.func31, Try.ntmps31
    go_wp2_with fail
    refine Calls.mono HT.out ?_
    rintro x w1 ⟨rfl, h1, h2⟩
    have H1 : Hid (RT _ _ _ _ _) := h1
    have H2 : Hid (KB _ _ _) := h2
    obtain ⟨p1, c1, b0, b1, _, _, _, _, _, _⟩ := h1
    clear h2 b0
    go_wp2
    go_ret
    exact ⟨rfl, H1.out, H2.out⟩
  · obtain rfl : e = 0 := rt_live r (by intro e; subst e; simp at h8)
    have hk : sBits l 0 = (valB (l.take 8), l.drop 8, 0) := by unfold sBits; rw [if_pos rfl, if_neg h8]
    rw [hk]
    dsimp only
    have HT : Hid (Calls _ _ _ _ _) := rtake_ok w g h l 8 (by omega) (by omega) (by omega) r
    clear r hk
    go_enter Try.func31, Try.ntmps31
    go_wp2_with fail
    refine Calls.mono HT.out ?_
    rintro x w1 ⟨rfl, h1, h2⟩
    have H1 : Hid (RT _ _ _ _ _) := h1
    have H2 : Hid (KB _ _ _) := h2
    obtain ⟨p1, c1, b0, b1, _, _, _, _, _, _⟩ := h1
    clear h2 b0
    go_wp2
    go_ret
    exact ⟨rfl, H1.out, H2.out⟩
theorem sFlag_nil (e : Int) : sFlag [] e = (false, [], se e) := by
  unfold sFlag se
  by_cases h : e = 0
  · rw [if_pos h, if_pos h]
  · rw [if_neg h, if_neg h]
theorem rfirst (w : World) (g h : Nat) (b : UInt8) (t : List UInt8) (r : RT w g h (b :: t) 0) :
    Calls Try.prog 65 #[.pointer (some ⟨g, 0, none⟩), .int .i64 1] w (Rr w g h (.int .u64 (b.toNat : Int)) t 0) := by
  have h1 := rtake_ok w g h (b :: t) 1 (by omega) (by omega) (by simp) r
  have e : valB ((b :: t).take 1) = b.toNat := by simp [valB]
  rw [e] at h1
  simpa using h1
end Go.Proofs.Ytjmonkhkcmcfiaa
namespace Go.Proofs.Ytjmonkhkcmcfiaa
open Go.ChangeShapes Go.WideShapes Go.ChangeAt Go.RowKit
theorem nb_le (x k : Nat) (h : x < 256 ^ k) : nb x ≤ k := by
  rcases Classical.em (x = 0) with h0 | h0
  · subst h0; have : nb 0 = 0 := by decide
    omega
  · have h1 := nb_ge x h0
    rcases Nat.lt_or_ge k (nb x) with h2 | h2
    · have h3 : (2 : Nat) ^ (8 * k) ≤ 2 ^ (8 * (nb x - 1)) := Nat.pow_le_pow_right (by decide) (by omega)
      rw [← pow_256] at h3
      omega
    · exact h2
/-- The two tests of a number that could have been written in fewer bytes are one. -/
theorem long_iff (x k : Nat) (hk : 1 ≤ k) (hx : x < 256 ^ k) : (enc x).length ≤ k ↔ x < 240 ∨ nb x ≠ k := by
  have hn := nb_le x k hx
  unfold enc
  by_cases h : x < 240
  · rw [if_pos h]; simp [h]; omega
  · rw [if_neg h, List.length_cons, be_length]; simp only [h, false_or]; omega
theorem rnum_nil (w : World) (g h : Nat) (e m : Int) (r : RT w g h [] e) :
    Calls Try.prog 28 #[.pointer (some ⟨g, 0, none⟩), .int .i64 m] w (Rr w g h (.int .i64 0) [] (se e)) := by
  have HT : Hid (Calls _ _ _ _ _) := rtake_short' w g h [] e 1 (by simp) r
  have hs := (se_ne e).1
  generalize se e = ee at HT hs ⊢
  clear r
  go_enter Try.func28, Try.ntmps28
  go_wp2_with fail
  refine Calls.mono HT.out ?_
  rintro x w1 ⟨rfl, h1, h2⟩
  have R1 : Hid (RT _ _ _ _ _) := h1
  have K1 : Hid (KB _ _ _) := h2
  obtain ⟨p1, c1, z1, b1, _, _, _, _, _, _⟩ := h1
  clear h2 z1
  go_wp2
  go_ret
  exact ⟨rfl, R1.out, K1.out⟩
set_option maxRecDepth 100000 in
theorem rnum_one (w : World) (g h : Nat) (m : Int) (b : UInt8) (t : List UInt8) (hb : b.toNat < 240) (hm : ¬ m < (b.toNat : Int)) (r : RT w g h (b :: t) 0) : Calls Try.prog 28 #[.pointer (some ⟨g, 0, none⟩), .int .i64 m] w (Rr w g h (.int .i64 (b.toNat : Int)) t 0) := by
  have HT : Hid (Calls _ _ _ _ _) := rfirst w g h b t r
  have hbu : (b.toNat : Int) ≤ 255 := by have := b.toNat_lt; omega
  clear r
  have d0 : decide ((247 : Int) < (b.toNat : Int)) = false := decide_eq_false (by omega)
  have d1 : decide ((240 : Int) ≤ (b.toNat : Int)) = false := decide_eq_false (by omega)
  go_enter Try.func28, Try.ntmps28
  go_wp2_with fail
  refine Calls.mono HT.out ?_
  rintro x w1 ⟨rfl, h1, h2⟩
  have R1 : Hid (RT _ _ _ _ _) := h1
  have K1 : Hid (KB _ _ _) := h2
  obtain ⟨p1, c1, z1, b1, _, _, _, _, _, _⟩ := h1
  clear h2 z1
  go_wp2
  go_ret
  exact ⟨rfl, R1.out, K1.out⟩
set_option maxRecDepth 100000 in
theorem rnum_oneLong (w : World) (g h : Nat) (m : Int) (b : UInt8) (t : List UInt8) (hb : b.toNat < 240) (hm : m < (b.toNat : Int)) (r : RT w g h (b :: t) 0) : Calls Try.prog 28 #[.pointer (some ⟨g, 0, none⟩), .int .i64 m] w (Rr w g h (.int .i64 0) [] 5) := by
  have HT : Hid (Calls _ _ _ _ _) := rfirst w g h b t r
  have hbu : (b.toNat : Int) ≤ 255 := by have := b.toNat_lt; omega
  clear r
  have d0 : decide ((247 : Int) < (b.toNat : Int)) = false := decide_eq_false (by omega)
  have d1 : decide ((240 : Int) ≤ (b.toNat : Int)) = false := decide_eq_false (by omega)
  go_enter Try.func28, Try.ntmps28
  go_wp2_with fail
  refine Calls.mono HT.out ?_
  rintro x w1 ⟨rfl, h1, h2⟩
  have R1 : Hid (RT _ _ _ _ _) := h1
  have K1 : Hid (KB _ _ _) := h2
  obtain ⟨p1, c1, z1, b1, _, _, _, _, _, _⟩ := h1
  clear h2 z1
  go_wp2_with fail
  refine (rfail_rt w1 g h t 0 5 R1.out).mono ?_
  rintro x w2 ⟨rfl, h1, h2⟩
  have R2 : Hid (RT w2 g h [] 5) := h1
  have K2 : Hid (KB _ _ _) := h2
  clear h1 h2
  go_wp2
  go_ret
  exact ⟨rfl, R2.out, K1.out.trans K2.out⟩
set_option maxRecDepth 100000 in
theorem rnum_bad (w : World) (g h : Nat) (m : Int) (b : UInt8) (t : List UInt8) (hb : 247 < b.toNat) (r : RT w g h (b :: t) 0) : Calls Try.prog 28 #[.pointer (some ⟨g, 0, none⟩), .int .i64 m] w (Rr w g h (.int .i64 0) [] 3) := by
  have HT : Hid (Calls _ _ _ _ _) := rfirst w g h b t r
  have hbu : (b.toNat : Int) ≤ 255 := by have := b.toNat_lt; omega
  clear r
  have d0 : decide ((247 : Int) < (b.toNat : Int)) = true := decide_eq_true (by omega)
  go_enter Try.func28, Try.ntmps28
  go_wp2_with fail
  refine Calls.mono HT.out ?_
  rintro x w1 ⟨rfl, h1, h2⟩
  have R1 : Hid (RT _ _ _ _ _) := h1
  have K1 : Hid (KB _ _ _) := h2
  obtain ⟨p1, c1, z1, b1, _, _, _, _, _, _⟩ := h1
  clear h2 z1
  go_wp2_with fail
  refine (rfail_rt w1 g h t 0 3 R1.out).mono ?_
  rintro x w2 ⟨rfl, h1, h2⟩
  have R2 : Hid (RT w2 g h [] 3) := h1
  have K2 : Hid (KB _ _ _) := h2
  clear h1 h2
  go_wp2
  go_ret
  exact ⟨rfl, R2.out, K1.out.trans K2.out⟩
set_option maxRecDepth 100000 in
theorem rnum_short (w : World) (g h : Nat) (m : Int) (b : UInt8) (t : List UInt8) (k : Nat) (hk : b.toNat = 239 + k) (hk1 : 1 ≤ k) (hk8 : k ≤ 8) (hn : t.length < k) (r : RT w g h (b :: t) 0) : Calls Try.prog 28 #[.pointer (some ⟨g, 0, none⟩), .int .i64 m] w (Rr w g h (.int .i64 0) [] 4) := by
  have HT : Hid (Calls _ _ _ _ _) := rfirst w g h b t r
  have hbu : (b.toNat : Int) ≤ 255 := by have := b.toNat_lt; omega
  clear r
  have d0 : decide ((247 : Int) < (b.toNat : Int)) = false := decide_eq_false (by omega)
  have d1 : decide ((240 : Int) ≤ (b.toNat : Int)) = true := decide_eq_true (by omega)
  have hkz : (b.toNat : Int) - 239 = (k : Int) := by omega
  clear hk
  go_enter Try.func28, Try.ntmps28
  go_wp2_with fail
  refine Calls.mono HT.out ?_
  rintro x w1 ⟨rfl, h1, h2⟩
  have R1 : Hid (RT _ _ _ _ _) := h1
  have K1 : Hid (KB _ _ _) := h2
  obtain ⟨p1, c1, z1, b1, _, _, _, _, _, _⟩ := h1
  clear h2 z1
  go_wp2_with fail
  refine (rtake_short' w1 g h t 0 k hn R1.out).mono ?_
  rintro x w2 ⟨rfl, h1, h2⟩
  have R2 : Hid (RT w2 g h [] 4) := h1
  have K2 : Hid (KB _ _ _) := h2
  obtain ⟨p2, c2, z2, b2, _, _, _, _, _, _⟩ := h1
  clear h2 z2
  have b2' : w2.cell? ⟨g, 1, none⟩ = some (.int .i64 4) := b2
  clear b2 b1
  go_wp2
  go_ret
  exact ⟨rfl, R2.out, K1.out.trans K2.out⟩
set_option maxRecDepth 100000 in
theorem rnum_over (w : World) (g h : Nat) (m : Int) (b : UInt8) (t : List UInt8) (k : Nat) (hk : b.toNat = 239 + k) (hk1 : 1 ≤ k) (hk8 : k ≤ 8) (hn : k ≤ t.length) (x : Nat) (hx : valB (t.take k) = x) (ho : 9223372036854775807 < x) (r : RT w g h (b :: t) 0) : Calls Try.prog 28 #[.pointer (some ⟨g, 0, none⟩), .int .i64 m] w (Rr w g h (.int .i64 0) [] 3) := by
  have HT : Hid (Calls _ _ _ _ _) := rfirst w g h b t r
  have hbu : (b.toNat : Int) ≤ 255 := by have := b.toNat_lt; omega
  clear r
  have d0 : decide ((247 : Int) < (b.toNat : Int)) = false := decide_eq_false (by omega)
  have d1 : decide ((240 : Int) ≤ (b.toNat : Int)) = true := decide_eq_true (by omega)
  have hkz : (b.toNat : Int) - 239 = (k : Int) := by omega
  clear hk
  have HX : Hid (valB (t.take k) = x) := hx
  clear hx
  have d2 : decide ((9223372036854775807 : Int) < (x : Int)) = true := decide_eq_true (by omega)
  clear ho
  go_enter Try.func28, Try.ntmps28
  go_wp2_with fail
  refine Calls.mono HT.out ?_
  rintro x w1 ⟨rfl, h1, h2⟩
  have R1 : Hid (RT _ _ _ _ _) := h1
  have K1 : Hid (KB _ _ _) := h2
  obtain ⟨p1, c1, z1, b1, _, _, _, _, _, _⟩ := h1
  clear h2 z1
  go_wp2_with fail
  refine (rtake_ok w1 g h t k hk1 hk8 hn R1.out).mono ?_
  rw [HX.out]
  rintro x w2 ⟨rfl, h1, h2⟩
  have R2 : Hid (RT w2 g h (t.drop k) 0) := h1
  have K2 : Hid (KB _ _ _) := h2
  obtain ⟨p2, c2, z2, b2, _, _, _, _, _, _⟩ := h1
  clear h2 z2
  clear b1
  go_wp2_with fail
  refine (rfail_rt w2 g h (t.drop k) 0 3 R2.out).mono ?_
  rintro x w3 ⟨rfl, h1, h2⟩
  have R3 : Hid (RT w3 g h [] 3) := h1
  have K3 : Hid (KB _ _ _) := h2
  clear h1 h2
  go_wp2
  go_ret
  exact ⟨rfl, R3.out, (K1.out.trans K2.out).trans K3.out⟩
set_option maxRecDepth 100000 in
theorem rnum_few (w : World) (g h : Nat) (m : Int) (b : UInt8) (t : List UInt8) (k : Nat) (hk : b.toNat = 239 + k) (hk1 : 1 ≤ k) (hk8 : k ≤ 8) (hn : k ≤ t.length) (x : Nat) (hx : valB (t.take k) = x) (ho : x ≤ 9223372036854775807) (hs : x < 240) (r : RT w g h (b :: t) 0) : Calls Try.prog 28 #[.pointer (some ⟨g, 0, none⟩), .int .i64 m] w (Rr w g h (.int .i64 0) [] 3) := by
  have HT : Hid (Calls _ _ _ _ _) := rfirst w g h b t r
  have hbu : (b.toNat : Int) ≤ 255 := by have := b.toNat_lt; omega
  clear r
  have d0 : decide ((247 : Int) < (b.toNat : Int)) = false := decide_eq_false (by omega)
  have d1 : decide ((240 : Int) ≤ (b.toNat : Int)) = true := decide_eq_true (by omega)
  have hkz : (b.toNat : Int) - 239 = (k : Int) := by omega
  clear hk
  have HX : Hid (valB (t.take k) = x) := hx
  clear hx
  have d2 : decide ((9223372036854775807 : Int) < (x : Int)) = false := decide_eq_false (by omega)
  have hw : IntKind.i64.wrap (x : Int) = (x : Int) := by rw [IntKind.wrap_i64]; omega
  have hw2 : wrap64 (x : Int) = (x : Int) := by unfold wrap64; omega
  have HO : Hid (x < 9223372036854775808) := by show x < 9223372036854775808; omega
  clear ho
  have d3 : decide ((x : Int) < 240) = true := decide_eq_true (by omega)
  clear hs
  go_enter Try.func28, Try.ntmps28
  go_wp2_with fail
  refine Calls.mono HT.out ?_
  rintro x w1 ⟨rfl, h1, h2⟩
  have R1 : Hid (RT _ _ _ _ _) := h1
  have K1 : Hid (KB _ _ _) := h2
  obtain ⟨p1, c1, z1, b1, _, _, _, _, _, _⟩ := h1
  clear h2 z1
  go_wp2_with fail
  refine (rtake_ok w1 g h t k hk1 hk8 hn R1.out).mono ?_
  rw [HX.out]
  rintro x w2 ⟨rfl, h1, h2⟩
  have R2 : Hid (RT w2 g h (t.drop k) 0) := h1
  have K2 : Hid (KB _ _ _) := h2
  obtain ⟨p2, c2, z2, b2, _, _, _, _, _, _⟩ := h1
  clear h2 z2
  clear b1
  go_wp2_with fail
  refine (rfail_rt w2 g h (t.drop k) 0 3 R2.out).mono ?_
  rintro x w3 ⟨rfl, h1, h2⟩
  have R3 : Hid (RT w3 g h [] 3) := h1
  have K3 : Hid (KB _ _ _) := h2
  clear h1 h2
  go_wp2
  go_ret
  exact ⟨rfl, R3.out, (K1.out.trans K2.out).trans K3.out⟩
set_option maxRecDepth 100000 in
theorem rnum_long (w : World) (g h : Nat) (m : Int) (b : UInt8) (t : List UInt8) (k : Nat) (hk : b.toNat = 239 + k) (hk1 : 1 ≤ k) (hk8 : k ≤ 8) (hn : k ≤ t.length) (x : Nat) (hx : valB (t.take k) = x) (ho : x ≤ 9223372036854775807) (hs : ¬ x < 240) (hb : nb x ≠ k) (r : RT w g h (b :: t) 0) : Calls Try.prog 28 #[.pointer (some ⟨g, 0, none⟩), .int .i64 m] w (Rr w g h (.int .i64 0) [] 3) := by
  have HT : Hid (Calls _ _ _ _ _) := rfirst w g h b t r
  have hbu : (b.toNat : Int) ≤ 255 := by have := b.toNat_lt; omega
  clear r
  have d0 : decide ((247 : Int) < (b.toNat : Int)) = false := decide_eq_false (by omega)
  have d1 : decide ((240 : Int) ≤ (b.toNat : Int)) = true := decide_eq_true (by omega)
  have hkz : (b.toNat : Int) - 239 = (k : Int) := by omega
  clear hk
  have HX : Hid (valB (t.take k) = x) := hx
  clear hx
  have d2 : decide ((9223372036854775807 : Int) < (x : Int)) = false := decide_eq_false (by omega)
  have hw : IntKind.i64.wrap (x : Int) = (x : Int) := by rw [IntKind.wrap_i64]; omega
  have hw2 : wrap64 (x : Int) = (x : Int) := by unfold wrap64; omega
  have HO : Hid (x < 9223372036854775808) := by show x < 9223372036854775808; omega
  clear ho
  have d3 : decide ((x : Int) < 240) = false := decide_eq_false (by omega)
  have d4 : (((nb x : Nat) : Int) != (k : Int)) = true := by rw [bne_iff_ne]; omega
  clear hs hb
  go_enter Try.func28, Try.ntmps28
  go_wp2_with fail
  refine Calls.mono HT.out ?_
  rintro x w1 ⟨rfl, h1, h2⟩
  have R1 : Hid (RT _ _ _ _ _) := h1
  have K1 : Hid (KB _ _ _) := h2
  obtain ⟨p1, c1, z1, b1, _, _, _, _, _, _⟩ := h1
  clear h2 z1
  go_wp2_with fail
  refine (rtake_ok w1 g h t k hk1 hk8 hn R1.out).mono ?_
  rw [HX.out]
  rintro x w2 ⟨rfl, h1, h2⟩
  have R2 : Hid (RT w2 g h (t.drop k) 0) := h1
  have K2 : Hid (KB _ _ _) := h2
  obtain ⟨p2, c2, z2, b2, _, _, _, _, _, _⟩ := h1
  clear h2 z2
  clear b1
  go_wp2_with fail
  refine (bytes_calls x w2 HO.out).mono ?_
  rintro y u ⟨rfl, hw1⟩
  have hw3 := hw1.symm
  subst hw3
  go_wp2_with fail
  refine (rfail_rt w2 g h (t.drop k) 0 3 R2.out).mono ?_
  rintro x w3 ⟨rfl, h1, h2⟩
  have R3 : Hid (RT w3 g h [] 3) := h1
  have K3 : Hid (KB _ _ _) := h2
  clear h1 h2
  go_wp2
  go_ret
  exact ⟨rfl, R3.out, (K1.out.trans K2.out).trans K3.out⟩
set_option maxRecDepth 100000 in
theorem rnum_much (w : World) (g h : Nat) (m : Int) (b : UInt8) (t : List UInt8) (k : Nat) (hk : b.toNat = 239 + k) (hk1 : 1 ≤ k) (hk8 : k ≤ 8) (hn : k ≤ t.length) (x : Nat) (hx : valB (t.take k) = x) (ho : x ≤ 9223372036854775807) (hs : ¬ x < 240) (hb : nb x = k) (hm : m < (x : Int)) (r : RT w g h (b :: t) 0) : Calls Try.prog 28 #[.pointer (some ⟨g, 0, none⟩), .int .i64 m] w (Rr w g h (.int .i64 0) [] 5) := by
  have HT : Hid (Calls _ _ _ _ _) := rfirst w g h b t r
  have hbu : (b.toNat : Int) ≤ 255 := by have := b.toNat_lt; omega
  clear r
  have d0 : decide ((247 : Int) < (b.toNat : Int)) = false := decide_eq_false (by omega)
  have d1 : decide ((240 : Int) ≤ (b.toNat : Int)) = true := decide_eq_true (by omega)
  have hkz : (b.toNat : Int) - 239 = (k : Int) := by omega
  clear hk
  have HX : Hid (valB (t.take k) = x) := hx
  clear hx
  have d2 : decide ((9223372036854775807 : Int) < (x : Int)) = false := decide_eq_false (by omega)
  have hw : IntKind.i64.wrap (x : Int) = (x : Int) := by rw [IntKind.wrap_i64]; omega
  have hw2 : wrap64 (x : Int) = (x : Int) := by unfold wrap64; omega
  have HO : Hid (x < 9223372036854775808) := by show x < 9223372036854775808; omega
  clear ho
  have d3 : decide ((x : Int) < 240) = false := decide_eq_false (by omega)
  have d4 : (((nb x : Nat) : Int) != (k : Int)) = false := by rw [hb]; simp
  clear hs hb
  go_enter Try.func28, Try.ntmps28
  go_wp2_with fail
  refine Calls.mono HT.out ?_
  rintro x w1 ⟨rfl, h1, h2⟩
  have R1 : Hid (RT _ _ _ _ _) := h1
  have K1 : Hid (KB _ _ _) := h2
  obtain ⟨p1, c1, z1, b1, _, _, _, _, _, _⟩ := h1
  clear h2 z1
  go_wp2_with fail
  refine (rtake_ok w1 g h t k hk1 hk8 hn R1.out).mono ?_
  rw [HX.out]
  rintro x w2 ⟨rfl, h1, h2⟩
  have R2 : Hid (RT w2 g h (t.drop k) 0) := h1
  have K2 : Hid (KB _ _ _) := h2
  obtain ⟨p2, c2, z2, b2, _, _, _, _, _, _⟩ := h1
  clear h2 z2
  clear b1
  go_wp2_with fail
  refine (bytes_calls x w2 HO.out).mono ?_
  rintro y u ⟨rfl, hw1⟩
  have hw3 := hw1.symm
  subst hw3
  go_wp2_with fail
  refine (rfail_rt w2 g h (t.drop k) 0 5 R2.out).mono ?_
  rintro x w3 ⟨rfl, h1, h2⟩
  have R3 : Hid (RT w3 g h [] 5) := h1
  have K3 : Hid (KB _ _ _) := h2
  clear h1 h2
  go_wp2
  go_ret
  exact ⟨rfl, R3.out, (K1.out.trans K2.out).trans K3.out⟩
set_option maxRecDepth 100000 in
theorem rnum_ok (w : World) (g h : Nat) (m : Int) (b : UInt8) (t : List UInt8) (k : Nat) (hk : b.toNat = 239 + k) (hk1 : 1 ≤ k) (hk8 : k ≤ 8) (hn : k ≤ t.length) (x : Nat) (hx : valB (t.take k) = x) (ho : x ≤ 9223372036854775807) (hs : ¬ x < 240) (hb : nb x = k) (hm : ¬ m < (x : Int)) (r : RT w g h (b :: t) 0) : Calls Try.prog 28 #[.pointer (some ⟨g, 0, none⟩), .int .i64 m] w (Rr w g h (.int .i64 (x : Int)) (t.drop k) 0) := by
  have HT : Hid (Calls _ _ _ _ _) := rfirst w g h b t r
  have hbu : (b.toNat : Int) ≤ 255 := by have := b.toNat_lt; omega
  clear r
  have d0 : decide ((247 : Int) < (b.toNat : Int)) = false := decide_eq_false (by omega)
  have d1 : decide ((240 : Int) ≤ (b.toNat : Int)) = true := decide_eq_true (by omega)
  have hkz : (b.toNat : Int) - 239 = (k : Int) := by omega
  clear hk
  have HX : Hid (valB (t.take k) = x) := hx
  clear hx
  have d2 : decide ((9223372036854775807 : Int) < (x : Int)) = false := decide_eq_false (by omega)
  have hw : IntKind.i64.wrap (x : Int) = (x : Int) := by rw [IntKind.wrap_i64]; omega
  have hw2 : wrap64 (x : Int) = (x : Int) := by unfold wrap64; omega
  have HO : Hid (x < 9223372036854775808) := by show x < 9223372036854775808; omega
  clear ho
  have d3 : decide ((x : Int) < 240) = false := decide_eq_false (by omega)
  have d4 : (((nb x : Nat) : Int) != (k : Int)) = false := by rw [hb]; simp
  clear hs hb
  go_enter Try.func28, Try.ntmps28
  go_wp2_with fail
  refine Calls.mono HT.out ?_
  rintro x w1 ⟨rfl, h1, h2⟩
  have R1 : Hid (RT _ _ _ _ _) := h1
  have K1 : Hid (KB _ _ _) := h2
  obtain ⟨p1, c1, z1, b1, _, _, _, _, _, _⟩ := h1
  clear h2 z1
  go_wp2_with fail
  refine (rtake_ok w1 g h t k hk1 hk8 hn R1.out).mono ?_
  rw [HX.out]
  rintro x w2 ⟨rfl, h1, h2⟩
  have R2 : Hid (RT w2 g h (t.drop k) 0) := h1
  have K2 : Hid (KB _ _ _) := h2
  obtain ⟨p2, c2, z2, b2, _, _, _, _, _, _⟩ := h1
  clear h2 z2
  clear b1
  go_wp2_with fail
  refine (bytes_calls x w2 HO.out).mono ?_
  rintro y u ⟨rfl, hw1⟩
  have hw3 := hw1.symm
  subst hw3
  go_wp2
  go_ret
  exact ⟨rfl, R2.out, K1.out.trans K2.out⟩
end Go.Proofs.Ytjmonkhkcmcfiaa
namespace Go.Proofs.Ytjmonkhkcmcfiaa
open Go.ChangeShapes Go.WideShapes Go.ChangeAt Go.RowKit
theorem sNum_nil (m e : Int) : sNum m [] e = (0, [], se e) := by
  unfold sNum se
  by_cases h : e = 0
  · rw [if_pos h, if_pos h]; rfl
  · rw [if_neg h, if_neg h]
theorem sNum_of (m : Int) (l t : List UInt8) (n : Nat) (h : sNumber l = (n, t, 0)) : sNum m l 0 = if m < (n : Int) then (0, [], 5) else ((n : Int), t, 0) := by
  unfold sNum
  rw [if_pos rfl, h]
  dsimp only
  rw [if_pos rfl]
theorem sNum_errR (m : Int) (l : List UInt8) (x : Int) (hx : x ≠ 0) (h : sNumber l = (0, [], x)) : sNum m l 0 = (0, [], x) := by
  unfold sNum
  rw [if_pos rfl, h]
  dsimp only
  rw [if_neg hx]
theorem rnum_rt (w : World) (g h : Nat) (l : List UInt8) (e m : Int) (r : RT w g h l e) :
    Calls Try.prog 28 #[.pointer (some ⟨g, 0, none⟩), .int .i64 m] w (Rr w g h (.int .i64 (sNum m l e).1) (sNum m l e).2.1 (sNum m l e).2.2) := by
  cases l with
  | nil =>
    rw [sNum_nil]
    exact rnum_nil w g h e m r
  | cons b t =>
    obtain rfl : e = 0 := rt_live r (by simp)
    by_cases h1 : b.toNat < 240
    · have hs : sNumber (b :: t) = (b.toNat, t, 0) := by unfold sNumber; dsimp only; rw [if_pos h1]
      rw [sNum_of m _ _ _ hs]
      by_cases hm : m < (b.toNat : Int)
      · rw [if_pos hm]; exact rnum_oneLong w g h m b t h1 hm r
      · rw [if_neg hm]; exact rnum_one w g h m b t h1 hm r
    · by_cases h2 : 247 < b.toNat
      · have hs : sNumber (b :: t) = (0, [], 3) := by unfold sNumber; dsimp only; rw [if_neg h1, if_pos h2]
        rw [sNum_errR m _ 3 (by decide) hs]
        exact rnum_bad w g h m b t h2 r
      · obtain ⟨k, hk⟩ : ∃ k, b.toNat = 239 + k := ⟨b.toNat - 239, by omega⟩
        have hk' : b.toNat - 239 = k := by omega
        have k1 : 1 ≤ k := by omega
        have k8 : k ≤ 8 := by omega
        by_cases h3 : t.length < k
        · have hs : sNumber (b :: t) = (0, [], 4) := by unfold sNumber; dsimp only; rw [if_neg h1, if_neg h2, hk', if_pos h3]
          rw [sNum_errR m _ 4 (by decide) hs]
          exact rnum_short w g h m b t k hk k1 k8 h3 r
        · have hn : k ≤ t.length := Nat.le_of_not_lt h3
          obtain ⟨x, hx⟩ : ∃ x, valB (t.take k) = x := ⟨_, rfl⟩
          have hxl : x < 256 ^ k := by
            have := valB_lt (t.take k)
            rw [hx, List.length_take, Nat.min_eq_left hn] at this
            exact this
          have hl := long_iff x k k1 hxl
          by_cases h4 : 9223372036854775807 < x
          · have hs : sNumber (b :: t) = (0, [], 3) := by unfold sNumber; dsimp only; rw [if_neg h1, if_neg h2, hk', if_neg h3, hx, if_pos (.inl h4)]
            rw [sNum_errR m _ 3 (by decide) hs]
            exact rnum_over w g h m b t k hk k1 k8 hn x hx h4 r
          · have h4' : x ≤ 9223372036854775807 := Nat.le_of_not_lt h4
            by_cases h5 : (enc x).length ≤ k
            · have hs : sNumber (b :: t) = (0, [], 3) := by unfold sNumber; dsimp only; rw [if_neg h1, if_neg h2, hk', if_neg h3, hx, if_pos (.inr h5)]
              rw [sNum_errR m _ 3 (by decide) hs]
              by_cases h6 : x < 240
              · exact rnum_few w g h m b t k hk k1 k8 hn x hx h4' h6 r
              · have h7 : nb x ≠ k := by
                  rcases hl.1 h5 with h | h
                  · exact absurd h h6
                  · exact h
                exact rnum_long w g h m b t k hk k1 k8 hn x hx h4' h6 h7 r
            · have h6 : ¬ x < 240 := fun h => h5 (hl.2 (.inl h))
              have h7 : nb x = k := Classical.byContradiction fun h => h5 (hl.2 (.inr h))
              have hs : sNumber (b :: t) = (x, t.drop k, 0) := by
                unfold sNumber
                dsimp only
                rw [if_neg h1, if_neg h2, hk', if_neg h3, hx, if_neg]
                intro h
                rcases h with h | h
                · exact h4 h
                · exact h5 h
              rw [sNum_of m _ _ _ hs]
              by_cases hm : m < (x : Int)
              · rw [if_pos hm]; exact rnum_much w g h m b t k hk k1 k8 hn x hx h4' h6 h7 hm r
              · rw [if_neg hm]; exact rnum_ok w g h m b t k hk k1 k8 hn x hx h4' h6 h7 hm r
theorem rtext_rt (w : World) (g h : Nat) (l : List UInt8) (e m : Int) (r : RT w g h l e) :
    Calls Try.prog 29 #[.pointer (some ⟨g, 0, none⟩), .int .i64 m] w (Rr w g h (.string (str (sText m l e).1)) (sText m l e).2.1 (sText m l e).2.2) := by
  have NC := rnum_rt w g h l e m r
  have n0 := sNum_nat m l e
  unfold sText
  generalize (sNum m l e).1 = n at NC n0 ⊢
  generalize (sNum m l e).2.1 = l1 at NC ⊢
  generalize (sNum m l e).2.2 = e1 at NC ⊢
  obtain ⟨k, rfl⟩ := Int.eq_ofNat_of_zero_le n0
  rw [Int.toNat_natCast]
  have HN : Hid (Calls _ _ _ _ _) := NC
  clear NC n0 r
  rcases Classical.em (e1 = 0) with h0 | h0
  · subst h0
    rw [if_pos rfl]
    by_cases hk : l1.length < k
    · rw [if_pos hk]
      dsimp only
      have hkz : (l1.length : Int) < (k : Int) := by omega
      go_enter Try.func29, Try.ntmps29
      go_wp2_with fail
      refine Calls.mono HN.out ?_
      rintro x w1 ⟨rfl, h1, h2⟩
      have R1 : Hid (RT w1 g h l1 0) := h1
      have K1 : Hid (KB g w w1) := h2
      obtain ⟨p1, c1, z1, b1, _, _, _, _, _, _⟩ := h1
      clear h2
      go_wp2_with fail
      refine (rfail_rt w1 g h l1 0 4 R1.out).mono ?_
      rintro x w2 ⟨rfl, h1, h2⟩
      have R2 : Hid (RT w2 g h [] 4) := h1
      have K2 : Hid (KB _ _ _) := h2
      obtain ⟨p2, c2, z2, b2, _, _, _, _, _, _⟩ := R2.out
      clear h1 h2 z1 b1
      go_wp2
      go_ret
      exact ⟨rfl, R2.out, K1.out.trans K2.out⟩
    · rw [if_neg hk]
      dsimp only
      have hkz : ¬ (l1.length : Int) < (k : Int) := by omega
      go_enter Try.func29, Try.ntmps29
      go_wp2_with fail
      refine Calls.mono HN.out ?_
      rintro x w1 ⟨rfl, h1, h2⟩
      have K1 : Hid (KB g w w1) := h2
      obtain ⟨p1, c1, z1, b1, f0, f1, hl, hg, hb, he⟩ := h1
      have s1 := slice_from p1 l1.length c1 k (by omega)
      have s2 := slice_head p1 l1.length c1 k (by omega)
      have hlen : (l1.take k).length = k := by rw [List.length_take]; omega
      have hh : HBk w1 h (headA p1 c1) (l1.take k) := by
        intro hne
        obtain ⟨o, ho, hc⟩ := hb.take k hne
        have hk0 : k ≠ 0 := by intro e; subst e; simp at hne
        refine ⟨o, ?_, hc⟩
        unfold headA at ho ⊢
        rw [if_neg hk0] at ho
        rw [if_neg (by omega)]
        exact ho
      have hcv := conv_string w1 (headA p1 c1) c1 (l1.take k) (hh.holds c1)
      rw [hlen, str_nums] at hcv
      have HR : Hid (RT (w1.setCell ⟨g, 0, none⟩ (.slice (offA p1 c1 k) (l1.length - k) (c1 - k))) g h (l1.drop k) 0 ∧ KB g w1 (w1.setCell ⟨g, 0, none⟩ (.slice (offA p1 c1 k) (l1.length - k) (c1 - k)))) := by
        have hkb := KB.setCell g w1 0 (.slice (offA p1 c1 k) (l1.length - k) (c1 - k))
        refine ⟨⟨offA p1 c1 k, c1 - k, ?_, ?_, ?_, ?_, by rw [List.length_drop]; omega, hg, (hb.drop hl k).kb hkb hg, fun h => absurd rfl h⟩, hkb⟩
        · rw [World.cell?_setCell_same _ _ _ z1, List.length_drop]
        · rw [cell_other _ g 0 1 _ (by decide)]; exact b1
        · rw [World.frozen?_setCell]; exact f0
        · rw [World.frozen?_setCell]; exact f1
      clear h2 hb hh hlen he
      go_wp2
      go_ret
      exact ⟨rfl, HR.out.1, K1.out.trans HR.out.2⟩
  · rw [if_neg h0]
    dsimp only
    have he1 : (e1 == 0) = false := by simpa using h0
    have he2 : (e1 != 0) = true := by simpa using h0
    clear h0
    go_enter Try.func29, Try.ntmps29
    go_wp2_with fail
    refine Calls.mono HN.out ?_
    rintro x w1 ⟨rfl, h1, h2⟩
    have R1 : Hid (RT w1 g h l1 e1) := h1
    have K1 : Hid (KB g w w1) := h2
    obtain ⟨p1, c1, z1, b1, _, _, _, _, _, _⟩ := h1
    clear h2
    go_wp2
    go_ret
    exact ⟨rfl, R1.out, K1.out⟩
theorem copied_all (v : Value) (l : List UInt8) (w : World) (hv : Lib.HoldsBytes w v l) (hl : l.length ≤ 140737488355328) :
    Calls Try.prog 50 #[v] w fun e w' => ∃ v', e = .returned v' ∧ Own w.heap.size w' v' l ∧ Below w.heap.size w w' := by
  obtain ⟨p, cap, rfl, h1, h2⟩ := hv
  obtain ⟨i0, hi, hz0, hz1, hz2⟩ := info_parts Try.info5
  cases p with
  | none =>
    have hn : l = [] := h1 rfl
    subst hn
    clear h1 h2 hl
    go_enter Try.func50, Try.ntmps50
    go_wp2
    go_ret
    exact ⟨_, rfl, World.ownsRow_nil _ _ _ _, Below.refl _ _⟩
  | some a =>
    have HC : Hid (∀ (i : Nat) x, l[i]? = some x → w.cell? (a.add i) = some (.int .u8 (x.toNat : Int))) := h2 a rfl
    clear h1 h2
    go_enter Try.func50, Try.ntmps50
    go_wp2_with (at_builtin; refine wpList_append_own _ rfl _ _ 32 rfl w.heap.size 5 i0 (.int .u8 0) 1 1 Try.underlying32 hi hz0 hz1 hz2 rfl (by decide) _ _ _ rfl (World.ownsRow_nil _ _ _ _) a l.length cap (bval l) rfl ?qc1 ?qc2 ?qc3 ?qc4 ?qc5 ?qc6 ?_)
    case qc1 => simp [bval]
    case qc2 =>
      intro j u hj
      unfold bval at hj
      rw [List.getElem?_map] at hj
      obtain ⟨x, hx, rfl⟩ := Option.map_eq_some_iff.1 hj
      exact HC.out j x hx
    case qc3 => intro u hu; obtain ⟨x, _, rfl⟩ := List.mem_map.1 hu; rfl
    case qc4 => unfold maxLen; omega
    case qc5 => omega
    case qc6 => exact Nat.le_refl _
    intro v' w1 hown hgrow hnil
    go_wp2
    go_ret
    refine ⟨v', rfl, by simpa [Own] using hown, ?_⟩
    exact (Below.refl _ w).grown hgrow (Nat.le_refl _) (by intro k hk; simp [Value.ownBlock] at hk)
theorem ropen_world (w w1 : World) (v1 : Value) (l : List UInt8) (ho : Own w.heap.size w1 v1 l) (hs : w.heap.size ≤ w1.heap.size) :
    ∃ p c h, v1 = .slice p l.length c ∧ w.heap.size ≤ h ∧ RT (w1.alloc (.cells #[.slice p l.length c, .int .i64 0] 116)) w1.heap.size h l 0 := by
  have hb := below_alloc w1
  have h0 : w1.ownsRow w.heap.size 5 1 v1 l.length (bval l) := ho
  have mk : ∀ p c h, l.length ≤ c → h ≠ w1.heap.size → HBk (w1.alloc (.cells #[.slice p l.length c, .int .i64 0] 116)) h p l → RT (w1.alloc (.cells #[.slice p l.length c, .int .i64 0] 116)) w1.heap.size h l 0 := by
    intro p c h hlc hne hk
    refine ⟨p, c, ?_, ?_, ?_, ?_, hlc, hne, hk, fun h => absurd rfl h⟩
    all_goals simp
  rcases h0.2 with ⟨rfl, hn⟩ | ⟨g, cap, cur, rfl, hg, hheap, hle, _⟩
  · have hl : l = [] := List.eq_nil_of_length_eq_zero hn
    subst hl
    exact ⟨none, 0, w1.heap.size + 1, rfl, by omega, mk none 0 _ (Nat.le_refl _) (by omega) (HBk.nil _ _ _)⟩
  · have hlt : g < w1.heap.size := by
      rcases Nat.lt_or_ge g w1.heap.size with h | h
      · exact h
      · rw [Array.getElem?_eq_none h] at hheap
        cases hheap
    refine ⟨some ⟨g, 0, none⟩, cap, g, rfl, hg, mk _ _ _ hle (by omega) ?_⟩
    intro _
    refine ⟨0, rfl, ?_⟩
    intro i x hx
    have hi : i < l.length := (List.getElem?_eq_some_iff.1 hx).1
    have hc := h0.cellAt i (by omega)
    rw [Nat.zero_add]
    refine Lib.Below.cellOf (hb _) ?_ (Nat.le_refl _)
    rw [hc]
    simp [bval, hx]
/-- Open: a reader of the bytes as they are now. -/
theorem ropen_calls (v : Value) (l : List UInt8) (w : World) (hv : Lib.HoldsBytes w v l) (hl : l.length ≤ 140737488351232) :
    Calls Try.prog 27 #[v] w fun e w' => ∃ g h, e = .returned (.pointer (some ⟨g, 0, none⟩)) ∧ w.heap.size ≤ g ∧ w.heap.size ≤ h ∧ RT w' g h l 0 ∧ Below w.heap.size w w' := by
  have HV : Hid (Lib.HoldsBytes w v l) := hv
  have HL : Hid (l.length ≤ 140737488355328) := by show l.length ≤ 140737488355328; omega
  obtain ⟨p, cap, rfl, q1, q2⟩ := hv
  clear q1 q2 hl
  go_enter Try.func27, Try.ntmps27
  go_wp2_with fail
  refine (copied_all _ _ _ HV.out HL.out).mono ?_
  rintro e w1 ⟨v1, rfl, ho, hb⟩
  obtain ⟨p1, c1, h, rfl, k1, k2⟩ := ropen_world w w1 v1 l ho hb.size
  have K1 : Hid (w.heap.size ≤ h) := k1
  have K2 : Hid (RT _ _ _ _ _) := k2
  have HB : Hid (Below w.heap.size w w1) := hb
  clear ho hb k1 k2
  go_wp2
  go_ret
  exact ⟨_, h, rfl, HB.out.size, K1.out, K2.out, HB.out.alloc HB.out.size _⟩
end Go.Proofs.Ytjmonkhkcmcfiaa
namespace Go.Proofs.Ytjmonkhkcmcfiaa
open Go.ChangeShapes Go.WideShapes Go.ChangeAt Go.RowKit
open FM
theorem andNot_top (x : Nat) (hx : x < 18446744073709551616) : bits BinOp.andNot IntKind.u64 (x : Int) 9223372036854775808 = (rg x : Nat) := by
  rw [u64_andNot _ _ (by omega) (by omega) (by omega) (by omega)]
  have e : (18446744073709551615 - (9223372036854775808 : Int).toNat) = 2 ^ 63 - 1 := by decide +kernel
  rw [e, Int.toNat_natCast, Nat.and_two_pow_sub_one_eq_mod]
  rfl
theorem neg_wrap (x : Nat) (hx : x < 18446744073709551616) : decide (wrap64 (x : Int) < 0) = neg x := by
  unfold neg wrap64
  by_cases h : x < 9223372036854775808
  · have e1 : x / 9223372036854775808 % 2 = 0 := by omega
    rw [e1]; simp; omega
  · have e1 : x / 9223372036854775808 % 2 = 1 := by omega
    rw [e1]; simp; omega
theorem emod_top (x : Nat) : ((x : Int) % 9223372036854775808) = (rg x : Nat) := by unfold rg; omega
def isI (x : Nat) : Bool := decide (rg x = 9218868437227405312)
def isZ (x : Nat) : Bool := decide (rg x = 0)
def isS (x : Nat) : Bool := decide (rg x < 4503599627370496)
theorem eql_inf (x : Nat) : (((rg x : Nat) : Int) == 9218868437227405312) = isI x := by
    unfold isI; rw [Bool.eq_iff_iff, beq_iff_eq, decide_eq_true_eq]; omega
theorem eql_zero (x : Nat) : (((rg x : Nat) : Int) == 0) = isZ x := by
    unfold isZ; rw [Bool.eq_iff_iff, beq_iff_eq, decide_eq_true_eq]; omega
theorem lss_sub (x : Nat) : (decide (((rg x : Nat) : Int) < 4503599627370496)) = isS x := by
    unfold isS; rw [Bool.eq_iff_iff, decide_eq_true_eq, decide_eq_true_eq]; omega
attribute [local go_sem] o_eq o_lt o_gt o_ne frombits emod_top eql_inf eql_zero lss_sub
def kd (x : Nat) : Int := if isN x then 1 else if isI x then 2 else if isZ x then 3 else if isS x then 4 else 5
theorem key_pos (r : Nat) (h : r < 9223372036854775808) : key r = (r : Int) := by
  unfold key neg rg
  have e : r / 9223372036854775808 % 2 = 0 := by omega
  rw [e]; simp; omega
theorem rg_lt (x : Nat) : rg x < 9223372036854775808 := by unfold rg; omega
theorem isN_rg (x : Nat) : isN (rg x) = isN x := by unfold isN rg; simp
theorem isN_small (r : Nat) (h : r ≤ 9218868437227405312) : isN r = false := by unfold isN; simp; omega
theorem k_nan (x : Nat) (h : isN x = true) : isN (rg x) = true := by rw [isN_rg, h]
theorem k_inf (x : Nat) (h : isN x = false) : fLt 9218868437227405311 (rg x) = isI x := by
  have e : isN (rg x) = false := by rw [isN_rg, h]
  unfold fLt isI
  rw [isN_small 9218868437227405311 (by omega), e, key_pos _ (by omega), key_pos _ (rg_lt x)]
  unfold isN at h; simp at h
  have hr : rg x = x % 9223372036854775808 := rfl
  simp; omega
theorem k_zero (x : Nat) (h : isN x = false) : fEq (rg x) 0 = isZ x := by
  have e : isN (rg x) = false := by rw [isN_rg, h]
  unfold fEq isZ
  rw [isN_small 0 (by omega), e, key_pos 0 (by omega), key_pos _ (rg_lt x)]
  simp
theorem k_sub (x : Nat) (h : isN x = false) : fLt (rg x) 4503599627370496 = isS x := by
  have e : isN (rg x) = false := by rw [isN_rg, h]
  unfold fLt isS
  rw [isN_small 4503599627370496 (by omega), e, key_pos 4503599627370496 (by omega), key_pos _ (rg_lt x)]
  simp; omega
end Go.Proofs.Ytjmonkhkcmcfiaa
namespace Go.Proofs.Ytjmonkhkcmcfiaa
open Go.ChangeShapes Go.WideShapes Go.ChangeAt Go.RowKit
open FM
attribute [local go_sem] o_eq o_lt o_gt o_ne frombits
/-- standsBelow's answer. -/
def sb (x y : Nat) : Bool := if isN x then false else if isN y then true else if fEq x y then neg x else fLt x y
/-- Order's answer, as the code has it. -/
def oc (a b : Nat) : Int := if (cn a : Int) == (cn b : Int) then 0 else if sb (cn a) (cn b) then -1 else 1
theorem cn_lt (x : Nat) (h : x < 18446744073709551616) : cn x < 18446744073709551616 := by unfold cn; split <;> omega
theorem ret_intF {k : IntKind} {a b : Int} (h : a = b) : Ending.returned (.int k a) = .returned (.int k b) := by rw [h]
/-- The reference's order, as its code has it. -/
def ro (a b : Nat) : Int :=
  if isN a then (if isN b then 0 else 1) else if isN b then -1 else
  if fLt a b then -1 else
  if fEq a 0 && fEq b 0 then (if (b : Int) < (a : Int) then -1 else if (a : Int) < (b : Int) then 1 else 0) else
  if fLt b a then 1 else 0
theorem zero_lt (a b : Nat) (h1 : fEq a 0 = true) (h2 : fEq b 0 = true) : fLt a b = false := by
  unfold fEq at h1 h2; unfold fLt
  simp at h1 h2
  simp; intros; omega
end Go.Proofs.Ytjmonkhkcmcfiaa
namespace Go.Proofs.Ytjmonkhkcmcfiaa
open Go.ChangeShapes Go.WideShapes Go.ChangeAt Go.RowKit
/-- The reference's reader stays, while its two blocks do. -/
theorem RT.keep {w w' : World} {g h : Nat} {l : List UInt8} {e : Int} (r : RT w g h l e) (h1 : w'.heap[g]? = w.heap[g]?) (h2 : w'.heap[h]? = w.heap[h]?) : RT w' g h l e := by
  have fg : ∀ o, w'.cell? ⟨g, o, none⟩ = w.cell? ⟨g, o, none⟩ := fun o => World.cell?_of_block h1
  have fh : ∀ o, w'.cell? ⟨h, o, none⟩ = w.cell? ⟨h, o, none⟩ := fun o => World.cell?_of_block h2
  have zg : ∀ o, w'.frozen? ⟨g, o, none⟩ = w.frozen? ⟨g, o, none⟩ := fun o => World.frozen?_of_block h1
  obtain ⟨p, c, a0, a1, f0, f1, hl, hg, hb, he⟩ := r
  refine ⟨p, c, (fg 0).trans a0, (fg 1).trans a1, (zg 0).trans f0, (zg 1).trans f1, hl, hg, fun hne => ?_, he⟩
  obtain ⟨o, hp, hcell⟩ := hb hne
  exact ⟨o, hp, fun i x hx => (fh _).trans (hcell i x hx)⟩
theorem RT.lt {w : World} {g h : Nat} {l : List UInt8} {e : Int} (r : RT w g h l e) : g < w.heap.size := by
  obtain ⟨p, c, a0, _⟩ := r
  exact World.block_lt_of_cell? w ⟨g, 0, none⟩ a0
/-- What reading a value leaves, of the reference's reader. -/
def RdX (w : World) (g h n : Nat) (r : Tv × List UInt8 × Int) (x : Ending) (w' : World) : Prop :=
  ∃ v, x = .returned v ∧ IsN w.heap.size w' n v r.1 ∧ RT w' g h r.2.1 r.2.2 ∧ KB g w w'
/-- The same; behind an error some value. -/
def RdQ (w : World) (g h n : Nat) (r : Tv × List UInt8 × Int) (x : Ending) (w' : World) : Prop :=
  ∃ v t, x = .returned v ∧ IsN w.heap.size w' n v t ∧ (r.2.2 = 0 → t = r.1) ∧ RT w' g h r.2.1 r.2.2 ∧ KB g w w'
def ReadR (f : List UInt8 → Int → Tv × List UInt8 × Int) (d n : Nat) : Prop := ∀ (w : World) (g h : Nat) (l : List UInt8) (e : Int), RT w g h l e → h < w.heap.size →
    Calls Try.prog 68 #[.pointer (some ⟨g, 0, none⟩), .int .i64 (d : Int)] w (RdQ w g h n (f l e))
theorem RdX.q {w : World} {g h n : Nat} {r : Tv × List UInt8 × Int} {x : Ending} {w' : World} (hx : RdX w g h n r x w') : RdQ w g h n r x w' := by
  obtain ⟨v, e, i, s, k⟩ := hx
  exact ⟨v, _, e, i, fun _ => rfl, s, k⟩
/-- The world while a value is read: its result's box, its own box at q, and the reader. -/
structure MidR (w W : World) (g h q : Nat) (l : List UInt8) (e : Int) (c0 c1 c2 c3 c4 : Value) : Prop where
  q0 : w.heap.size < q
  q1 : q < W.heap.size
  gw : g < w.heap.size
  hw : h < w.heap.size
  res : At5 W w.heap.size 0 (.int .i64 0) (.int .i64 0) (.int .u64 0) (.string ⟨#[]⟩) (.slice none 0 0)
  rfr : ∀ o, W.frozen? ⟨w.heap.size, o, none⟩ = false
  own : At5 W q 0 c0 c1 c2 c3 c4
  ofr : ∀ o, W.frozen? ⟨q, o, none⟩ = false
  st : RT W g h l e
  kb : KB g w W
theorem MidR.step {w W w' : World} {g h q : Nat} {l l' : List UInt8} {e e' : Int} {c0 c1 c2 c3 c4 : Value} (m : MidR w W g h q l e c0 c1 c2 c3 c4) (s : RT w' g h l' e') (k : KB g W w') : MidR w w' g h q l' e' c0 c1 c2 c3 c4 := by
  have a := m.q0
  have b := m.q1
  have c := m.gw
  refine ⟨a, Nat.lt_of_lt_of_le b k.2.2.2.1, c, m.hw, m.res.kb k (by omega), fun o => (k.frozen (a := ⟨w.heap.size, o, none⟩) (show w.heap.size < W.heap.size by omega) (show w.heap.size ≠ g by omega)).trans (m.rfr o), m.own.kb k (by omega), fun o => (k.frozen (a := ⟨q, o, none⟩) b (show q ≠ g by omega)).trans (m.ofr o), s, m.kb.trans k⟩
/-- What of a store into the own box holds whatever field it is. -/
theorem MidR.put {w W : World} {g h q i : Nat} {l : List UInt8} {e : Int} {c0 c1 c2 c3 c4 d0 d1 d2 d3 d4 : Value} (m : MidR w W g h q l e c0 c1 c2 c3 c4) (u : Value) (h5 : At5 (W.setCell ⟨q, i, none⟩ u) q 0 d0 d1 d2 d3 d4) : MidR w (W.setCell ⟨q, i, none⟩ u) g h q l e d0 d1 d2 d3 d4 := by
  have a := m.q0
  have b := m.q1
  have c := m.gw
  have d := m.hw
  have hb : ∀ B, B ≠ q → (W.setCell ⟨q, i, none⟩ u).heap[B]? = W.heap[B]? := fun B hB => Below.heap_setCell _ _ _ _ hB
  have hsz : (W.setCell ⟨q, i, none⟩ u).heap.size = W.heap.size := by simp [World.setCell]
  exact ⟨a, by rw [hsz]; exact b, c, d, m.res.keepB (hb _ (by omega)), fun o => (World.frozen?_setCell _ _ _ _).trans (m.rfr o), h5, fun o => (World.frozen?_setCell _ _ _ _).trans (m.ofr o), m.st.keep (hb g (by omega)) (hb h (by omega)), kb_below m.kb ((KB.setCell q W i u).below (by omega) (by omega))⟩
/-- The beginning: two boxes. -/
theorem MidR.first {w w1 : World} {g h : Nat} {l : List UInt8} {e : Int} (k : Int) (hg : g < w.heap.size) (hh : h < w.heap.size) (s : RT w1 g h l e) (kb : KB g (w.alloc (.cells #[.int .i64 0, .int .i64 0, .int .u64 0, .string ⟨#[]⟩, .slice none 0 0] 25)) w1) :
    MidR w (w1.alloc (.cells #[.int .i64 k, .int .i64 0, .int .u64 0, .string ⟨#[]⟩, .slice none 0 0] 25)) g h w1.heap.size l e (.int .i64 k) (.int .i64 0) (.int .u64 0) (.string ⟨#[]⟩) (.slice none 0 0) := by
  have hz : w.heap.size + 1 ≤ w1.heap.size := by have := kb.2.2.2.1; simpa using this
  have hz0 : w.heap.size < (w.alloc (.cells #[.int .i64 0, .int .i64 0, .int .u64 0, .string ⟨#[]⟩, .slice none 0 0] 25)).heap.size := by simp
  have r1 := (box_at w (.int .i64 0) (.int .i64 0) (.int .u64 0) (.string ⟨#[]⟩) (.slice none 0 0)).kb kb (by omega)
  refine ⟨by omega, by simp, hg, hh, r1.below (bel1 _ _), fun o => ((bel1 w1 _).frozen (show w.heap.size < w1.heap.size by omega)).trans ((kb.frozen (a := ⟨w.heap.size, o, none⟩) hz0 (show w.heap.size ≠ g by omega)).trans (fresh w _ o)), box_at w1 _ _ _ _ _, fun o => fresh w1 _ o, s.keep ((bel1 w1 _).block g (by omega)) ((bel1 w1 _).block h (by omega)), ?_⟩
  refine kb_below (a := w1) ?_ ((bel1 w1 _).mono (by omega))
  exact ⟨kb.1, kb.2.1, kb.2.2.1, by omega, fun i hi hne => (kb.2.2.2.2 i (by simp; omega) hne).trans ((bel1 w _).block i hi)⟩
/-- The end: the own box goes into the result's. -/
theorem MidR.finX {w W : World} {g h q n : Nat} {l : List UInt8} {e : Int} {c0 c1 c2 c3 c4 : Value} {t : Tv} (m : MidR w W g h q l e c0 c1 c2 c3 c4) (hi : IsN (w.heap.size + 1) W n (.agg #[c0, c1, c2, c3, c4]) t) :
    RdX w g h n (t, l, e) (.returned (.agg #[c0, c1, c2, c3, c4])) (set5 W w.heap.size 0 c0 c1 c2 c3 c4) := by
  have a := m.q0
  have b := m.q1
  have c := m.gw
  have d := m.hw
  have kb := set5_kb W w.heap.size 0 c0 c1 c2 c3 c4
  exact ⟨_, rfl, (hi.kb kb (by omega)).lower (by omega), m.st.keep (kb.2.2.2.2 g (by omega) (by omega)) (kb.2.2.2.2 h (by omega) (by omega)), kb_below m.kb (kb.below (Nat.le_refl _) (by omega))⟩
theorem MidR.fin {w W : World} {g h q n : Nat} {l : List UInt8} {e : Int} {c0 c1 c2 c3 c4 : Value} {t : Tv} (m : MidR w W g h q l e c0 c1 c2 c3 c4) (hi : IsN (w.heap.size + 1) W n (.agg #[c0, c1, c2, c3, c4]) t) :
    RdQ w g h n (t, l, e) (.returned (.agg #[c0, c1, c2, c3, c4])) (set5 W w.heap.size 0 c0 c1 c2 c3 c4) := (m.finX hi).q
set_option maxHeartbeats 1000000 in
set_option maxRecDepth 100000 in
theorem rread_flat (gl : List UInt8 → Int → List Tv × List UInt8 × Int) (d : Int) (n : Nat) (w : World) (g h : Nat) (l : List UInt8) (e : Int) (r : RT w g h l e) (hh : h < w.heap.size) (h4 : (sNum 4 l e).1 ≠ 4) :
    Calls Try.prog 68 #[.pointer (some ⟨g, 0, none⟩), .int .i64 d] w (RdQ w g h (n + 1) (rd1 gl l e)) := by
  have hg := r.lt
  have NC := rnum_rt (w.alloc (.cells #[.int .i64 0, .int .i64 0, .int .u64 0, .string ⟨#[]⟩, .slice none 0 0] 25)) g h l e 4 (r.keep ((bel1 w _).block g hg) ((bel1 w _).block h hh))
  have n0 := sNum_nat 4 l e
  have nle : (sNum 4 l e).1 ≤ 4 := by
    unfold sNum
    split
    · split
      · split
        · simp
        · simp; omega
      · simp
    · simp
  unfold rd1
  generalize (sNum 4 l e).1 = k at NC n0 nle h4 ⊢
  generalize (sNum 4 l e).2 = q2 at NC ⊢
  obtain ⟨l1, e1⟩ := q2
  dsimp only at NC ⊢
  have HGH : Hid (g < w.heap.size ∧ h < w.heap.size) := ⟨hg, hh⟩
  have HNC : Hid (Calls Try.prog 28 #[.pointer (some ⟨g, 0, none⟩), .int .i64 4] (w.alloc (.cells #[.int .i64 0, .int .i64 0, .int .u64 0, .string ⟨#[]⟩, .slice none 0 0] 25)) (Rr _ g h (.int .i64 k) l1 e1)) := NC
  have hk : k = 1 ∨ k = 2 ∨ k = 3 ∨ k = 0 := by omega
  clear NC n0 nle r hg hh h4
  rcases hk with rfl | rfl | rfl | rfl
  · rw [if_pos rfl]
    have IR := sInt_rng l1 e1
    have IS := fun W (r : RT W g h l1 e1) => rint_rt W g h l1 e1 r
    generalize (sInt l1 e1).1 = X at IR IS ⊢
    generalize (sInt l1 e1).2 = q2 at IS ⊢
    obtain ⟨l2, e2⟩ := q2
    dsimp only at IS ⊢
    have HIS : Hid (∀ W, RT W g h l1 e1 → Calls Try.prog 85 #[.pointer (some ⟨g, 0, none⟩)] W (Rr W g h (.int .i64 X) l2 e2)) := IS
    have HIR : Hid (-9223372036854775808 ≤ X ∧ X ≤ 9223372036854775807) := IR
    clear IS IR
    go_enter Try.func68, Try.ntmps68
    go_wp2_with fail
    refine HNC.out.mono ?_
    rintro x w1 ⟨rfl, s1, k1⟩
    have M0 : Hid (MidR w (w1.alloc (.cells #[.int .i64 1, .int .i64 0, .int .u64 0, .string ⟨#[]⟩, .slice none 0 0] 25)) g h w1.heap.size l1 e1 (.int .i64 1) (.int .i64 0) (.int .u64 0) (.string ⟨#[]⟩) (.slice none 0 0)) := MidR.first 1 HGH.out.1 HGH.out.2 s1 k1
    obtain ⟨W2, hW2⟩ : ∃ W2, W2 = w1.alloc (.cells #[.int .i64 1, .int .i64 0, .int .u64 0, .string ⟨#[]⟩, .slice none 0 0] 25) := ⟨_, rfl⟩
    obtain ⟨q, hq⟩ : ∃ q, q = w1.heap.size := ⟨_, rfl⟩
    rw [← hW2, ← hq] at M0
    have HW2 : Hid (W2 = w1.alloc (.cells #[.int .i64 1, .int .i64 0, .int .u64 0, .string ⟨#[]⟩, .slice none 0 0] 25)) := hW2
    have HQ : Hid (q = w1.heap.size) := hq
    clear s1 k1 hW2 hq
    go_upto_region 2 with fail
    rw [← HW2.out, ← HQ.out]
    obtain ⟨o0, o1, o2, o3, o4⟩ := M0.out.own
    have CC : Hid (Calls Try.prog 85 #[.pointer (some ⟨g, 0, none⟩)] W2 (Rr W2 g h (.int .i64 X) l2 e2)) := HIS.out W2 M0.out.st
    go_wp2_with fail
    refine CC.out.mono ?_
    rintro x w3 ⟨rfl, s3, k3⟩
    have M3 : Hid (MidR w w3 g h q _ _ (.int .i64 1) (.int .i64 0) (.int .u64 0) (.string ⟨#[]⟩) (.slice none 0 0)) := M0.out.step s3 k3
    clear s3 k3 o0 o1 o2 o3 o4 CC
    obtain ⟨o0, o1, o2, o3, o4⟩ := M3.out.own
    have y := M3.out.ofr 1
    have M4 : Hid (MidR w (w3.setCell ⟨q, 1, none⟩ (.int .i64 X)) g h q _ _ (.int .i64 1) (.int .i64 X) (.int .u64 0) (.string ⟨#[]⟩) (.slice none 0 0)) := M3.out.put (.int .i64 X) (M3.out.own.set1 _)
    obtain ⟨W4, hW4⟩ : ∃ W4, W4 = w3.setCell ⟨q, 1, none⟩ (.int .i64 X) := ⟨_, rfl⟩
    rw [← hW4] at M4
    have HW4 : Hid (W4 = w3.setCell ⟨q, 1, none⟩ (.int .i64 X)) := hW4
    clear hW4
    go_upto_region 19 with fail
    rw [← HW4.out]
    clear o0 o1 o2 o3 o4 y
    obtain ⟨a0, a1, a2, a3, a4⟩ := M4.out.own
    obtain ⟨b0, b1, b2, b3, b4⟩ := M4.out.res
    have f0 := M4.out.rfr 0
    have f1 := M4.out.rfr 1
    have f2 := M4.out.rfr 2
    have f3 := M4.out.rfr 3
    have f4 := M4.out.rfr 4
    go_wp2_with fail
    refine bodyPost_ret (ret5 Try.results68 _ (g := w.heap.size) rfl (set5_at M4.out.res (.int .i64 1) (.int .i64 X) (.int .u64 0) (.string ⟨#[]⟩) (.slice none 0 0))) rfl ?_
    exact M4.out.fin (flat_is ⟨by decide, by decide, HIR.out.1, HIR.out.2, by decide, by decide, by decide, by decide, by decide⟩)
  · rw [if_neg (by decide), if_pos rfl]
    have IR := sBits_rng l1 e1
    have IS := fun W (r : RT W g h l1 e1) => rbits_rt W g h l1 e1 r
    generalize (sBits l1 e1).1 = X at IR IS ⊢
    generalize (sBits l1 e1).2 = q2 at IS ⊢
    obtain ⟨l2, e2⟩ := q2
    dsimp only at IS ⊢
    have HIS : Hid (∀ W, RT W g h l1 e1 → Calls Try.prog 31 #[.pointer (some ⟨g, 0, none⟩)] W (Rr W g h (.int .u64 (X : Int)) l2 e2)) := IS
    have HIR : Hid (X ≤ 18446744073709551615) := IR
    clear IS IR
    have CN : Hid (∀ W, Calls Try.prog 86 #[.int .u64 (X : Int)] W fun e w' => e = .returned (.int .u64 (cn X : Nat)) ∧ w' = W) := fun W => refCanon_calls X W
    obtain ⟨C, hC⟩ : ∃ C, C = cn X := ⟨_, rfl⟩
    rw [← hC] at CN ⊢
    by_cases hc : C = X
    · rw [if_pos hc]
      have dc : ((X : Int) != (C : Int)) = false := by rw [hc]; simp
      clear hc hC
      go_enter Try.func68, Try.ntmps68
      go_wp2_with fail
      refine HNC.out.mono ?_
      rintro x w1 ⟨rfl, s1, k1⟩
      have M0 : Hid (MidR w (w1.alloc (.cells #[.int .i64 2, .int .i64 0, .int .u64 0, .string ⟨#[]⟩, .slice none 0 0] 25)) g h w1.heap.size l1 e1 (.int .i64 2) (.int .i64 0) (.int .u64 0) (.string ⟨#[]⟩) (.slice none 0 0)) := MidR.first 2 HGH.out.1 HGH.out.2 s1 k1
      obtain ⟨W2, hW2⟩ : ∃ W2, W2 = w1.alloc (.cells #[.int .i64 2, .int .i64 0, .int .u64 0, .string ⟨#[]⟩, .slice none 0 0] 25) := ⟨_, rfl⟩
      obtain ⟨q, hq⟩ : ∃ q, q = w1.heap.size := ⟨_, rfl⟩
      rw [← hW2, ← hq] at M0
      have HW2 : Hid (W2 = w1.alloc (.cells #[.int .i64 2, .int .i64 0, .int .u64 0, .string ⟨#[]⟩, .slice none 0 0] 25)) := hW2
      have HQ : Hid (q = w1.heap.size) := hq
      clear s1 k1 hW2 hq
      go_upto_region 2 with fail
      rw [← HW2.out, ← HQ.out]
      obtain ⟨o0, o1, o2, o3, o4⟩ := M0.out.own
      have CC : Hid (Calls Try.prog 31 #[.pointer (some ⟨g, 0, none⟩)] W2 (Rr W2 g h (.int .u64 (X : Int)) l2 e2)) := HIS.out W2 M0.out.st
      go_wp2_with fail
      refine CC.out.mono ?_
      rintro x w3 ⟨rfl, s3, k3⟩
      have M3 : Hid (MidR w w3 g h q _ _ (.int .i64 2) (.int .i64 0) (.int .u64 0) (.string ⟨#[]⟩) (.slice none 0 0)) := M0.out.step s3 k3
      clear s3 k3 o0 o1 o2 o3 o4 CC
      obtain ⟨o0, o1, o2, o3, o4⟩ := M3.out.own
      have y := M3.out.ofr 2
      have M4 : Hid (MidR w (w3.setCell ⟨q, 2, none⟩ (.int .u64 (X : Int))) g h q _ _ (.int .i64 2) (.int .i64 0) (.int .u64 (X : Int)) (.string ⟨#[]⟩) (.slice none 0 0)) := M3.out.put (.int .u64 (X : Int)) (M3.out.own.set2 _)
      obtain ⟨W4, hW4⟩ : ∃ W4, W4 = w3.setCell ⟨q, 2, none⟩ (.int .u64 (X : Int)) := ⟨_, rfl⟩
      rw [← hW4] at M4
      have HW4 : Hid (W4 = w3.setCell ⟨q, 2, none⟩ (.int .u64 (X : Int))) := hW4
      clear hW4
      go_upto_region 7 with fail
      rw [← HW4.out]
      clear o0 o1 o2 o3 o4 y
      obtain ⟨o0, o1, o2, o3, o4⟩ := M4.out.own
      go_quiet ((go_at_call 86; exact Calls.quiet_of_same (CN.out _)))
      clear o0 o1 o2 o3 o4
      have MD : Hid (∀ k, MidR w (W4.drewN k) g h q l2 e2 (.int .i64 2) (.int .i64 0) (.int .u64 (X : Int)) (.string ⟨#[]⟩) (.slice none 0 0)) := fun k => M4.out.step (M4.out.st.keep rfl rfl) (KB.of_below (belN W4 k))
      generalize hW5 : W4.drewN _ = W5
      have M5 : Hid (MidR w W5 g h q l2 e2 (.int .i64 2) (.int .i64 0) (.int .u64 (X : Int)) (.string ⟨#[]⟩) (.slice none 0 0)) := by rw [← hW5]; exact MD.out _
      clear hW5
      go_upto_region 19 with fail
      obtain ⟨a0, a1, a2, a3, a4⟩ := M5.out.own
      obtain ⟨b0, b1, b2, b3, b4⟩ := M5.out.res
      have f0 := M5.out.rfr 0
      have f1 := M5.out.rfr 1
      have f2 := M5.out.rfr 2
      have f3 := M5.out.rfr 3
      have f4 := M5.out.rfr 4
      go_wp2_with fail
      refine bodyPost_ret (ret5 Try.results68 _ (g := w.heap.size) rfl (set5_at M5.out.res (.int .i64 2) (.int .i64 0) (.int .u64 (X : Int)) (.string ⟨#[]⟩) (.slice none 0 0))) rfl ?_
      exact M5.out.fin (flat_is ⟨by decide, by decide, by decide, by decide, by omega, by have := HIR.out; omega, by decide, by decide, by decide⟩)
    · rw [if_neg hc]
      have dc : ((X : Int) != (C : Int)) = true := by simp; omega
      clear hc hC
      go_enter Try.func68, Try.ntmps68
      go_wp2_with fail
      refine HNC.out.mono ?_
      rintro x w1 ⟨rfl, s1, k1⟩
      have M0 : Hid (MidR w (w1.alloc (.cells #[.int .i64 2, .int .i64 0, .int .u64 0, .string ⟨#[]⟩, .slice none 0 0] 25)) g h w1.heap.size l1 e1 (.int .i64 2) (.int .i64 0) (.int .u64 0) (.string ⟨#[]⟩) (.slice none 0 0)) := MidR.first 2 HGH.out.1 HGH.out.2 s1 k1
      obtain ⟨W2, hW2⟩ : ∃ W2, W2 = w1.alloc (.cells #[.int .i64 2, .int .i64 0, .int .u64 0, .string ⟨#[]⟩, .slice none 0 0] 25) := ⟨_, rfl⟩
      obtain ⟨q, hq⟩ : ∃ q, q = w1.heap.size := ⟨_, rfl⟩
      rw [← hW2, ← hq] at M0
      have HW2 : Hid (W2 = w1.alloc (.cells #[.int .i64 2, .int .i64 0, .int .u64 0, .string ⟨#[]⟩, .slice none 0 0] 25)) := hW2
      have HQ : Hid (q = w1.heap.size) := hq
      clear s1 k1 hW2 hq
      go_upto_region 2 with fail
      rw [← HW2.out, ← HQ.out]
      obtain ⟨o0, o1, o2, o3, o4⟩ := M0.out.own
      have CC : Hid (Calls Try.prog 31 #[.pointer (some ⟨g, 0, none⟩)] W2 (Rr W2 g h (.int .u64 (X : Int)) l2 e2)) := HIS.out W2 M0.out.st
      go_wp2_with fail
      refine CC.out.mono ?_
      rintro x w3 ⟨rfl, s3, k3⟩
      have M3 : Hid (MidR w w3 g h q _ _ (.int .i64 2) (.int .i64 0) (.int .u64 0) (.string ⟨#[]⟩) (.slice none 0 0)) := M0.out.step s3 k3
      clear s3 k3 o0 o1 o2 o3 o4 CC
      obtain ⟨o0, o1, o2, o3, o4⟩ := M3.out.own
      have y := M3.out.ofr 2
      have M4 : Hid (MidR w (w3.setCell ⟨q, 2, none⟩ (.int .u64 (X : Int))) g h q _ _ (.int .i64 2) (.int .i64 0) (.int .u64 (X : Int)) (.string ⟨#[]⟩) (.slice none 0 0)) := M3.out.put (.int .u64 (X : Int)) (M3.out.own.set2 _)
      obtain ⟨W4, hW4⟩ : ∃ W4, W4 = w3.setCell ⟨q, 2, none⟩ (.int .u64 (X : Int)) := ⟨_, rfl⟩
      rw [← hW4] at M4
      have HW4 : Hid (W4 = w3.setCell ⟨q, 2, none⟩ (.int .u64 (X : Int))) := hW4
      clear hW4
      go_upto_region 7 with fail
      rw [← HW4.out]
      clear o0 o1 o2 o3 o4 y
      obtain ⟨o0, o1, o2, o3, o4⟩ := M4.out.own
      go_quiet ((go_at_call 86; exact Calls.quiet_of_same (CN.out _)))
      clear o0 o1 o2 o3 o4
      have MD : Hid (∀ k, MidR w (W4.drewN k) g h q l2 e2 (.int .i64 2) (.int .i64 0) (.int .u64 (X : Int)) (.string ⟨#[]⟩) (.slice none 0 0)) := fun k => M4.out.step (M4.out.st.keep rfl rfl) (KB.of_below (belN W4 k))
      generalize hW5 : W4.drewN _ = W5
      have M5 : Hid (MidR w W5 g h q l2 e2 (.int .i64 2) (.int .i64 0) (.int .u64 (X : Int)) (.string ⟨#[]⟩) (.slice none 0 0)) := by rw [← hW5]; exact MD.out _
      clear hW5
      have FC : Hid (Calls Try.prog 66 #[.pointer (some ⟨g, 0, none⟩), .int .i64 3] W5 fun r w' => r = .returned (.tuple #[]) ∧ RT w' g h (flL l2 e2) (flE e2 3) ∧ KB g W5 w') := by
        have := rfail_rt W5 g h l2 e2 3 M5.out.st
        rwa [fl_l l2 e2 3 (by decide), fl_e e2 3] at this
      go_wp2_with fail
      refine FC.out.mono ?_
      rintro x w6 ⟨rfl, s6, k6⟩
      have M6 : Hid (MidR w w6 g h q (flL l2 e2) (flE e2 3) (.int .i64 2) (.int .i64 0) (.int .u64 (X : Int)) (.string ⟨#[]⟩) (.slice none 0 0)) := M5.out.step s6 k6
      clear s6 k6 FC
      obtain ⟨a0, a1, a2, a3, a4⟩ := M6.out.own
      obtain ⟨b0, b1, b2, b3, b4⟩ := M6.out.res
      have f0 := M6.out.rfr 0
      have f1 := M6.out.rfr 1
      have f2 := M6.out.rfr 2
      have f3 := M6.out.rfr 3
      have f4 := M6.out.rfr 4
      go_wp2_with fail
      refine bodyPost_ret (ret5 Try.results68 _ (g := w.heap.size) rfl (set5_at M6.out.res (.int .i64 2) (.int .i64 0) (.int .u64 (X : Int)) (.string ⟨#[]⟩) (.slice none 0 0))) rfl ?_
      exact M6.out.fin (flat_is ⟨by decide, by decide, by decide, by decide, by omega, by have := HIR.out; omega, by decide, by decide, by decide⟩)
  · rw [if_neg (by decide), if_neg (by decide), if_pos rfl]
    have IR := sText_rng l1 e1
    have IS := fun W (r : RT W g h l1 e1) => rtext_rt W g h l1 e1 200 r
    generalize (sText 200 l1 e1).1 = X at IR IS ⊢
    generalize (sText 200 l1 e1).2 = q2 at IS ⊢
    obtain ⟨l2, e2⟩ := q2
    dsimp only at IS ⊢
    have HIS : Hid (∀ W, RT W g h l1 e1 → Calls Try.prog 29 #[.pointer (some ⟨g, 0, none⟩), .int .i64 200] W (Rr W g h (.string (str X)) l2 e2)) := IS
    have HIR : Hid (X.length ≤ 200) := IR
    clear IS IR
    go_enter Try.func68, Try.ntmps68
    go_wp2_with fail
    refine HNC.out.mono ?_
    rintro x w1 ⟨rfl, s1, k1⟩
    have M0 : Hid (MidR w (w1.alloc (.cells #[.int .i64 3, .int .i64 0, .int .u64 0, .string ⟨#[]⟩, .slice none 0 0] 25)) g h w1.heap.size l1 e1 (.int .i64 3) (.int .i64 0) (.int .u64 0) (.string ⟨#[]⟩) (.slice none 0 0)) := MidR.first 3 HGH.out.1 HGH.out.2 s1 k1
    obtain ⟨W2, hW2⟩ : ∃ W2, W2 = w1.alloc (.cells #[.int .i64 3, .int .i64 0, .int .u64 0, .string ⟨#[]⟩, .slice none 0 0] 25) := ⟨_, rfl⟩
    obtain ⟨q, hq⟩ : ∃ q, q = w1.heap.size := ⟨_, rfl⟩
    rw [← hW2, ← hq] at M0
    have HW2 : Hid (W2 = w1.alloc (.cells #[.int .i64 3, .int .i64 0, .int .u64 0, .string ⟨#[]⟩, .slice none 0 0] 25)) := hW2
    have HQ : Hid (q = w1.heap.size) := hq
    clear s1 k1 hW2 hq
    go_upto_region 2 with fail
    rw [← HW2.out, ← HQ.out]
    obtain ⟨o0, o1, o2, o3, o4⟩ := M0.out.own
    have CC : Hid (Calls Try.prog 29 #[.pointer (some ⟨g, 0, none⟩), .int .i64 200] W2 (Rr W2 g h (.string (str X)) l2 e2)) := HIS.out W2 M0.out.st
    go_wp2_with fail
    refine CC.out.mono ?_
    rintro x w3 ⟨rfl, s3, k3⟩
    have M3 : Hid (MidR w w3 g h q _ _ (.int .i64 3) (.int .i64 0) (.int .u64 0) (.string ⟨#[]⟩) (.slice none 0 0)) := M0.out.step s3 k3
    clear s3 k3 o0 o1 o2 o3 o4 CC
    obtain ⟨o0, o1, o2, o3, o4⟩ := M3.out.own
    have y := M3.out.ofr 3
    have M4 : Hid (MidR w (w3.setCell ⟨q, 3, none⟩ (.string (str X))) g h q _ _ (.int .i64 3) (.int .i64 0) (.int .u64 0) (.string (str X)) (.slice none 0 0)) := M3.out.put (.string (str X)) (M3.out.own.set3 _)
    obtain ⟨W4, hW4⟩ : ∃ W4, W4 = w3.setCell ⟨q, 3, none⟩ (.string (str X)) := ⟨_, rfl⟩
    rw [← hW4] at M4
    have HW4 : Hid (W4 = w3.setCell ⟨q, 3, none⟩ (.string (str X))) := hW4
    clear hW4
    go_upto_region 19 with fail
    rw [← HW4.out]
    clear o0 o1 o2 o3 o4 y
    obtain ⟨a0, a1, a2, a3, a4⟩ := M4.out.own
    obtain ⟨b0, b1, b2, b3, b4⟩ := M4.out.res
    have f0 := M4.out.rfr 0
    have f1 := M4.out.rfr 1
    have f2 := M4.out.rfr 2
    have f3 := M4.out.rfr 3
    have f4 := M4.out.rfr 4
    go_wp2_with fail
    refine bodyPost_ret (ret5 Try.results68 _ (g := w.heap.size) rfl (set5_at M4.out.res (.int .i64 3) (.int .i64 0) (.int .u64 0) (.string (str X)) (.slice none 0 0))) rfl ?_
    exact M4.out.fin (flat_is ⟨by decide, by decide, by decide, by decide, by decide, by decide, by rw [str_size]; have := HIR.out; omega, by decide, by decide⟩)
  · rw [if_neg (by decide), if_neg (by decide), if_neg (by decide), if_neg (by decide)]
    go_enter Try.func68, Try.ntmps68
    go_wp2_with fail
    refine HNC.out.mono ?_
    rintro x w1 ⟨rfl, s1, k1⟩
    have M0 : Hid (MidR w (w1.alloc (.cells #[.int .i64 0, .int .i64 0, .int .u64 0, .string ⟨#[]⟩, .slice none 0 0] 25)) g h w1.heap.size l1 e1 (.int .i64 0) (.int .i64 0) (.int .u64 0) (.string ⟨#[]⟩) (.slice none 0 0)) := MidR.first 0 HGH.out.1 HGH.out.2 s1 k1
    obtain ⟨W2, hW2⟩ : ∃ W2, W2 = w1.alloc (.cells #[.int .i64 0, .int .i64 0, .int .u64 0, .string ⟨#[]⟩, .slice none 0 0] 25) := ⟨_, rfl⟩
    obtain ⟨q, hq⟩ : ∃ q, q = w1.heap.size := ⟨_, rfl⟩
    rw [← hW2, ← hq] at M0
    have HW2 : Hid (W2 = w1.alloc (.cells #[.int .i64 0, .int .i64 0, .int .u64 0, .string ⟨#[]⟩, .slice none 0 0] 25)) := hW2
    have HQ : Hid (q = w1.heap.size) := hq
    clear s1 k1 hW2 hq
    go_upto_region 2 with fail
    rw [← HW2.out, ← HQ.out]
    obtain ⟨o0, o1, o2, o3, o4⟩ := M0.out.own
    clear o0 o1 o2 o3 o4
    obtain ⟨a0, a1, a2, a3, a4⟩ := M0.out.own
    obtain ⟨b0, b1, b2, b3, b4⟩ := M0.out.res
    have f0 := M0.out.rfr 0
    have f1 := M0.out.rfr 1
    have f2 := M0.out.rfr 2
    have f3 := M0.out.rfr 3
    have f4 := M0.out.rfr 4
    go_wp2_with fail
    refine bodyPost_ret (ret5 Try.results68 _ (g := w.heap.size) rfl (set5_at M0.out.res (.int .i64 0) (.int .i64 0) (.int .u64 0) (.string ⟨#[]⟩) (.slice none 0 0))) rfl ?_
    exact M0.out.fin (flat_is ⟨by decide, by decide, by decide, by decide, by decide, by decide, by decide, by decide, by decide⟩)
end Go.Proofs.Ytjmonkhkcmcfiaa
namespace Go.Proofs.Ytjmonkhkcmcfiaa
open Go.ChangeShapes Go.WideShapes Go.ChangeAt Go.RowKit
/-- append with a known run, as a step of a region that draws its order. -/
theorem step_app_run {P : Program} {ops : Array Oper} {o : Oper} {a : Act} {w : World} {K : Act → World → Prop} {Q : Exit → Act → World → Prop} {E : Prop}
    (hg : o.guard = none) (s x : Operand) (t : TypeId) (hop : o.op = Op.call { callee := Callee.builtin Builtin.append, args := #[s, x], argTypes := #[t, t] })
    (vs vx : Value) (hs : a.eval s = vs) (hx : a.eval x = vx) {v' : Value} {w' : World} (hr : ∀ ty, (Builtin.append_ #[t, t] ty #[vs, vx]).run P w = .ok v' w') (hK : K (a.put o.dst v') w') :
    if Region.wanted o (yielded ops a.tmps) = true then Oper.wp P o a w K Q else E := by
  have hw : Region.wanted o (yielded ops a.tmps) = true := by simp [Region.wanted, hg]
  rw [if_pos hw]
  have hrun := hr o.type
  unfold Oper.wp
  simp [execOp, hop, resolve, invoke, builtin, hs, hx, hrun, Result.andThen]
  exact hK
theorem num_top {m : Int} (hm : 0 ≤ m) (l : List UInt8) (e : Int) : (sNum m l e).1 ≤ m := by
  unfold sNum
  split
  · split
    · split
      · simpa using hm
      · simp; omega
    · simpa using hm
  · simpa using hm
set_option maxHeartbeats 1000000 in
set_option maxRecDepth 100000 in
theorem rread_zero (n : Nat) (w : World) (g h : Nat) (l : List UInt8) (e : Int) (r : RT w g h l e) (hh : h < w.heap.size) (h4 : (sNum 4 l e).1 = 4) :
    Calls Try.prog 68 #[.pointer (some ⟨g, 0, none⟩), .int .i64 0] w (RdQ w g h (n + 1) (rd1 (fun l e => ([], flL l e, flE e 5)) l e)) := by
  have hg := r.lt
  have NC := rnum_rt (w.alloc (.cells #[.int .i64 0, .int .i64 0, .int .u64 0, .string ⟨#[]⟩, .slice none 0 0] 25)) g h l e 4 (r.keep ((bel1 w _).block g hg) ((bel1 w _).block h hh))
  unfold rd1
  generalize (sNum 4 l e).1 = k at NC h4 ⊢
  generalize (sNum 4 l e).2 = q2 at NC ⊢
  obtain ⟨l1, e1⟩ := q2
  subst h4
  dsimp only at NC ⊢
  have HGH : Hid (g < w.heap.size ∧ h < w.heap.size) := ⟨hg, hh⟩
  have HNC : Hid (Calls Try.prog 28 #[.pointer (some ⟨g, 0, none⟩), .int .i64 4] (w.alloc (.cells #[.int .i64 0, .int .i64 0, .int .u64 0, .string ⟨#[]⟩, .slice none 0 0] 25)) (Rr _ g h (.int .i64 4) l1 e1)) := NC
  clear NC r hg hh
  rw [if_neg (by decide), if_neg (by decide), if_neg (by decide), if_pos rfl]
  have hE := flE_ne (e := e1) (f := 5) (by decide)
  have HN2 : Hid (∀ W, RT W g h (flL l1 e1) (flE e1 5) → Calls Try.prog 28 #[.pointer (some ⟨g, 0, none⟩), .int .i64 12] W (Rr W g h (.int .i64 0) (flL l1 e1) (flE e1 5))) := fun W r => by
    have := rnum_rt W g h _ _ 12 r
    have hz : sNum 12 (flL l1 e1) (flE e1 5) = (0, flL l1 e1, flE e1 5) := by unfold sNum; rw [if_neg hE]
    rwa [hz] at this
  clear hE
  go_enter Try.func68, Try.ntmps68
  go_wp2_with fail
  refine HNC.out.mono ?_
  rintro x w1 ⟨rfl, s1, k1⟩
  have M0 : Hid (MidR w (w1.alloc (.cells #[.int .i64 4, .int .i64 0, .int .u64 0, .string ⟨#[]⟩, .slice none 0 0] 25)) g h w1.heap.size l1 e1 (.int .i64 4) (.int .i64 0) (.int .u64 0) (.string ⟨#[]⟩) (.slice none 0 0)) := MidR.first 4 HGH.out.1 HGH.out.2 s1 k1
  obtain ⟨W2, hW2⟩ : ∃ W2, W2 = w1.alloc (.cells #[.int .i64 4, .int .i64 0, .int .u64 0, .string ⟨#[]⟩, .slice none 0 0] 25) := ⟨_, rfl⟩
  obtain ⟨q, hq⟩ : ∃ q, q = w1.heap.size := ⟨_, rfl⟩
  rw [← hW2, ← hq] at M0
  have HW2 : Hid (W2 = w1.alloc (.cells #[.int .i64 4, .int .i64 0, .int .u64 0, .string ⟨#[]⟩, .slice none 0 0] 25)) := hW2
  have HQ : Hid (q = w1.heap.size) := hq
  clear s1 k1 hW2 hq
  go_upto_region 2 with fail
  rw [← HW2.out, ← HQ.out]
  obtain ⟨o0, o1, o2, o3, o4⟩ := M0.out.own
  have FC : Hid (Calls Try.prog 66 #[.pointer (some ⟨g, 0, none⟩), .int .i64 5] W2 fun r w' => r = .returned (.tuple #[]) ∧ RT w' g h (flL l1 e1) (flE e1 5) ∧ KB g W2 w') := by
    have := rfail_rt W2 g h l1 e1 5 M0.out.st
    rwa [fl_l l1 e1 5 (by decide), fl_e e1 5] at this
  go_wp2_with fail
  refine FC.out.mono ?_
  rintro x w3 ⟨rfl, s3, k3⟩
  have M3 : Hid (MidR w w3 g h q _ _ (.int .i64 4) (.int .i64 0) (.int .u64 0) (.string ⟨#[]⟩) (.slice none 0 0)) := M0.out.step s3 k3
  clear s3 k3 o0 o1 o2 o3 o4 FC
  have NC2 : Hid (Calls _ _ _ w3 _) := HN2.out w3 M3.out.st
  go_wp2_with fail
  refine NC2.out.mono ?_
  rintro x w4 ⟨rfl, s4, k4⟩
  have M4 : Hid (MidR w w4 g h q _ _ (.int .i64 4) (.int .i64 0) (.int .u64 0) (.string ⟨#[]⟩) (.slice none 0 0)) := M3.out.step s4 k4
  clear s4 k4 NC2
  go_wp2_with fail
  go_loopw [7] (fun i wr => i = .int .i64 0 ∧ wr = w4) (fun _ _ => 0)
  case atStart => exact ⟨rfl, rfl⟩
  case round =>
    obtain ⟨rfl, hwr⟩ := hrel
    subst hwr
    go_upto_region 19 with fail
    obtain ⟨a0, a1, a2, a3, a4⟩ := M4.out.own
    obtain ⟨b0, b1, b2, b3, b4⟩ := M4.out.res
    have f0 := M4.out.rfr 0
    have f1 := M4.out.rfr 1
    have f2 := M4.out.rfr 2
    have f3 := M4.out.rfr 3
    have f4 := M4.out.rfr 4
    go_wp2_with fail
    refine bodyPost_ret (ret5 Try.results68 _ (g := w.heap.size) rfl (set5_at M4.out.res (.int .i64 4) (.int .i64 0) (.int .u64 0) (.string ⟨#[]⟩) (.slice none 0 0))) rfl ?_
    exact M4.out.fin (flat_is ⟨by decide, by decide, by decide, by decide, by decide, by decide, by decide, by decide, by decide⟩)
/-- Where the reference's loop over a list stands. -/
def LpI (f : List UInt8 → Int → Tv × List UInt8 × Int) (N : Nat) (R : List Tv × List UInt8 × Int) (j : Nat) (acc : List Tv) (lj : List UInt8) (ej : Int) : Prop :=
  (ej = 0 → R = jn acc (rdN f (N - j) lj 0)) ∧ (ej ≠ 0 → R = ([], lj, ej))
theorem LpI.first {f : List UInt8 → Int → Tv × List UInt8 × Int} {N : Nat} {l1 : List UInt8} {e1 : Int} (h : N = 0 ∨ e1 = 0) : LpI f N (rdN f N l1 e1) 0 [] l1 e1 := by
  refine ⟨fun h0 => ?_, fun h0 => ?_⟩
  · subst h0
    rw [Nat.sub_zero, jn_nil]
  · obtain rfl : N = 0 := h.resolve_right h0
    rfl
theorem LpI.more {f : List UInt8 → Int → Tv × List UInt8 × Int} {N j : Nat} {R : List Tv × List UInt8 × Int} {acc : List Tv} {lj : List UInt8} {t : Tv} (h : LpI f N R j acc lj 0) (hj : j < N) (ht : (f lj 0).2.2 = 0 → t = (f lj 0).1) : LpI f N R (j + 1) (acc ++ [t]) (f lj 0).2.1 (f lj 0).2.2 := by
  obtain ⟨m, hm⟩ : ∃ m, N - j = m + 1 := ⟨N - j - 1, by omega⟩
  have h1 := h.1 rfl
  rw [hm] at h1
  have hm2 : N - (j + 1) = m := by omega
  refine ⟨fun h0 => ?_, fun h0 => ?_⟩
  · rw [h1, jn_more acc m lj h0, ht h0, hm2]
  · rw [h1, jn_end acc m lj h0]
theorem LpI.done {f : List UInt8 → Int → Tv × List UInt8 × Int} {N : Nat} {R : List Tv × List UInt8 × Int} {acc : List Tv} {lj : List UInt8} {ej : Int} (h : LpI f N R N acc lj ej) : R.2 = (lj, ej) ∧ (ej = 0 → acc = R.1) := by
  by_cases h0 : ej = 0
  · subst h0
    have h1 := h.1 rfl
    rw [Nat.sub_self] at h1
    have : R = (acc, lj, 0) := by rw [h1]; simp [jn, rdN]
    rw [this]
    exact ⟨rfl, fun _ => rfl⟩
  · rw [h.2 h0]
    exact ⟨rfl, fun h => absurd h h0⟩
theorem LpI.err {f : List UInt8 → Int → Tv × List UInt8 × Int} {N j : Nat} {R : List Tv × List UInt8 × Int} {acc : List Tv} {lj : List UInt8} {ej : Int} (h : LpI f N R j acc lj ej) (h0 : ej ≠ 0) : R.2 = (lj, ej) ∧ (ej = 0 → acc = R.1) := by
  rw [h.2 h0]
  exact ⟨rfl, fun h => absurd h h0⟩
/-- The end of a list: the own box, with the list in it, goes into the result's. -/
theorem MidR.finL {w W : World} {g h q n : Nat} {l : List UInt8} {e : Int} {ua : Option Addr} {un uc : Nat} {acc : List Tv} {R : List Tv × List UInt8 × Int} (m : MidR w W g h q l e (.int .i64 4) (.int .i64 0) (.int .u64 0) (.string ⟨#[]⟩) (.slice ua un uc)) (hv : Vs (q + 1) n W (.slice ua un uc) acc) (hR : R.2 = (l, e) ∧ (e = 0 → acc = R.1)) :
    RdQ w g h (n + 1) (.mk 4 0 0 ⟨#[]⟩ R.1, R.2) (.returned (.agg #[.int .i64 4, .int .i64 0, .int .u64 0, .string ⟨#[]⟩, .slice ua un uc])) (set5 W w.heap.size 0 (.int .i64 4) (.int .i64 0) (.int .u64 0) (.string ⟨#[]⟩) (.slice ua un uc)) := by
  have hq0 := m.q0
  obtain ⟨a, c, hs, hc1, hc2⟩ := hv.shape
  cases hs
  have hi : IsN (w.heap.size + 1) W (n + 1) (.agg #[.int .i64 4, .int .i64 0, .int .u64 0, .string ⟨#[]⟩, .slice ua acc.length uc]) (.mk 4 0 0 ⟨#[]⟩ acc) := by
    refine ⟨ua, uc, rfl, ⟨by decide, by decide, by decide, by decide, by decide, by decide, by decide, hc1, hc2⟩, fun i t ht => ?_⟩
    obtain ⟨B, o, d0, d1, d2, d3, d4, ha, hB, h5, hn⟩ := hv.row i t ht
    exact ⟨B, o, d0, d1, d2, d3, d4, ha, by omega, h5, hn.lower (by omega)⟩
  obtain ⟨v, e1, i1, s1, k1⟩ := m.finX hi
  exact ⟨v, _, e1, i1, fun h0 => by dsimp only at h0 ⊢; rw [hR.1] at h0; rw [hR.2 h0], by dsimp only; rw [hR.1]; exact s1, k1⟩
/-- One round of the loop: a value more is read, and appended. -/
structure RlS (w w2 w3 : World) (g h q n : Nat) (l2 : List UInt8) (e2 : Int) (ua : Option Addr) (un uc : Nat) (c0 c1 c2 c3 c4 : Value) (ua' : Option Addr) (un' uc' : Nat) (acc : List Tv) : Prop where
  run : ∀ ty, (Builtin.append_ #[23, 23] ty #[.slice ua un uc, .slice (some ⟨w2.heap.size, 0, none⟩) 1 1]).run Try.prog (w2.alloc (.cells #[c0, c1, c2, c3, c4] 25)) = .ok (.slice ua' un' uc') w3
  old : w3.cell? ⟨q, 4, none⟩ = some (.slice ua un uc)
  frz : w3.frozen? ⟨q, 4, none⟩ = false
  mid : MidR w (w3.setCell ⟨q, 4, none⟩ (.slice ua' un' uc')) g h q l2 e2 (.int .i64 4) (.int .i64 0) (.int .u64 0) (.string ⟨#[]⟩) (.slice ua' un' uc')
  vs : Vs (q + 1) n (w3.setCell ⟨q, 4, none⟩ (.slice ua' un' uc')) (.slice ua' un' uc') acc
theorem rlist_step {w wr w2 : World} {g h q n : Nat} {lj l2 : List UInt8} {e2 : Int} {ua : Option Addr} {un uc : Nat} {acc : List Tv} {t2 : Tv} {vk vx vb : Int} {vs : ByteArray} {va : Option Addr} {vm vc : Nat}
    (m : MidR w wr g h q lj 0 (.int .i64 4) (.int .i64 0) (.int .u64 0) (.string ⟨#[]⟩) (.slice ua un uc)) (hv : Vs (q + 1) n wr (.slice ua un uc) acc)
    (hi2 : IsN wr.drew.heap.size w2 n (.agg #[.int .i64 vk, .int .i64 vx, .int .u64 vb, .string vs, .slice va vm vc]) t2) (hs2 : RT w2 g h l2 e2) (hk2 : KB g wr.drew w2) (hl : acc.length ≤ 1000) :
    ∃ ua' un' uc' w3, RlS w w2 w3 g h q n l2 e2 ua un uc (.int .i64 vk) (.int .i64 vx) (.int .u64 vb) (.string vs) (.slice va vm vc) ua' un' uc' (acc ++ [t2]) := by
  have q0 := m.q0
  have q1 := m.q1
  have gw := m.gw
  have hw := m.hw
  have hk : KB g wr w2 := (KB.of_below (Below.refl _ wr).drew).trans hk2
  have hz2 : wr.heap.size ≤ w2.heap.size := hk.2.2.2.1
  have hvs2 : Vs (q + 1) n w2 (.slice ua un uc) acc := hv.keep (fun B h1 h2 => hk.2.2.2.2 B h2 (by omega))
  have hVW : Vs (q + 1) n (w2.alloc (.cells #[.int .i64 vk, .int .i64 vx, .int .u64 vb, .string vs, .slice va vm vc] 25)) (.slice ua un uc) acc := hvs2.keep (fun B _ h2 => (bel1 w2 _).block B h2)
  have hlto : ∀ B, (Value.slice ua un uc).ownBlock = some B → B < wr.heap.size := fun B hB => by obtain ⟨cells, ho, _⟩ := hv; exact (World.ownsRow.lt ho B hB).2
  have hq : IsQ (fun B => q + 1 ≤ B ∧ (Value.slice ua un uc).ownBlock ≠ some B) w2 n (.agg #[.int .i64 vk, .int .i64 vx, .int .u64 vb, .string vs, .slice va vm vc]) t2 := hi2.isQ (fun B h1 _ => by
    have h1' : wr.heap.size ≤ B := h1
    exact ⟨by omega, fun e => by have := hlto B e; omega⟩)
  obtain ⟨u', w3, hr3, hv3, hb3, hk3⟩ := vapp_run (src := w2.heap.size) hVW (box_at w2 _ _ _ _ _) (by intro z hz; simp only [List.mem_cons, List.not_mem_nil, or_false] at hz; rcases hz with rfl | rfl | rfl | rfl | rfl <;> rfl) (hq.keep (fun B hB hl => ⟨(bel1 w2 _).block B hl, hB⟩)) (by simp; omega) hl
  obtain ⟨ua', un', uc', rfl⟩ : ∃ a n c, u' = .slice a n c := by obtain ⟨a, c, h, _⟩ := hv3.shape; exact ⟨_, _, _, h⟩
  have hgo : ∀ B, B ≤ q → w3.heap[B]? = w2.heap[B]? := fun B hB => (hb3.block B (by omega)).trans ((bel1 w2 _).block B (by omega))
  have s3 : RT w3 g h l2 e2 := hs2.keep (hgo g (by omega)) (hgo h (by omega))
  have m2 := m.step hs2 hk
  have k3 : KB g w w3 := kb_below m2.kb (((bel1 w2 _).mono (by omega)).trans (hb3.mono (by omega)))
  have hs3 : w2.heap.size ≤ w3.heap.size := by have := hb3.size; simp at this; omega
  have m3 : MidR w w3 g h q l2 e2 (.int .i64 4) (.int .i64 0) (.int .u64 0) (.string ⟨#[]⟩) (.slice ua un uc) := ⟨q0, by omega, gw, hw, m2.res.keepB (hgo w.heap.size (by omega)), fun o => (World.frozen?_of_block (hgo w.heap.size (by omega))).trans (m2.rfr o), m2.own.keepB (hgo q (Nat.le_refl _)), fun o => (World.frozen?_of_block (hgo q (Nat.le_refl _))).trans (m2.ofr o), s3, k3⟩
  have m4 := m3.put (.slice ua' un' uc') (m3.own.set4 _)
  have hne : ∀ B, B ≠ q → (w3.setCell ⟨q, 4, none⟩ (.slice ua' un' uc')).heap[B]? = w3.heap[B]? := fun B hB => Below.heap_setCell _ _ _ _ hB
  exact ⟨ua', un', uc', w3, hr3, m3.own.2.2.2.2, m3.ofr 4, m4, hv3.keep (fun B h1 _ => hne B (by omega))⟩
set_option maxHeartbeats 1000000 in
set_option maxRecDepth 100000 in
theorem rread_list (f : List UInt8 → Int → Tv × List UInt8 × Int) (d n : Nat) (hd : d ≤ 4) (hR : ReadR f d n) (w : World) (g h : Nat) (l : List UInt8) (e : Int) (r : RT w g h l e) (hh : h < w.heap.size) (h4 : (sNum 4 l e).1 = 4) :
    Calls Try.prog 68 #[.pointer (some ⟨g, 0, none⟩), .int .i64 ((d + 1 : Nat) : Int)] w (RdQ w g h (n + 1) (rd1 (rdL f) l e)) := by
  have hg := r.lt
  have NC := rnum_rt (w.alloc (.cells #[.int .i64 0, .int .i64 0, .int .u64 0, .string ⟨#[]⟩, .slice none 0 0] 25)) g h l e 4 (r.keep ((bel1 w _).block g hg) ((bel1 w _).block h hh))
  unfold rd1
  generalize (sNum 4 l e).1 = k at NC h4 ⊢
  generalize (sNum 4 l e).2 = q2 at NC ⊢
  obtain ⟨l0, e0⟩ := q2
  subst h4
  dsimp only at NC ⊢
  have HGH : Hid (g < w.heap.size ∧ h < w.heap.size) := ⟨hg, hh⟩
  have HNC : Hid (Calls Try.prog 28 #[.pointer (some ⟨g, 0, none⟩), .int .i64 4] (w.alloc (.cells #[.int .i64 0, .int .i64 0, .int .u64 0, .string ⟨#[]⟩, .slice none 0 0] 25)) (Rr _ g h (.int .i64 4) l0 e0)) := NC
  clear NC r hg hh
  rw [if_neg (by decide), if_neg (by decide), if_neg (by decide), if_pos rfl]
  have NC2 := fun W (r : RT W g h l0 e0) => rnum_rt W g h l0 e0 12 r
  have n0 := sNum_nat 12 l0 e0
  have nle := num_top (m := 12) (by decide) l0 e0
  have nz := sNum_zero 12 l0 e0
  have hdef : rdL f l0 e0 = rdN f (sNum 12 l0 e0).1.toNat (sNum 12 l0 e0).2.1 (sNum 12 l0 e0).2.2 := rfl
  rw [hdef]
  generalize (sNum 12 l0 e0).1 = k at NC2 n0 nle nz ⊢
  generalize (sNum 12 l0 e0).2.1 = l1 at NC2 ⊢
  generalize (sNum 12 l0 e0).2.2 = e1 at NC2 nz ⊢
  obtain ⟨N, rfl⟩ := Int.eq_ofNat_of_zero_le n0
  rw [Int.toNat_natCast]
  have HN2 : Hid (∀ W, RT W g h l0 e0 → Calls Try.prog 28 #[.pointer (some ⟨g, 0, none⟩), .int .i64 12] W (Rr W g h (.int .i64 (N : Int)) l1 e1)) := NC2
  have HL0 : Hid (LpI f N (rdN f N l1 e1) 0 [] l1 e1) := LpI.first (by
    by_cases h0 : e1 = 0
    · exact .inr h0
    · exact .inl (by have := nz h0; omega))
  generalize rdN f N l1 e1 = R at HL0 ⊢
  have HN : Hid (N ≤ 12) := by show _ ≤ _; omega
  have HR : Hid (ReadR f d n) := hR
  have f0 : (((d + 1 : Nat) : Int) == 0) = false := by simp; omega
  obtain ⟨D, hD⟩ : ∃ D : Int, D = ((d + 1 : Nat) : Int) := ⟨_, rfl⟩
  rw [← hD] at f0 ⊢
  have hdw : IntKind.i64.wrap (D - 1) = (d : Int) := by rw [hD, IntKind.wrap_i64]; omega
  have hdw2 : wrap64 (D - 1) = (d : Int) := by rw [hD]; unfold wrap64; omega
  have hNb : (N : Int) ≤ 12 := by have := HN.out; omega
  clear NC2 n0 nle nz hdef hR hD hd
  go_enter Try.func68, Try.ntmps68
  go_wp2_with fail
  refine HNC.out.mono ?_
  rintro x w1 ⟨rfl, s1, k1⟩
  have M0 : Hid (MidR w (w1.alloc (.cells #[.int .i64 4, .int .i64 0, .int .u64 0, .string ⟨#[]⟩, .slice none 0 0] 25)) g h w1.heap.size l0 e0 (.int .i64 4) (.int .i64 0) (.int .u64 0) (.string ⟨#[]⟩) (.slice none 0 0)) := MidR.first 4 HGH.out.1 HGH.out.2 s1 k1
  obtain ⟨W2, hW2⟩ : ∃ W2, W2 = w1.alloc (.cells #[.int .i64 4, .int .i64 0, .int .u64 0, .string ⟨#[]⟩, .slice none 0 0] 25) := ⟨_, rfl⟩
  obtain ⟨q, hq⟩ : ∃ q, q = w1.heap.size := ⟨_, rfl⟩
  rw [← hW2, ← hq] at M0
  have HW2 : Hid (W2 = w1.alloc (.cells #[.int .i64 4, .int .i64 0, .int .u64 0, .string ⟨#[]⟩, .slice none 0 0] 25)) := hW2
  have HQ : Hid (q = w1.heap.size) := hq
  clear s1 k1 hW2 hq
  go_upto_region 2 with fail
  rw [← HW2.out, ← HQ.out]
  obtain ⟨o0, o1, o2, o3, o4⟩ := M0.out.own
  have CC : Hid (Calls _ _ _ W2 _) := HN2.out W2 M0.out.st
  go_wp2_with fail
  refine CC.out.mono ?_
  rintro x w3 ⟨rfl, s3, k3⟩
  have M3 : Hid (MidR w w3 g h q _ _ (.int .i64 4) (.int .i64 0) (.int .u64 0) (.string ⟨#[]⟩) (.slice none 0 0)) := M0.out.step s3 k3
  clear s3 k3 o0 o1 o2 o3 o4 CC
  go_wp2_with fail
  go_loopw [7] (fun i wr => ∃ (j : Nat) (ua : Option Addr) (un uc : Nat) (acc : List Tv) (lj : List UInt8) (ej : Int), j ≤ N ∧ i = .int .i64 (j : Int) ∧ Hid (acc.length = j) ∧ Hid (Vs (q + 1) n wr (.slice ua un uc) acc) ∧ Hid (MidR w wr g h q lj ej (.int .i64 4) (.int .i64 0) (.int .u64 0) (.string ⟨#[]⟩) (.slice ua un uc)) ∧ Hid (LpI f N R j acc lj ej)) (fun i _ => N - (intOf i).toNat)
  case atStart => exact ⟨0, none, 0, 0, [], l1, e1, Nat.zero_le _, rfl, rfl, Vs.nil _ _ _, M3, HL0⟩
  case round =>
    obtain ⟨j, ua, un, uc, acc, lj, ej, hj, rfl, HA, HV, HM, HJ⟩ := hrel
    have EC : Hid (Calls Try.prog 32 #[.pointer (some ⟨g, 0, none⟩)] wr _) := rerr_rt _ _ _ _ _ HM.out.st
    by_cases hlt : j < N
    · have hjl : (j : Int) < (N : Int) := by omega
      by_cases h0 : ej = 0
      · subst h0
        go_wp2_with fail
        refine EC.out.mono ?_
        rintro x wz ⟨rfl, hwz⟩
        have hwz2 := hwz.symm
        subst hwz2
        clear hwz
        obtain ⟨o0, o1, o2, o3, o4⟩ := HM.out.own
        have y := HM.out.ofr 4
        have q0 := HM.out.q0
        have q1 := HM.out.q1
        have HQ2 : Hid (w.heap.size < q ∧ q < wr.heap.size ∧ g < w.heap.size ∧ h < w.heap.size) := ⟨q0, q1, HGH.out.1, HGH.out.2⟩
        have HRD : Hid (Calls Try.prog 68 #[.pointer (some ⟨g, 0, none⟩), .int .i64 (d : Int)] wr.drew (RdQ wr.drew g h n (f lj 0))) := HR.out wr.drew g h lj 0 (HM.out.st.keep rfl rfl) (by show h < wr.heap.size; have := HM.out.hw; omega)
        clear q0 q1 EC
        go_wp2_with fail
        have HAc : Hid (acc.length ≤ 1000) := by have := HA.out; have := HN.out; show _ ≤ _; omega
        go_region_law (first
          | (go_simp; go_at_call 68; refine HRD.out.mono ?_; rintro x w2 ⟨v, t2, rfl, hi2, ht2, hs2, hk2⟩; obtain ⟨vk, vx, vb, vs, va, vm, vc, rfl⟩ := hi2.shape; obtain ⟨ua', un', uc', w3, HS⟩ := rlist_step HM.out HV.out hi2 hs2 hk2 HAc.out; have HSS : Hid (RlS _ _ _ _ _ _ _ _ _ _ _ _ _ _ _ _ _ _ _ _ _) := HS; have hr3 := HS.run; have z4 := HS.old; have y4 := HS.frz; have y5 : w2.cell? ⟨q, 4, none⟩ = some (.slice ua un uc) := (HM.out.step (w' := w2) hs2 ((KB.of_below (Below.refl _ _).drew).trans hk2)).own.2.2.2.2; have y6 : (w2.alloc (Obj.cells #[.int .i64 vk, .int .i64 vx, .int .u64 vb, .string vs, .slice va vm vc] 25)).cell? ⟨q, 4, none⟩ = some (.slice ua un uc) := ((bel1 w2 _).cell (p := ⟨q, 4, none⟩) (World.block_lt_of_cell? w2 _ y5)).trans y5; have HT2 : Hid (_ → t2 = _) := ht2; clear HS hi2 ht2 hs2 hk2)
          | (refine step_app_run rfl (.tmp 55) (.tmp 60) 23 rfl (.slice ua un uc) (.slice (some ⟨w2.heap.size, 0, none⟩) 1 1) rfl rfl (by with_reducible assumption) ?_))
        all_goals go_wp2_with fail
        all_goals exact ⟨⟨j + 1, ua', un', uc', acc ++ [t2], _, _, hlt, by rw [Int.natCast_add]; rfl, (by show _ = _; rw [List.length_append, HA.out]; rfl), HSS.out.vs, HSS.out.mid, HJ.out.more hlt HT2.out⟩, by simp only [intOf]; omega⟩
      · have d0 : (ej == 0) = false := by simpa using h0
        have HE0 : Hid (ej ≠ 0) := h0
        clear h0
        go_wp2_with fail
        refine EC.out.mono ?_
        rintro x wz ⟨rfl, hwz⟩
        have hwz2 := hwz.symm
        subst hwz2
        clear hwz
        go_upto_region 19 with fail
        obtain ⟨a0, a1, a2, a3, a4⟩ := HM.out.own
        obtain ⟨b0, b1, b2, b3, b4⟩ := HM.out.res
        have f0 := HM.out.rfr 0
        have f1 := HM.out.rfr 1
        have f2 := HM.out.rfr 2
        have f3 := HM.out.rfr 3
        have f4 := HM.out.rfr 4
        go_wp2_with fail
        refine bodyPost_ret (ret5 Try.results68 _ (g := w.heap.size) rfl (set5_at HM.out.res (.int .i64 4) (.int .i64 0) (.int .u64 0) (.string ⟨#[]⟩) (.slice ua un uc))) rfl ?_
        exact HM.out.finL HV.out (HJ.out.err HE0.out)
    · obtain rfl : j = N := by omega
      go_upto_region 19 with fail
      obtain ⟨a0, a1, a2, a3, a4⟩ := HM.out.own
      obtain ⟨b0, b1, b2, b3, b4⟩ := HM.out.res
      have f0 := HM.out.rfr 0
      have f1 := HM.out.rfr 1
      have f2 := HM.out.rfr 2
      have f3 := HM.out.rfr 3
      have f4 := HM.out.rfr 4
      go_wp2_with fail
      refine bodyPost_ret (ret5 Try.results68 _ (g := w.heap.size) rfl (set5_at HM.out.res (.int .i64 4) (.int .i64 0) (.int .u64 0) (.string ⟨#[]⟩) (.slice ua un uc))) rfl ?_
      exact HM.out.finL HV.out HJ.out.done
end Go.Proofs.Ytjmonkhkcmcfiaa
namespace Go.Proofs.Ytjmonkhkcmcfiaa
open Go.ChangeShapes Go.WideShapes Go.ChangeAt Go.RowKit
theorem rread_calls : ∀ d, d ≤ 4 → ReadR (rdV d) d (d + 1) := by
  intro d
  induction d with
  | zero =>
    intro _ w g h l e r hh
    by_cases h4 : (sNum 4 l e).1 = 4
    · exact rread_zero 0 w g h l e r hh h4
    · exact rread_flat _ 0 0 w g h l e r hh h4
  | succ d ih =>
    intro hd w g h l e r hh
    by_cases h4 : (sNum 4 l e).1 = 4
    · exact rread_list (rdV d) d (d + 1) (by omega) (ih (by omega)) w g h l e r hh h4
    · exact rread_flat _ _ (d + 1) w g h l e r hh h4
/-- Open, its block of bytes told where there are none, too. -/
theorem ropen2_calls (v : Value) (l : List UInt8) (w : World) (hv : Lib.HoldsBytes w v l) (hl : l.length ≤ 140737488351232) (h0 : 0 < w.heap.size) :
    Calls Try.prog 27 #[v] w fun e w' => ∃ g h, e = .returned (.pointer (some ⟨g, 0, none⟩)) ∧ w.heap.size ≤ g ∧ (w.heap.size ≤ h ∨ h = 0) ∧ h < w'.heap.size ∧ RT w' g h l 0 ∧ Below w.heap.size w w' := by
  refine (ropen_calls v l w hv hl).mono ?_
  rintro e w' ⟨g, h, rfl, hg, hh, ⟨p, c, a0, a1, f0, f1, hlc, hgh, hb, he⟩, hB⟩
  have hs := hB.size
  by_cases hn : l = []
  · subst hn
    exact ⟨g, 0, rfl, hg, .inr rfl, by omega, ⟨p, c, a0, a1, f0, f1, hlc, by omega, HBk.nil _ _ _, he⟩, hB⟩
  · obtain ⟨o, hp, hc⟩ := hb hn
    obtain ⟨x, l2, rfl⟩ := List.exists_cons_of_ne_nil hn
    have := World.block_lt_of_cell? w' ⟨h, o + 0, none⟩ (hc 0 x rfl)
    exact ⟨g, h, rfl, hg, .inl hh, this, ⟨p, c, a0, a1, f0, f1, hlc, hgh, hb, he⟩, hB⟩
/-- As MidR.first, with a box of any five. -/
theorem MidR.box {w w1 : World} {g h : Nat} {l : List UInt8} {e : Int} {c0 c1 c2 c3 c4 : Value} (hg : g < w.heap.size) (hh : h < w.heap.size) (s : RT w1 g h l e) (kb : KB g (w.alloc (.cells #[.int .i64 0, .int .i64 0, .int .u64 0, .string ⟨#[]⟩, .slice none 0 0] 25)) w1) :
    MidR w (w1.alloc (.cells #[c0, c1, c2, c3, c4] 25)) g h w1.heap.size l e c0 c1 c2 c3 c4 := by
  have hz : w.heap.size + 1 ≤ w1.heap.size := by have := kb.2.2.2.1; simpa using this
  have hz0 : w.heap.size < (w.alloc (.cells #[.int .i64 0, .int .i64 0, .int .u64 0, .string ⟨#[]⟩, .slice none 0 0] 25)).heap.size := by simp
  have r1 := (box_at w (.int .i64 0) (.int .i64 0) (.int .u64 0) (.string ⟨#[]⟩) (.slice none 0 0)).kb kb (by omega)
  refine ⟨by omega, by simp, hg, hh, r1.below (bel1 _ _), fun o => ((bel1 w1 _).frozen (show w.heap.size < w1.heap.size by omega)).trans ((kb.frozen (a := ⟨w.heap.size, o, none⟩) hz0 (show w.heap.size ≠ g by omega)).trans (fresh w _ o)), box_at w1 _ _ _ _ _, fun o => fresh w1 _ o, s.keep ((bel1 w1 _).block g (by omega)) ((bel1 w1 _).block h (by omega)), ?_⟩
  refine kb_below (a := w1) ?_ ((bel1 w1 _).mono (by omega))
  exact ⟨kb.1, kb.2.1, kb.2.2.1, by omega, fun i hi hne => (kb.2.2.2.2 i (by simp; omega) hne).trans ((bel1 w _).block i hi)⟩
theorem MidR.fin0 {w W : World} {g h q n : Nat} {l : List UInt8} {e : Int} {c0 c1 c2 c3 c4 : Value} (m : MidR w W g h q l e c0 c1 c2 c3 c4) :
    RdX w g h (n + 1) (zT, l, e) (.returned (.agg #[.int .i64 0, .int .i64 0, .int .u64 0, .string ⟨#[]⟩, .slice none 0 0])) (set5 W w.heap.size 0 (.int .i64 0) (.int .i64 0) (.int .u64 0) (.string ⟨#[]⟩) (.slice none 0 0)) := by
  have a := m.q0
  have b := m.q1
  have c := m.gw
  have d := m.hw
  have kb := set5_kb W w.heap.size 0 (.int .i64 0) (.int .i64 0) (.int .u64 0) (.string ⟨#[]⟩) (.slice none 0 0)
  exact ⟨_, rfl, zT_is _ _ _, m.st.keep (kb.2.2.2.2 g (by omega) (by omega)) (kb.2.2.2.2 h (by omega) (by omega)), kb_below m.kb (kb.below (Nat.le_refl _) (by omega))⟩
set_option maxHeartbeats 1000000 in
set_option maxRecDepth 100000 in
theorem rreadv_calls (w : World) (g h : Nat) (l : List UInt8) (e : Int) (r : RT w g h l e) (hh : h < w.heap.size) (hl : l.length ≤ 281474976710656) :
    Calls Try.prog 30 #[.pointer (some ⟨g, 0, none⟩)] w (RdX w g h 5 (rdR l e)) := by
  have hg := r.lt
  have s0 : RT (w.alloc (.cells #[.int .i64 0, .int .i64 0, .int .u64 0, .string ⟨#[]⟩, .slice none 0 0] 25)) g h l e := r.keep ((bel1 w _).block g hg) ((bel1 w _).block h hh)
  have LF : Hid (Calls Try.prog 67 #[.pointer (some ⟨g, 0, none⟩)] (w.alloc (.cells #[.int .i64 0, .int .i64 0, .int .u64 0, .string ⟨#[]⟩, .slice none 0 0] 25)) _) := rleft_rt _ g h l e s0
  have RC := rread_calls 4 (by omega) (w.alloc (.cells #[.int .i64 0, .int .i64 0, .int .u64 0, .string ⟨#[]⟩, .slice none 0 0] 25)) g h l e s0 (by simp; omega)
  have hlen := rdV_len 4 l e
  have hdef : rdR l e = afR l.length (rdV 4 l e) := rfl
  rw [hdef]
  generalize rdV 4 l e = R at RC hlen ⊢
  obtain ⟨t, l1, e1⟩ := R
  dsimp only at hlen
  have HRC : Hid (Calls Try.prog 68 #[.pointer (some ⟨g, 0, none⟩), .int .i64 4] (w.alloc (.cells #[.int .i64 0, .int .i64 0, .int .u64 0, .string ⟨#[]⟩, .slice none 0 0] 25)) (RdQ _ g h 5 (t, l1, e1))) := RC
  obtain ⟨A, hA⟩ : ∃ A, A = l.length := ⟨_, rfl⟩
  obtain ⟨B, hB⟩ : ∃ B, B = l1.length := ⟨_, rfl⟩
  rw [← hA] at LF ⊢
  obtain ⟨D, hD⟩ : ∃ D : Int, D = (A : Int) - (B : Int) := ⟨_, rfl⟩
  have hw1 : wrap64 ((A : Int) - (B : Int)) = D := by rw [hD]; unfold wrap64; omega
  have hw2 : IntKind.i64.wrap ((A : Int) - (B : Int)) = D := by rw [hD, IntKind.wrap_i64]; omega
  have HGH : Hid (g < w.heap.size ∧ h < w.heap.size) := ⟨hg, hh⟩
  have HB : Hid (B = l1.length) := hB
  have HD : Hid (D = (A : Int) - (B : Int)) := hD
  clear RC hdef s0 r hg hh hl hlen hA hB hD
  by_cases h0 : e1 = 0
  · subst h0
    by_cases hbig : 1000 < D
    · have d1 : decide (1000 < D) = true := decide_eq_true hbig
      have HF : Hid (afR A (t, l1, 0) = (zT, flL l1 0, flE 0 5)) := by show _ = _; unfold afR; dsimp only; rw [if_pos (by have := HD.out; have := HB.out; omega)]
      clear hbig
      go_enter Try.func30, Try.ntmps30
      go_wp2_with fail
      refine LF.out.mono ?_
      rintro x w0 ⟨rfl, hw0⟩
      have hw0' := hw0.symm
      subst hw0'
      clear hw0
      go_wp2_with fail
      refine HRC.out.mono ?_
      rintro x w1 ⟨v, t1, rfl, hi1, ht1, s1, k1⟩
      dsimp only at s1
      obtain ⟨vk, vx, vb, vs, va, vm, vc, rfl⟩ := hi1.shape
      have M0 : Hid (MidR w (w1.alloc (.cells #[.int .i64 vk, .int .i64 vx, .int .u64 vb, .string vs, .slice va vm vc] 25)) g h w1.heap.size l1 0 (.int .i64 vk) (.int .i64 vx) (.int .u64 vb) (.string vs) (.slice va vm vc)) := MidR.box HGH.out.1 HGH.out.2 s1 k1
      obtain ⟨W2, hW2⟩ : ∃ W2, W2 = w1.alloc (.cells #[.int .i64 vk, .int .i64 vx, .int .u64 vb, .string vs, .slice va vm vc] 25) := ⟨_, rfl⟩
      obtain ⟨q, hq⟩ : ∃ q, q = w1.heap.size := ⟨_, rfl⟩
      rw [← hW2, ← hq] at M0
      have HW2 : Hid (W2 = _) := hW2
      have HQ : Hid (q = w1.heap.size) := hq
      have L2 : Hid (Calls Try.prog 67 #[.pointer (some ⟨g, 0, none⟩)] W2 fun x w' => x = .returned (.int .i64 (B : Int)) ∧ w' = W2) := by
        have := rleft_rt W2 g h l1 _ M0.out.st
        rwa [← HB.out] at this
      have EC : Hid (Calls Try.prog 32 #[.pointer (some ⟨g, 0, none⟩)] W2 _) := rerr_rt _ _ _ _ _ M0.out.st
      clear hi1 ht1 s1 k1 hW2 hq
      go_upto_region 3 with fail
      rw [← HW2.out, ← HQ.out]
      go_wp2_with fail
      refine EC.out.mono ?_
      rintro x w5 ⟨rfl, hw5⟩
      have hw5' := hw5.symm
      subst hw5'
      clear hw5
      go_wp2_with fail
      refine L2.out.mono ?_
      rintro x w3 ⟨rfl, hw3⟩
      have hw3' := hw3.symm
      subst hw3'
      clear hw3
      have FC : Hid (Calls Try.prog 66 #[.pointer (some ⟨g, 0, none⟩), .int .i64 5] W2 fun r w' => r = .returned (.tuple #[]) ∧ RT w' g h (flL l1 0) (flE 0 5) ∧ KB g W2 w') := by
        have := rfail_rt W2 g h l1 0 5 M0.out.st
        rwa [fl_l l1 0 5 (by decide), fl_e 0 5] at this
      clear EC
      go_wp2_with fail
      refine FC.out.mono ?_
      rintro x w4 ⟨rfl, s4, k4⟩
      have M4 : Hid (MidR w w4 g h q (flL l1 0) (flE 0 5) (.int .i64 vk) (.int .i64 vx) (.int .u64 vb) (.string vs) (.slice va vm vc)) := M0.out.step s4 k4
      have EC : Hid (Calls Try.prog 32 #[.pointer (some ⟨g, 0, none⟩)] w4 _) := rerr_rt _ _ _ _ _ M4.out.st
      have dE : (flE 0 5 != 0) = true := by simpa using flE_ne (e := 0) (f := 5) (by decide)
      clear s4 k4 FC
      go_wp2_with fail
      refine EC.out.mono ?_
      rintro x w6 ⟨rfl, hw6⟩
      have hw6' := hw6.symm
      subst hw6'
      clear hw6
      obtain ⟨b0, b1, b2, b3, b4⟩ := M4.out.res
      have f0 := M4.out.rfr 0
      have f1 := M4.out.rfr 1
      have f2 := M4.out.rfr 2
      have f3 := M4.out.rfr 3
      have f4 := M4.out.rfr 4
      go_wp2_with fail
      refine bodyPost_ret (ret5 Try.results30 _ (g := w.heap.size) rfl (set5_at M4.out.res (.int .i64 0) (.int .i64 0) (.int .u64 0) (.string ⟨#[]⟩) (.slice none 0 0))) rfl ?_
      rw [HF.out]
      exact M4.out.fin0
    · have d1 : decide (1000 < D) = false := decide_eq_false hbig
      have HF : Hid (afR A (t, l1, 0) = (t, l1, 0)) := by show _ = _; unfold afR; dsimp only; rw [if_neg (by have := HD.out; have := HB.out; omega), if_pos rfl]
      clear hbig
      go_enter Try.func30, Try.ntmps30
      go_wp2_with fail
      refine LF.out.mono ?_
      rintro x w0 ⟨rfl, hw0⟩
      have hw0' := hw0.symm
      subst hw0'
      clear hw0
      go_wp2_with fail
      refine HRC.out.mono ?_
      rintro x w1 ⟨v, t1, rfl, hi1, ht1, s1, k1⟩
      dsimp only at s1
      obtain ⟨vk, vx, vb, vs, va, vm, vc, rfl⟩ := hi1.shape
      have M0 : Hid (MidR w (w1.alloc (.cells #[.int .i64 vk, .int .i64 vx, .int .u64 vb, .string vs, .slice va vm vc] 25)) g h w1.heap.size l1 0 (.int .i64 vk) (.int .i64 vx) (.int .u64 vb) (.string vs) (.slice va vm vc)) := MidR.box HGH.out.1 HGH.out.2 s1 k1
      obtain ⟨W2, hW2⟩ : ∃ W2, W2 = w1.alloc (.cells #[.int .i64 vk, .int .i64 vx, .int .u64 vb, .string vs, .slice va vm vc] 25) := ⟨_, rfl⟩
      obtain ⟨q, hq⟩ : ∃ q, q = w1.heap.size := ⟨_, rfl⟩
      rw [← hW2, ← hq] at M0
      have HW2 : Hid (W2 = _) := hW2
      have HQ : Hid (q = w1.heap.size) := hq
      have L2 : Hid (Calls Try.prog 67 #[.pointer (some ⟨g, 0, none⟩)] W2 fun x w' => x = .returned (.int .i64 (B : Int)) ∧ w' = W2) := by
        have := rleft_rt W2 g h l1 _ M0.out.st
        rwa [← HB.out] at this
      have EC : Hid (Calls Try.prog 32 #[.pointer (some ⟨g, 0, none⟩)] W2 _) := rerr_rt _ _ _ _ _ M0.out.st
      have I2 : Hid (IsN (w.heap.size + 1) W2 5 (.agg #[.int .i64 vk, .int .i64 vx, .int .u64 vb, .string vs, .slice va vm vc]) t) := by
        rw [HW2.out]
        have hz : (w.alloc (.cells #[.int .i64 0, .int .i64 0, .int .u64 0, .string ⟨#[]⟩, .slice none 0 0] 25)).heap.size = w.heap.size + 1 := by simp
        rw [hz] at hi1
        have ht2 : t1 = t := ht1 rfl
        rw [← ht2]
        exact hi1.kb (kb_below (KB.refl g w1) (bel1 _ _)) (by have := HGH.out.1; omega)
      clear hi1 ht1 s1 k1 hW2 hq
      go_upto_region 3 with fail
      rw [← HW2.out, ← HQ.out]
      go_wp2_with fail
      refine EC.out.mono ?_
      rintro x w5 ⟨rfl, hw5⟩
      have hw5' := hw5.symm
      subst hw5'
      clear hw5
      go_wp2_with fail
      refine L2.out.mono ?_
      rintro x w3 ⟨rfl, hw3⟩
      have hw3' := hw3.symm
      subst hw3'
      clear hw3
      go_wp2_with fail
      refine EC.out.mono ?_
      rintro x w6 ⟨rfl, hw6⟩
      have hw6' := hw6.symm
      subst hw6'
      clear hw6
      obtain ⟨a0, a1, a2, a3, a4⟩ := M0.out.own
      obtain ⟨b0, b1, b2, b3, b4⟩ := M0.out.res
      have f0 := M0.out.rfr 0
      have f1 := M0.out.rfr 1
      have f2 := M0.out.rfr 2
      have f3 := M0.out.rfr 3
      have f4 := M0.out.rfr 4
      go_wp2_with fail
      refine bodyPost_ret (ret5 Try.results30 _ (g := w.heap.size) rfl (set5_at M0.out.res (.int .i64 vk) (.int .i64 vx) (.int .u64 vb) (.string vs) (.slice va vm vc))) rfl ?_
      rw [HF.out]
      exact M0.out.finX I2.out
  · have dE : (e1 != 0) = true := by simpa using h0
    have dE2 : (e1 == 0) = false := by simpa using h0
    have HF : Hid (afR A (t, l1, e1) = (zT, l1, e1)) := by
      show _ = _
      unfold afR flL flE
      dsimp only
      rw [if_neg h0, if_neg h0, if_neg h0]
      split <;> rfl
    clear h0
    go_enter Try.func30, Try.ntmps30
    go_wp2_with fail
    refine LF.out.mono ?_
    rintro x w0 ⟨rfl, hw0⟩
    have hw0' := hw0.symm
    subst hw0'
    clear hw0
    go_wp2_with fail
    refine HRC.out.mono ?_
    rintro x w1 ⟨v, t1, rfl, hi1, ht1, s1, k1⟩
    dsimp only at s1
    obtain ⟨vk, vx, vb, vs, va, vm, vc, rfl⟩ := hi1.shape
    have M0 : Hid (MidR w (w1.alloc (.cells #[.int .i64 vk, .int .i64 vx, .int .u64 vb, .string vs, .slice va vm vc] 25)) g h w1.heap.size l1 e1 (.int .i64 vk) (.int .i64 vx) (.int .u64 vb) (.string vs) (.slice va vm vc)) := MidR.box HGH.out.1 HGH.out.2 s1 k1
    obtain ⟨W2, hW2⟩ : ∃ W2, W2 = w1.alloc (.cells #[.int .i64 vk, .int .i64 vx, .int .u64 vb, .string vs, .slice va vm vc] 25) := ⟨_, rfl⟩
    obtain ⟨q, hq⟩ : ∃ q, q = w1.heap.size := ⟨_, rfl⟩
    rw [← hW2, ← hq] at M0
    have HW2 : Hid (W2 = _) := hW2
    have HQ : Hid (q = w1.heap.size) := hq
    have L2 : Hid (Calls Try.prog 67 #[.pointer (some ⟨g, 0, none⟩)] W2 fun x w' => x = .returned (.int .i64 (B : Int)) ∧ w' = W2) := by
      have := rleft_rt W2 g h l1 _ M0.out.st
      rwa [← HB.out] at this
    have EC : Hid (Calls Try.prog 32 #[.pointer (some ⟨g, 0, none⟩)] W2 _) := rerr_rt _ _ _ _ _ M0.out.st
    clear hi1 ht1 s1 k1 hW2 hq
    go_upto_region 3 with fail
    rw [← HW2.out, ← HQ.out]
    go_wp2_with fail
    refine EC.out.mono ?_
    rintro x w5 ⟨rfl, hw5⟩
    have hw5' := hw5.symm
    subst hw5'
    clear hw5
    go_wp2_with fail
    refine EC.out.mono ?_
    rintro x w6 ⟨rfl, hw6⟩
    have hw6' := hw6.symm
    subst hw6'
    clear hw6
    obtain ⟨b0, b1, b2, b3, b4⟩ := M0.out.res
    have f0 := M0.out.rfr 0
    have f1 := M0.out.rfr 1
    have f2 := M0.out.rfr 2
    have f3 := M0.out.rfr 3
    have f4 := M0.out.rfr 4
    go_wp2_with fail
    refine bodyPost_ret (ret5 Try.results30 _ (g := w.heap.size) rfl (set5_at M0.out.res (.int .i64 0) (.int .i64 0) (.int .u64 0) (.string ⟨#[]⟩) (.slice none 0 0))) rfl ?_
    rw [HF.out]
    exact M0.out.fin0
end Go.Proofs.Ytjmonkhkcmcfiaa
namespace Go.Proofs.Ytjmonkhkcmcfiaa
open Go.ChangeShapes Go.WideShapes Go.ChangeAt Go.RowKit
/-- Where Parse stands when the value is read. -/
structure PMidR (w W : World) (g h q : Nat) (l : List UInt8) (e : Int) (c0 c1 c2 c3 c4 : Value) (t : Tv) : Prop where
  q0 : w.heap.size < q
  q1 : q < W.heap.size
  res : At5 W w.heap.size 0 (.int .i64 0) (.int .i64 0) (.int .u64 0) (.string ⟨#[]⟩) (.slice none 0 0)
  rfr : ∀ o, W.frozen? ⟨w.heap.size, o, none⟩ = false
  own : At5 W q 0 c0 c1 c2 c3 c4
  st : RT W g h l e
  is : IsN (w.heap.size + 1) W 5 (.agg #[c0, c1, c2, c3, c4]) t
  bel : Below w.heap.size w W
theorem PMidR.box {w w1 w2 : World} {g h : Nat} {l : List UInt8} {e : Int} {c0 c1 c2 c3 c4 : Value} {t : Tv}
    (hg : w.heap.size < g) (hg1 : g < w1.heap.size) (hh1 : h < w1.heap.size)
    (b1 : Below (w.alloc (.cells #[.int .i64 0, .int .i64 0, .int .u64 0, .string ⟨#[]⟩, .slice none 0 0] 25)).heap.size (w.alloc (.cells #[.int .i64 0, .int .i64 0, .int .u64 0, .string ⟨#[]⟩, .slice none 0 0] 25)) w1)
    (s : RT w2 g h l e) (kb : KB g w1 w2) (hi : IsN w1.heap.size w2 5 (.agg #[c0, c1, c2, c3, c4]) t) :
    PMidR w (w2.alloc (.cells #[c0, c1, c2, c3, c4] 25)) g h w2.heap.size l e c0 c1 c2 c3 c4 t := by
  have hz0 : w.heap.size < (w.alloc (.cells #[.int .i64 0, .int .i64 0, .int .u64 0, .string ⟨#[]⟩, .slice none 0 0] 25)).heap.size := by simp
  have hz1 := b1.size
  have hz2 := kb.2.2.2.1
  have r1 := ((box_at w (.int .i64 0) (.int .i64 0) (.int .u64 0) (.string ⟨#[]⟩) (.slice none 0 0)).below b1).kb kb (by omega)
  refine ⟨by omega, by simp, r1.below (bel1 _ _), fun o => ((bel1 w2 _).frozen (show w.heap.size < w2.heap.size by omega)).trans ((kb.frozen (a := ⟨w.heap.size, o, none⟩) (show w.heap.size < w1.heap.size by omega) (show w.heap.size ≠ g by omega)).trans ((b1.frozen (p := ⟨w.heap.size, o, none⟩) hz0).trans (fresh w _ o))), box_at w2 _ _ _ _ _, s.keep ((bel1 w2 _).block g (by omega)) ((bel1 w2 _).block h (by omega)), ?_, ?_⟩
  · exact ((hi.kb (kb_below (KB.refl w.heap.size w2) (bel1 _ _)) (by omega)).lower (by omega))
  · exact ((bel1 w _).trans ((b1.mono (by omega)).trans ((kb.below (by omega) (by omega)).trans ((bel1 w2 _).mono (by omega)))))
theorem PMidR.fin {w W : World} {g h q : Nat} {l : List UInt8} {e : Int} {c0 c1 c2 c3 c4 : Value} {t : Tv} (m : PMidR w W g h q l e c0 c1 c2 c3 c4 t) :
    Is (set5 W w.heap.size 0 c0 c1 c2 c3 c4) 5 (.agg #[c0, c1, c2, c3, c4]) t ∧ Below w.heap.size w (set5 W w.heap.size 0 c0 c1 c2 c3 c4) := by
  have kb := set5_kb W w.heap.size 0 c0 c1 c2 c3 c4
  exact ⟨(m.is.kb kb (by omega)).is, m.bel.trans (kb.below (Nat.le_refl _) m.bel.size)⟩
theorem PMidR.fin0 {w W : World} {g h q : Nat} {l : List UInt8} {e : Int} {c0 c1 c2 c3 c4 : Value} {t : Tv} (m : PMidR w W g h q l e c0 c1 c2 c3 c4 t) :
    Is (set5 W w.heap.size 0 (.int .i64 0) (.int .i64 0) (.int .u64 0) (.string ⟨#[]⟩) (.slice none 0 0)) 5 (.agg #[.int .i64 0, .int .i64 0, .int .u64 0, .string ⟨#[]⟩, .slice none 0 0]) zT ∧ Below w.heap.size w (set5 W w.heap.size 0 (.int .i64 0) (.int .i64 0) (.int .u64 0) (.string ⟨#[]⟩) (.slice none 0 0)) := by
  have kb := set5_kb W w.heap.size 0 (.int .i64 0) (.int .i64 0) (.int .u64 0) (.string ⟨#[]⟩) (.slice none 0 0)
  exact ⟨(zT_is 0 _ 4).is, m.bel.trans (kb.below (Nat.le_refl _) m.bel.size)⟩
end Go.Proofs.Ytjmonkhkcmcfiaa
namespace Go.Proofs.Ytjmonkhkcmcfiaa
open Go.ChangeShapes Go.WideShapes Go.ChangeAt Go.RowKit
set_option maxHeartbeats 1000000 in
theorem high_all (B : Nat) (v : Value) (l : List UInt8) (x k : Nat) (w : World) (hx : x < 18446744073709551616) (hk : k ≤ 8) (hB : B ≤ w.heap.size) (hv : Own B w v l) (hl : l.length ≤ 140737488353000) :
    Calls Try.prog 52 #[v, .int .u64 (x : Int), .int .i64 (k : Int)] w fun e w' => ∃ v', e = .returned v' ∧ Own B w' v' (l ++ be x k) ∧ Below B w w' := by
  obtain ⟨i0, hi, hz0, hz1, hz2⟩ := info_parts Try.info5
  have HV : Hid (Own B w v l) := hv
  clear hv
  obtain ⟨L, hL⟩ : ∃ L, L = l ++ be x k := ⟨_, rfl⟩
  have HL : Hid (L = l ++ be x k) := hL
  rw [← hL]
  have HX : Hid (x < 18446744073709551616) := hx
  clear hL hx
  go_enter Try.func52, Try.ntmps52
  go_wp2
  go_loopw [0, 2] (fun b i wr => ∃ (j : Nat) (acc : List UInt8), j ≤ k ∧ i = .int .i64 j ∧ Hid (Own B wr b acc) ∧ Hid (Below B w wr) ∧ Hid (acc ++ be x j = L)) (fun _ i _ => (intOf i).toNat)
  case atStart => exact ⟨k, l, Nat.le_refl _, rfl, HV, Below.refl _ _, HL.out.symm⟩
  case round =>
    obtain ⟨j, acc, hj, rfl, HO, HB, HE⟩ := hrel
    cases j with
    | zero =>
      go_wp2
      go_ret
      have he : acc = L := by have := HE.out; simpa [be] using this
      rw [he] at HO
      exact ⟨_, rfl, HO.out, HB.out⟩
    | succ j =>
      have hj0 : (0 : Int) < ((j + 1 : Nat) : Int) := by omega
      have hacc : acc.length ≤ 140737488353100 := by
        have h1 := congrArg List.length HE.out
        rw [HL.out] at h1
        simp [be_length] at h1
        omega
      have hws : B ≤ wr.heap.size := Nat.le_trans hB HB.out.size
      go_wp2
      go_loop [7, 8] (fun y i => ∃ m : Nat, m ≤ j ∧ i = .int .i64 m ∧ y = .int .u64 ((x / 256 ^ m : Nat) : Int)) (fun _ i => j - (intOf i).toNat)
      case atStart => exact ⟨0, Nat.zero_le _, rfl, by simp⟩
      case round =>
        obtain ⟨m, hm, rfl, rfl⟩ := hrel
        have HS : Hid (x / 256 ^ (m + 1) = x / 256 ^ m / 256) := div_step x m
        obtain ⟨q, hq⟩ : ∃ q, x / 256 ^ m = q := ⟨_, rfl⟩
        rw [hq] at HS ⊢
        have HQ : Hid (x / 256 ^ m = q) := hq
        have hqu : (q : Int) ≤ 18446744073709551615 := by
          have h1 := HX.out
          have h2 := Nat.div_le_self x (256 ^ m)
          omega
        clear hq
        by_cases hlt : m < j
        · go_wp2
          go_round
          case rel => exact ⟨m + 1, by omega, by go_num, by rw [HS.out]; go_num⟩
          case measure => simp [intOf]; omega
        · obtain rfl : m = j := by omega
          go_wp2_with (at_builtin; refine wpList_append_own _ rfl _ _ 32 rfl B 5 i0 (.int .u8 0) 1 1 Try.underlying32 hi hz0 hz1 hz2 rfl (by decide) _ _ _ rfl (HO.out.alloc _) ⟨wr.heap.size, 0, none⟩ 1 1 (bval [UInt8.ofNat q]) rfl ?qc1 ?qc2 ?qc3 ?qc4 ?qc5 ?qc6 ?_)
          case qc1 => rfl
          case qc2 =>
            intro i u hu
            rw [byte_lit q]
            exact hu
          case qc3 => intro u hu; obtain ⟨x, _, rfl⟩ := List.mem_map.1 hu; rfl
          case qc4 => unfold maxLen; omega
          case qc5 => omega
          case qc6 => omega
          intro v' w1 hown hgrow hnil
          have HW : Hid (Own B w1 v' (acc ++ [UInt8.ofNat q])) := by
            show w1.ownsRow B 5 1 v' _ _
            have e1 : (acc ++ [UInt8.ofNat q]).length = acc.length + 1 := by simp
            have e2 : bval (acc ++ [UInt8.ofNat q]) = bval acc ++ bval [UInt8.ofNat q] := by simp [bval]
            rw [e1, e2]
            exact hown
          have HBW : Hid (Below B w w1) := by
            refine (HB.out.alloc hws _).grown hgrow (by simp; omega) ?_
            intro kk hkk
            exact (World.ownsRow.lt HO.out kk hkk).1
          clear hown hgrow hnil
          go_wp2
          go_roundw
          case rel =>
            refine ⟨m, acc ++ [UInt8.ofNat q], by omega, by go_num, HW, HBW, ?_⟩
            show _ = L
            rw [← HE.out, ← HQ.out, pow_256]
            simp [be]
          case measure => simp [intOf]
theorem refNum_smallA (v : Value) (l : List UInt8) (m : Nat) (n : Int) (hn : n < 240) (hm : m = n.toNat) (w : World) (hv : Lib.HoldsBytes w v l) (hl : l.length ≤ 140737488353000) : Calls Try.prog 22 #[v, .int .i64 n] w (RB w (l ++ enc m)) := by
  obtain ⟨i0, hi, hz0, hz1, hz2⟩ := info_parts Try.info5
  have HV : Hid (Lib.HoldsBytes w v l) := hv
  have HLL : Hid (l.length ≤ 140737488353000) := hl
  obtain ⟨L, hL⟩ : ∃ L, L = l ++ enc m := ⟨_, rfl⟩
  have HL : Hid (L = l ++ enc m) := hL
  rw [← hL]
  have HE : Hid (enc m = [UInt8.ofNat m]) := by show enc m = _; unfold enc; rw [if_pos (by omega)]
  have BY : Hid (bval [UInt8.ofNat m] = [.int .u8 (m : Int)]) := by
    show bval [UInt8.ofNat m] = _
    have e : ((UInt8.ofNat m).toNat : Int) = (m : Int) := by rw [UInt8.toNat_ofNat']; omega
    simp only [bval, List.map_cons, List.map_nil]
    rw [e]
  have hm240 : (m : Int) < 240 := by omega
  rw [HE.out] at HL
  obtain ⟨p, cap, rfl, q1, q2⟩ := hv
  clear q1 q2 hL
  by_cases h0 : n < 0
  · obtain rfl : m = 0 := by omega
    clear hm
    have BY0 : Hid (bval [UInt8.ofNat 0] = [.int .u8 0]) := BY.out
    clear BY
    go_enter Try.func22, Try.ntmps22
    go_wp2_with fail
    refine (copied_all _ _ _ HV.out (by have := HLL.out; omega)).mono ?_
    rintro e w1 ⟨v1, rfl, ho, hb⟩
    have HO : Hid (Own w.heap.size w1 v1 l) := ho
    have HB : Hid (Below w.heap.size w w1) := hb
    clear ho hb
    go_wp2_with (at_builtin; refine wpList_append_own _ rfl _ _ 32 rfl w.heap.size 5 i0 (.int .u8 0) 1 1 Try.underlying32 hi hz0 hz1 hz2 rfl (by decide) _ _ _ rfl (HO.out.alloc _) ⟨w1.heap.size, 0, none⟩ 1 1 (bval [UInt8.ofNat 0]) rfl ?qc1 ?qc2 ?qc3 ?qc4 ?qc5 ?qc6 ?_)
    case qc1 => rfl
    case qc2 =>
      intro i u hu
      rw [BY0.out] at hu
      first | exact hu | (rw [add_plain, Nat.zero_add]; simpa using hu)
    case qc3 => intro u hu; obtain ⟨x, _, rfl⟩ := List.mem_map.1 hu; rfl
    case qc4 => unfold maxLen; omega
    case qc5 => omega
    case qc6 => have := HB.out.size; simp; omega
    intro v2 w2 hown hgrow hnil
    have HW : Hid (Own w.heap.size w2 v2 (l ++ [UInt8.ofNat 0])) := own_snoc hown
    have HBW : Hid (Below w.heap.size w w2) := by
      refine (HB.out.alloc HB.out.size _).grown hgrow (by have := HB.out.size; simp; omega) ?_
      intro kk hkk
      exact (World.ownsRow.lt HO.out kk hkk).1
    clear hown hgrow hnil
    go_wp2
    go_ret
    exact ⟨_, rfl, by rw [HL.out]; exact HW.out, HBW.out⟩
  · obtain rfl : n = (m : Int) := by omega
    clear hm
    go_enter Try.func22, Try.ntmps22
    go_wp2_with fail
    refine (copied_all _ _ _ HV.out (by have := HLL.out; omega)).mono ?_
    rintro e w1 ⟨v1, rfl, ho, hb⟩
    have HO : Hid (Own w.heap.size w1 v1 l) := ho
    have HB : Hid (Below w.heap.size w w1) := hb
    clear ho hb
    go_wp2_with (at_builtin; refine wpList_append_own _ rfl _ _ 32 rfl w.heap.size 5 i0 (.int .u8 0) 1 1 Try.underlying32 hi hz0 hz1 hz2 rfl (by decide) _ _ _ rfl (HO.out.alloc _) ⟨w1.heap.size, 0, none⟩ 1 1 (bval [UInt8.ofNat m]) rfl ?qc1 ?qc2 ?qc3 ?qc4 ?qc5 ?qc6 ?_)
    case qc1 => rfl
    case qc2 =>
      intro i u hu
      rw [BY.out] at hu
      first | exact hu | (rw [add_plain, Nat.zero_add]; simpa using hu)
    case qc3 => intro u hu; obtain ⟨x, _, rfl⟩ := List.mem_map.1 hu; rfl
    case qc4 => unfold maxLen; omega
    case qc5 => omega
    case qc6 => have := HB.out.size; simp; omega
    intro v2 w2 hown hgrow hnil
    have HW : Hid (Own w.heap.size w2 v2 (l ++ [UInt8.ofNat m])) := own_snoc hown
    have HBW : Hid (Below w.heap.size w w2) := by
      refine (HB.out.alloc HB.out.size _).grown hgrow (by have := HB.out.size; simp; omega) ?_
      intro kk hkk
      exact (World.ownsRow.lt HO.out kk hkk).1
    clear hown hgrow hnil
    go_wp2
    go_ret
    exact ⟨_, rfl, by rw [HL.out]; exact HW.out, HBW.out⟩
theorem refNum_bigA (v : Value) (l : List UInt8) (m : Nat) (h0 : 240 ≤ m) (h1 : m < 9223372036854775808) (w : World) (hv : Lib.HoldsBytes w v l) (hl : l.length ≤ 140737488352900) : Calls Try.prog 22 #[v, .int .i64 (m : Int)] w (RB w (l ++ enc m)) := by
  obtain ⟨i0, hi, hz0, hz1, hz2⟩ := info_parts Try.info5
  have HV : Hid (Lib.HoldsBytes w v l) := hv
  have HLL : Hid (l.length ≤ 140737488353000) := by show l.length ≤ 140737488353000; omega
  obtain ⟨L, hL⟩ : ∃ L, L = l ++ enc m := ⟨_, rfl⟩
  have HL : Hid (L = l ++ enc m) := hL
  rw [← hL]
  have HE : Hid (enc m = [UInt8.ofNat (239 + nb m)] ++ be m (nb m)) := by show enc m = _; unfold enc; rw [if_neg (by omega)]; rfl
  obtain ⟨k1, k8⟩ := nb_bounds m h0 h1
  have BY : Hid (bval [UInt8.ofNat (239 + nb m)] = [.int .u8 (239 + (nb m : Nat) : Int)]) := by
    show bval [UInt8.ofNat (239 + nb m)] = _
    have e : ((UInt8.ofNat (239 + nb m)).toNat : Int) = 239 + (nb m : Nat) := by rw [UInt8.toNat_ofNat']; omega
    simp only [bval, List.map_cons, List.map_nil]
    rw [e]
  obtain ⟨b0, hb0⟩ : ∃ b, UInt8.ofNat (239 + nb m) = b := ⟨_, rfl⟩
  rw [hb0] at HE BY
  clear hb0
  have H1 : Hid (m < 9223372036854775808) := h1
  have d0 : decide ((m : Int) < 0) = false := decide_eq_false (by omega)
  have d1 : decide ((m : Int) < 240) = false := decide_eq_false (by omega)
  have hw : IntKind.u64.wrap (m : Int) = (m : Int) := by rw [IntKind.wrap_u64]; omega
  have HLM : Hid (l.length ≤ 140737488352900) := hl
  obtain ⟨p, cap, rfl, q1, q2⟩ := hv
  clear q1 q2 hL
  clear h0 h1
  go_enter Try.func22, Try.ntmps22
  go_wp2_with fail
  refine (bytes_calls _ _ H1.out).mono ?_
  rintro e w0 ⟨rfl, hw0⟩
  have hw00 := hw0.symm
  subst hw00
  go_wp2_with fail
  refine (copied_all _ _ _ HV.out (by have := HLL.out; omega)).mono ?_
  rintro e w1 ⟨v1, rfl, ho, hb⟩
  have HO : Hid (Own w.heap.size w1 v1 l) := ho
  have HB : Hid (Below w.heap.size w w1) := hb
  clear ho hb
  go_wp2_with (at_builtin; refine wpList_append_own _ rfl _ _ 32 rfl w.heap.size 5 i0 (.int .u8 0) 1 1 Try.underlying32 hi hz0 hz1 hz2 rfl (by decide) _ _ _ rfl (HO.out.alloc _) ⟨w1.heap.size, 0, none⟩ 1 1 (bval [b0]) rfl ?qc1 ?qc2 ?qc3 ?qc4 ?qc5 ?qc6 ?_)
  case qc1 => rfl
  case qc2 =>
    intro i u hu
    rw [BY.out] at hu
    first | exact hu | (rw [add_plain, Nat.zero_add]; simpa using hu)
  case qc3 => intro u hu; obtain ⟨x, _, rfl⟩ := List.mem_map.1 hu; rfl
  case qc4 => unfold maxLen; omega
  case qc5 => omega
  case qc6 => have := HB.out.size; simp; omega
  intro v2 w2 hown hgrow hnil
  have HW : Hid (Own w.heap.size w2 v2 (l ++ [b0])) := own_snoc hown
  have HBW : Hid (Below w.heap.size w w2) := by
    refine (HB.out.alloc HB.out.size _).grown hgrow (by have := HB.out.size; simp; omega) ?_
    intro kk hkk
    exact (World.ownsRow.lt HO.out kk hkk).1
  clear hown hgrow hnil
  go_wp2_with fail
  refine (high_all w.heap.size _ _ _ _ _ (by have := H1.out; omega) k8 HBW.out.size HW.out (by have := HLM.out; simp; omega)).mono ?_
  rintro e w3 ⟨v3, rfl, ho, hb⟩
  have HO3 : Hid (Own w.heap.size w3 v3 (l ++ [b0] ++ be m (nb m))) := ho
  have HB3 : Hid (Below w.heap.size w2 w3) := hb
  clear ho hb
  go_wp2
  go_ret
  refine ⟨_, rfl, ?_, HBW.out.trans HB3.out⟩
  rw [HL.out, HE.out, ← List.append_assoc]
  exact HO3.out
theorem refBits_all (v : Value) (l : List UInt8) (x : Nat) (hx : x < 18446744073709551616) (w : World) (hv : Lib.HoldsBytes w v l) (hl : l.length ≤ 140737488353000) : Calls Try.prog 24 #[v, .int .u64 (x : Int)] w (RB w (l ++ be x 8)) := by
  have HV : Hid (Lib.HoldsBytes w v l) := hv
  have HLL : Hid (l.length ≤ 140737488353000) := hl
  obtain ⟨L, hL⟩ : ∃ L, L = l ++ be x 8 := ⟨_, rfl⟩
  have HL : Hid (L = l ++ be x 8) := hL
  rw [← hL]
  have HX : Hid (x < 18446744073709551616) := hx
  clear hx
  obtain ⟨p, cap, rfl, q1, q2⟩ := hv
  clear q1 q2 hL
  go_enter Try.func24, Try.ntmps24
  go_wp2_with fail
  refine (copied_all _ _ _ HV.out (by have := HLL.out; omega)).mono ?_
  rintro e w1 ⟨v1, rfl, ho, hb⟩
  have HO : Hid (Own w.heap.size w1 v1 l) := ho
  have HB : Hid (Below w.heap.size w w1) := hb
  clear ho hb
  go_wp2_with fail
  refine (high_all w.heap.size _ _ x 8 _ HX.out (by omega) HB.out.size HO.out HLL.out).mono ?_
  rintro e w3 ⟨v3, rfl, ho, hb⟩
  have HO3 : Hid (Own w.heap.size w3 v3 (l ++ be x 8)) := ho
  have HB3 : Hid (Below w.heap.size w1 w3) := hb
  clear ho hb
  go_wp2
  go_ret
  exact ⟨_, rfl, by rw [HL.out]; exact HO3.out, HB.out.trans HB3.out⟩
theorem refInt_all (v : Value) (l : List UInt8) (n : Int) (hn : (Lit.int .i64 n).wf = true) (w : World) (hv : Lib.HoldsBytes w v l) (hl : l.length ≤ 140737488353000) : Calls Try.prog 76 #[v, .int .i64 n] w (RB w (l ++ be (tn n) 8)) := by
  have HV : Hid (Lib.HoldsBytes w v l) := hv
  have HLL : Hid (l.length ≤ 140737488353000) := hl
  obtain ⟨L, hL⟩ : ∃ L, L = l ++ be (tn n) 8 := ⟨_, rfl⟩
  have HL : Hid (L = l ++ be (tn n) 8) := hL
  rw [← hL]
  have HX : Hid (tn n < 18446744073709551616) := tn_lt n hn
  have ht := turn_top n hn
  clear hn
  obtain ⟨p, cap, rfl, q1, q2⟩ := hv
  clear q1 q2 hL
  go_enter Try.func76, Try.ntmps76
  go_wp2_with fail
  refine (copied_all _ _ _ HV.out (by have := HLL.out; omega)).mono ?_
  rintro e w1 ⟨v1, rfl, ho, hb⟩
  have HO : Hid (Own w.heap.size w1 v1 l) := ho
  have HB : Hid (Below w.heap.size w w1) := hb
  clear ho hb
  go_wp2_with fail
  refine (high_all w.heap.size _ _ (tn n) 8 _ HX.out (by omega) HB.out.size HO.out HLL.out).mono ?_
  rintro e w3 ⟨v3, rfl, ho, hb⟩
  have HO3 : Hid (Own w.heap.size w3 v3 (l ++ be (tn n) 8)) := ho
  have HB3 : Hid (Below w.heap.size w1 w3) := hb
  clear ho hb
  go_wp2
  go_ret
  exact ⟨_, rfl, by rw [HL.out]; exact HO3.out, HB.out.trans HB3.out⟩
theorem refNum_all (v : Value) (l : List UInt8) (n : Int) (hn : n < 9223372036854775808) (w : World) (hv : Lib.HoldsBytes w v l) (hl : l.length ≤ 140737488352900) : Calls Try.prog 22 #[v, .int .i64 n] w (RB w (l ++ enc n.toNat)) := by
  by_cases h : n < 240
  · exact refNum_smallA v l n.toNat n h rfl w hv (by omega)
  · obtain ⟨m, rfl⟩ := Int.eq_ofNat_of_zero_le (show 0 ≤ n by omega)
    exact refNum_bigA v l m (by omega) (by omega) w hv hl
theorem refText_all (v : Value) (l : List UInt8) (s : ByteArray) (w : World) (hv : Lib.HoldsBytes w v l) (hl : l.length ≤ 140737488352900) (hs : s.size ≤ 1000) :
    Calls Try.prog 21 #[v, .string s] w (RB w (l ++ enc s.size ++ s.data.toList)) := by
  obtain ⟨i0, hi, hz0, hz1, hz2⟩ := info_parts Try.info5
  obtain ⟨L, hL⟩ : ∃ L, L = l ++ enc s.size ++ s.data.toList := ⟨_, rfl⟩
  have HL : Hid (L = l ++ enc s.size ++ s.data.toList) := hL
  rw [← hL]
  have NC := refNum_all v l (s.size : Int) (by omega) w hv hl
  rw [Int.toNat_natCast] at NC
  have HC : Hid (Calls Try.prog 22 #[v, .int .i64 (s.size : Int)] w (RB w (l ++ enc s.size))) := NC
  have he := enc_length s.size (by omega)
  have hlen : (l ++ enc s.size).length ≤ 140737488353100 := by rw [List.length_append]; omega
  generalize l ++ enc s.size = l2 at HC HL hlen
  obtain ⟨p, cap, rfl, q1, q2⟩ := hv
  clear q1 q2 hL NC he hl
  go_enter Try.func21, Try.ntmps21
  go_wp2_with fail
  refine HC.out.mono ?_
  rintro e w1 ⟨v1, rfl, ho, hb⟩
  have HO : Hid (Own w.heap.size w1 v1 l2) := ho
  have HB : Hid (Below w.heap.size w w1) := hb
  clear ho hb
  go_wp2_with (at_builtin; refine Lib.wpList_append_own_string _ rfl _ _ 32 9 rfl w.heap.size 5 i0 Try.underlying32 Try.underlying9 hi hz0 hz1 hz2 _ _ _ rfl HO.out s rfl ?qc4 ?qc5 ?qc6 ?_)
  case qc4 => unfold maxLen; omega
  case qc5 => omega
  case qc6 => exact HB.out.size
  intro v2 w2 hown hgrow hnil
  have HW : Hid (Own w.heap.size w2 v2 (l2 ++ s.data.toList)) := by
    show w2.ownsRow w.heap.size 5 1 v2 _ _
    have e1 : (l2 ++ s.data.toList).length = l2.length + s.size := by rw [List.length_append, str_len]
    have e2 : bval (l2 ++ s.data.toList) = bval l2 ++ Lib.strCells s := by simp [bval, Lib.strCells]
    rw [e1, e2]
    exact hown
  have HBW : Hid (Below w.heap.size w w2) := by
    refine HB.out.grown hgrow HB.out.size ?_
    intro kk hkk
    exact (World.ownsRow.lt HO.out kk hkk).1
  clear hown hgrow hnil
  go_wp2
  go_ret
  exact ⟨_, rfl, by rw [HL.out]; exact HW.out, HBW.out⟩
end Go.Proofs.Ytjmonkhkcmcfiaa
namespace Go.Proofs.Ytjmonkhkcmcfiaa
open Go.ChangeShapes Go.WideShapes Go.ChangeAt Go.RowKit Go.BigFrame
def BytesAtA (n : Nat) : Prop := ∀ (d : Nat) (v : Value) (t : Tv) (b : Value) (L : List UInt8) (w : World), Is w n v t → ShapeT n (d : Int) t → Lib.HoldsBytes w b L → L.length + (bytesT n t).length ≤ 140737488352600 → Calls Try.prog 53 #[b, v] w (RH w (L ++ bytesT n t))
set_option maxHeartbeats 2000000 in
set_option maxRecDepth 100000 in
theorem bytes_flatA (k x : Int) (b : Nat) (s : ByteArray) (a : Option Addr) (c : Nat) (bv : Value) (L : List UInt8) (w : World) (hk0 : 0 ≤ k) (hk : k ≤ 3) (hx : (Lit.int .i64 x).wf = true) (hb : b < 18446744073709551616) (hs : s.size ≤ 200) (hv : Lib.HoldsBytes w bv L) (hl : L.length + 210 ≤ 140737488352900) :
    Calls Try.prog 53 #[bv, .agg #[.int .i64 k, .int .i64 x, .int .u64 (b : Int), .string s, .slice a 0 c]] w (RH w (L ++ (enc k.toNat ++ (if k = 1 then be (tn x) 8 else if k = 2 then be b 8 else if k = 3 then enc s.size ++ s.data.toList else [])))) := by
  have he : (enc k.toNat).length = 1 := enc_one (by omega)
  have HN : Hid (∀ W, Below w.heap.size w W → Calls Try.prog 22 #[bv, .int .i64 k] W (RB W (L ++ enc k.toNat))) := fun W hB => refNum_all bv L k (by omega) W (holds_below hv hB) (by omega)
  obtain ⟨bp, bm, bc, rfl⟩ := holds_sliceY hv
  obtain ⟨M, hM⟩ : ∃ M, M = L ++ enc k.toNat := ⟨_, rfl⟩
  have hml : M.length ≤ 140737488352700 := by rw [hM, List.length_append]; omega
  rw [← List.append_assoc]
  rw [← hM] at HN ⊢
  have H1 : Hid (∀ W v, Lib.HoldsBytes W v M → Calls Try.prog 76 #[v, .int .i64 x] W (RB W (M ++ be (tn x) 8))) := fun W v h => refInt_all v M x hx W h (by omega)
  have H2 : Hid (∀ W v, Lib.HoldsBytes W v M → Calls Try.prog 24 #[v, .int .u64 (b : Int)] W (RB W (M ++ be b 8))) := fun W v h => refBits_all v M b hb W h (by omega)
  have H3 : Hid (∀ W v, Lib.HoldsBytes W v M → Calls Try.prog 21 #[v, .string s] W (RB W (M ++ enc s.size ++ s.data.toList))) := fun W v h => refText_all v M s W h (by omega) (by omega)
  clear hv hl he hM hml hx hb hs
  rcases (by omega : k = 0 ∨ k = 1 ∨ k = 2 ∨ k = 3) with rfl | rfl | rfl | rfl
  · rw [if_neg (by decide), if_neg (by decide), if_neg (by decide), List.append_nil]
    clear hk hk0
    go_enter Try.func53, Try.ntmps53
    go_wp2_with fail
    refine (HN.out _ (bel1 _ _)).mono ?_
    rintro e w1 ⟨v1, rfl, ho, hb⟩
    have HV : Hid (Lib.HoldsBytes w1 v1 M) := own_holds ho
    have HB : Hid (Below w.heap.size w w1) := bel2 (bel1 _ _) hb
    obtain ⟨p0, p1, p2, p3, p4⟩ := (box_at w (.int .i64 0) (.int .i64 x) (.int .u64 (b : Int)) (.string s) (.slice a 0 c)).below hb
    clear ho hb
    go_wp2_with fail
    go_ret
    exact ⟨_, rfl, HV.out, HB.out⟩
  · rw [if_pos rfl]
    clear hk hk0
    go_enter Try.func53, Try.ntmps53
    go_wp2_with fail
    refine (HN.out _ (bel1 _ _)).mono ?_
    rintro e w1 ⟨v1, rfl, ho, hb⟩
    have HV : Hid (Lib.HoldsBytes w1 v1 M) := own_holds ho
    have HB : Hid (Below w.heap.size w w1) := bel2 (bel1 _ _) hb
    obtain ⟨p0, p1, p2, p3, p4⟩ := (box_at w (.int .i64 1) (.int .i64 x) (.int .u64 (b : Int)) (.string s) (.slice a 0 c)).below hb
    clear ho hb
    go_wp2_with fail
    refine (H1.out _ _ HV.out).mono ?_
    rintro e w2 ⟨v2, rfl, ho, hb⟩
    have HV2 : Hid (Lib.HoldsBytes w2 v2 _) := own_holds ho
    have HB2 : Hid (Below w.heap.size w w2) := bel2 HB.out hb
    clear ho hb
    go_wp2_with fail
    go_ret
    exact ⟨_, rfl, HV2.out, HB2.out⟩
  · rw [if_neg (by decide), if_pos rfl]
    clear hk hk0
    go_enter Try.func53, Try.ntmps53
    go_wp2_with fail
    refine (HN.out _ (bel1 _ _)).mono ?_
    rintro e w1 ⟨v1, rfl, ho, hb⟩
    have HV : Hid (Lib.HoldsBytes w1 v1 M) := own_holds ho
    have HB : Hid (Below w.heap.size w w1) := bel2 (bel1 _ _) hb
    obtain ⟨p0, p1, p2, p3, p4⟩ := (box_at w (.int .i64 2) (.int .i64 x) (.int .u64 (b : Int)) (.string s) (.slice a 0 c)).below hb
    clear ho hb
    go_wp2_with fail
    refine (H2.out _ _ HV.out).mono ?_
    rintro e w2 ⟨v2, rfl, ho, hb⟩
    have HV2 : Hid (Lib.HoldsBytes w2 v2 _) := own_holds ho
    have HB2 : Hid (Below w.heap.size w w2) := bel2 HB.out hb
    clear ho hb
    go_wp2_with fail
    go_ret
    exact ⟨_, rfl, HV2.out, HB2.out⟩
  · rw [if_neg (by decide), if_neg (by decide), if_pos rfl, ← List.append_assoc]
    clear hk hk0
    go_enter Try.func53, Try.ntmps53
    go_wp2_with fail
    refine (HN.out _ (bel1 _ _)).mono ?_
    rintro e w1 ⟨v1, rfl, ho, hb⟩
    have HV : Hid (Lib.HoldsBytes w1 v1 M) := own_holds ho
    have HB : Hid (Below w.heap.size w w1) := bel2 (bel1 _ _) hb
    obtain ⟨p0, p1, p2, p3, p4⟩ := (box_at w (.int .i64 3) (.int .i64 x) (.int .u64 (b : Int)) (.string s) (.slice a 0 c)).below hb
    clear ho hb
    go_wp2_with fail
    refine (H3.out _ _ HV.out).mono ?_
    rintro e w2 ⟨v2, rfl, ho, hb⟩
    have HV2 : Hid (Lib.HoldsBytes w2 v2 _) := own_holds ho
    have HB2 : Hid (Below w.heap.size w w2) := bel2 HB.out hb
    clear ho hb
    go_wp2_with fail
    go_ret
    exact ⟨_, rfl, HV2.out, HB2.out⟩
set_option maxHeartbeats 2000000 in
set_option maxRecDepth 100000 in
theorem bytes_listA (n d : Nat) (ih : BytesAtA n) (x : Int) (b : Int) (s : ByteArray) (a : Option Addr) (c : Nat) (l : List Tv) (bv : Value) (L : List UInt8) (w : World) (hn : l.length ≤ 12) (hr : Row (Is w n) w a l) (hs : ∀ (i : Nat) t, l[i]? = some t → ShapeT n (d : Int) t) (hv : Lib.HoldsBytes w bv L) (hl : L.length + 2 + ((l.map (bytesT n)).flatten).length ≤ 140737488352600) :
    Calls Try.prog 53 #[bv, .agg #[.int .i64 4, .int .i64 x, .int .u64 b, .string s, .slice a l.length c]] w (RH w (L ++ enc 4 ++ enc l.length ++ (l.map (bytesT n)).flatten)) := by
  have hfl : ∀ j (hj : j < l.length), (((l.take j).map (bytesT n)).flatten).length + (bytesT n l[j]).length ≤ ((l.map (bytesT n)).flatten).length := fun j hj => by
    have h1 := flat_le (n := n) (l := l) (j := j + 1)
    rw [flat_more hj, List.length_append] at h1
    exact h1
  have e1 : (enc 4).length = 1 := enc_one (by omega)
  have e2 : (enc l.length).length = 1 := enc_one hn
  have HN : Hid (∀ W, Below w.heap.size w W → Calls Try.prog 22 #[bv, .int .i64 4] W (RB W (L ++ enc 4))) := fun W hB => refNum_all bv L 4 (by omega) W (holds_below hv hB) (by omega)
  have HM : Hid (∀ W v, Lib.HoldsBytes W v (L ++ enc 4) → Calls Try.prog 22 #[v, .int .i64 (l.length : Int)] W (RB W (L ++ enc 4 ++ enc l.length))) := fun W v h => by
    have := refNum_all v (L ++ enc 4) (l.length : Int) (by omega) W h (by rw [List.length_append]; omega)
    rwa [Int.toNat_natCast] at this
  obtain ⟨M, hM⟩ : ∃ M, M = L ++ enc 4 ++ enc l.length := ⟨_, rfl⟩
  have hml : M.length = L.length + 2 := by rw [hM, List.length_append, List.length_append]; omega
  rw [← hM] at HM ⊢
  obtain ⟨bp, bm, bc, rfl⟩ := holds_sliceY hv
  have HI : Hid (∀ (j : Nat) (hj : j < l.length) (v : Value) (bv : Value) (W : World), Is W n v (l[j]) → Lib.HoldsBytes W bv (M ++ ((l.take j).map (bytesT n)).flatten) → Calls Try.prog 53 #[bv, v] W (RH W (M ++ ((l.take (j + 1)).map (bytesT n)).flatten))) := fun j hj v bv W hi hb => by
    have := ih d v l[j] bv _ W hi (hs j _ (List.getElem?_eq_getElem hj)) hb (by rw [List.length_append]; have := hfl j hj; omega)
    rwa [List.append_assoc, ← flat_more hj] at this
  have HR : Hid (Row (Is w n) w a l) := hr
  obtain ⟨N, hN⟩ : ∃ N, N = l.length := ⟨_, rfl⟩
  rw [← hN] at HM ⊢
  have HNN : Hid (N = l.length ∧ N ≤ 12) := ⟨hN, by omega⟩
  clear hr hv hl hs hfl e1 e2 hM hml hN hn ih
  go_enter Try.func53, Try.ntmps53
  go_wp2_with fail
  refine (HN.out _ (bel1 _ _)).mono ?_
  rintro e w1 ⟨v1, rfl, ho, hb⟩
  have HV : Hid (Lib.HoldsBytes w1 v1 _) := own_holds ho
  have HB : Hid (Below w.heap.size w w1) := bel2 (bel1 _ _) hb
  have HP : Hid (At5 w1 w.heap.size 0 (.int .i64 4) (.int .i64 x) (.int .u64 b) (.string s) (.slice a N c)) := (box_at w (.int .i64 4) (.int .i64 x) (.int .u64 b) (.string s) (.slice a N c)).below hb
  clear ho hb
  obtain ⟨p0, p1, p2, p3, p4⟩ := HP.out
  go_wp2_with fail
  refine (HM.out _ _ HV.out).mono ?_
  rintro e w2 ⟨v2, rfl, ho, hb⟩
  have HV2 : Hid (Lib.HoldsBytes w2 v2 M) := own_holds ho
  have HB2 : Hid (Below w.heap.size w w2) := bel2 HB.out hb
  have HP2 : Hid (At5 w2 w.heap.size 0 (.int .i64 4) (.int .i64 x) (.int .u64 b) (.string s) (.slice a N c)) := HP.out.below hb
  clear ho hb p0 p1 p2 p3 p4
  go_wp2_with fail
  go_loopw [0, 5] (fun bb i wr => ∃ j : Nat, j ≤ N ∧ i = .int .i64 j ∧ Hid (Lib.HoldsBytes wr bb (M ++ ((l.take j).map (bytesT n)).flatten)) ∧ Hid (Below w2.heap.size w2 wr)) (fun _ i _ => N - (intOf i).toNat)
  case atStart => exact ⟨0, Nat.zero_le _, rfl, by simpa using HV2, Below.refl _ _⟩
  case round =>
    obtain ⟨j, hj, rfl, HE, HBr⟩ := hrel
    obtain ⟨p0, p1, p2, p3, p4⟩ := HP2.out.below HBr.out
    by_cases hlt : j < N
    · have HT : Hid (j < l.length) := by have := HNN.out.1; show _ < _; omega
      obtain ⟨B, o, c0, c1, c2, c3, c4, rfl, h5, hi⟩ := HR.out j _ (List.getElem?_eq_getElem HT.out)
      obtain ⟨k', x', b', s', a', m', c', rfl, rfl, rfl, rfl, rfl⟩ := hi.shape
      have HBw := bel2 HB2.out HBr.out
      obtain ⟨e0, e1, e2, e3, e4⟩ := h5.below HBw
      have C0 : Hid (Calls Try.prog 53 #[_, _] wr _) := HI.out j HT.out _ _ wr (hi.below HBw) HE.out
      have HW : Hid (wrap64 ((j : Int) + 1) = ((j + 1 : Nat) : Int)) := wr1 hlt (by have := HNN.out.2; omega)
      have hjl : (j : Int) < (N : Int) := by omega
      clear hi h5 HBw
      go_wp2_with fail
      refine C0.out.mono ?_
      rintro x w3 ⟨v3, rfl, hv3, hb3⟩
      have HV3 : Hid (Lib.HoldsBytes w3 v3 _) := hv3
      have HB3 : Hid (Below w2.heap.size w2 w3) := bel2 HBr.out hb3
      clear hv3 hb3
      go_wp2_with fail
      exact ⟨⟨j + 1, hlt, by rw [HW.out], HV3, HB3⟩, meas hlt HW.out⟩
    · obtain rfl : j = N := by omega
      go_wp2_with fail
      go_ret
      refine ⟨_, rfl, ?_, bel2 HB2.out HBr.out⟩
      have := HE.out
      rwa [List.take_of_length_le (by have := HNN.out.1; omega)] at this
theorem bytes_calls45A : ∀ n, BytesAtA n := by
  intro n
  induction n with
  | zero => intro d v t b L w h; exact h.elim
  | succ n ih =>
    rintro d v ⟨k, x, b, s, l⟩ bv L w ⟨a, c, rfl, hf, hr⟩ ⟨hfi, hk, hs⟩ hv hl
    obtain ⟨b, rfl⟩ : ∃ m : Nat, b = m := ⟨b.toNat, by have := hf.b0; omega⟩
    obtain ⟨k0, k4, _, _, _, _, hsz, hn0, hn⟩ := hfi
    by_cases h4 : k = 4
    · subst h4
      obtain ⟨d', rfl⟩ : ∃ d', d = d' + 1 := ⟨d - 1, by have := hk rfl; omega⟩
      unfold bytesT at hl ⊢
      rw [if_neg (by decide), if_neg (by decide), if_neg (by decide), if_pos rfl] at hl ⊢
      have e1 : (enc (4 : Int).toNat).length = 1 := enc_one (by omega)
      have e2 : (enc l.length).length = 1 := enc_one hn
      rw [List.length_append, List.length_append, e1, e2] at hl
      have := bytes_listA n d' ih x b s a c l bv L w hn hr (fun i t ht => by have := hs i t ht; rwa [show (((d' + 1 : Nat) : Int) - 1) = (d' : Int) by omega] at this) hv (by omega)
      rw [← List.append_assoc, ← List.append_assoc]
      exact this
    · obtain rfl : l = [] := List.eq_nil_of_length_eq_zero (hn0.resolve_left h4)
      have hx : (Lit.int .i64 x).wf = true := by
        have h1 := hf.x0
        have h2 := hf.x1
        simp only [Lit.wf, IntKind.min, IntKind.max, IntKind.signed, IntKind.bits, Bool.and_eq_true, decide_eq_true_eq, if_true]
        omega
      have := bytes_flatA k x b s a c bv L w k0 (by omega) hx (by have := hf.b1; omega) hsz hv (by omega)
      unfold bytesT
      rw [if_neg (c := k = 4) h4, Int.toNat_natCast]
      exact this
end Go.Proofs.Ytjmonkhkcmcfiaa
namespace Go.Proofs.Ytjmonkhkcmcfiaa
open Go.ChangeShapes Go.WideShapes Go.ChangeAt Go.RowKit Go.BigFrame
/-- append of bytes to none: its run. -/
theorem bapp_nil (v : Value) (l : List UInt8) (w : World) (hv : Lib.HoldsBytes w v l) (hl : l.length ≤ 140737488355328) :
    ∃ v' w', (∀ ty, (Builtin.append_ #[32, 32] ty #[.slice none 0 0, v]).run Try.prog w = .ok v' w') ∧ Own w.heap.size w' v' l ∧ Below w.heap.size w w' := by
  obtain ⟨p, cap, rfl, h1, h2⟩ := hv
  obtain ⟨i0, hi, hz0, hz1, hz2⟩ := info_parts Try.info5
  cases p with
  | none =>
    have hn : l = [] := h1 rfl
    subst hn
    exact ⟨.slice none 0 0, w, fun ty => by go_simp, World.ownsRow_nil _ _ _ _, Below.refl _ _⟩
  | some a =>
    have key : ∀ ty, ∃ v' w', (Builtin.append_ #[32, 32] ty #[.slice none 0 0, .slice (some a) l.length cap]).run Try.prog w = .ok v' w' ∧ w'.ownsRow w.heap.size 5 1 v' (0 + l.length) ([] ++ bval l) ∧ w.grownBy w' (Value.slice none 0 0).ownBlock ∧ _ := fun ty =>
      run_append_own (P := Try.prog) (w := w) w.heap.size 32 ty 5 i0 (.int .u8 0) 1 1 Try.underlying32 hi hz0 hz1 hz2 rfl (by decide) (.slice none 0 0) 0 [] (World.ownsRow_nil _ _ _ _) a l.length cap (bval l) (by simp [bval]) (by
        intro j u hj
        unfold bval at hj
        rw [List.getElem?_map] at hj
        obtain ⟨x, hx, rfl⟩ := Option.map_eq_some_iff.1 hj
        exact h2 a rfl j x hx) (by intro u hu; obtain ⟨x, _, rfl⟩ := List.mem_map.1 hu; rfl) (by unfold maxLen; omega) (by omega) (Nat.le_refl _)
    obtain ⟨v', w', hr, hown, hgrow, _⟩ := key 32
    exact ⟨v', w', fun ty => hr, by simpa [Own] using hown, (Below.refl _ w).grown hgrow (Nat.le_refl _) (by intro k hk; simp [Value.ownBlock] at hk)⟩
set_option maxHeartbeats 1000000 in
set_option maxRecDepth 100000 in
theorem rput_calls (n : Nat) (v : Value) (t : Tv) (b : Value) (l : List UInt8) (w : World) (h : Is w n v t) (hv : Lib.HoldsBytes w b l) (hl : l.length ≤ 140737488351232) :
    Calls Try.prog 23 #[b, v] w fun e w' => ∃ v', e = .returned v' ∧ (May n t → Lib.HoldsBytes w' v' (l ++ bytesT n t)) ∧ (¬ May n t → Lib.HoldsBytes w' v' l) ∧ Below w.heap.size w w' := by
  have HK : Hid (∀ W, Below w.heap.size w W → Calls Try.prog 49 #[v] W (VkP W (May n t))) := fun W hB => rcheck_calls n v t W (h.below hB)
  have HA : Hid (∀ W, Below w.heap.size w W → _) := fun W (hB : Below w.heap.size w W) => bapp_nil b l W (holds_below hv hB) (by omega)
  have HY : Hid (May n t → ∀ W bv, Below w.heap.size w W → Lib.HoldsBytes W bv l → Calls Try.prog 53 #[bv, v] W (RH W (l ++ bytesT n t))) := fun m W bv hB hb => bytes_calls45A n 4 v t bv l W (h.below hB) m.1 hb (by have := m.2; omega)
  obtain ⟨k, x, bb, s, a, m, c, rfl⟩ : ∃ k x b s a m c, v = .agg #[.int .i64 k, .int .i64 x, .int .u64 b, .string s, .slice a m c] := by
    cases n with
    | zero => exact h.elim
    | succ n => obtain ⟨k, x, b, s, l⟩ := t; obtain ⟨a, c, rfl, _⟩ := h; exact ⟨_, _, _, _, _, _, _, rfl⟩
  obtain ⟨bp, bm, bc, rfl⟩ := holds_sliceY hv
  have HM : Hid (May n t ∨ ¬ May n t) := Classical.em _
  clear h hv hl
  go_enter Try.func23, Try.ntmps23
  go_wp2_with fail
  refine (HK.out _ (bel1 _ _)).mono ?_
  rintro e w1 ⟨⟨r, rfl, hr1, hr2⟩, hb1⟩
  have HB1 : Hid (Below w.heap.size w w1) := bel2 (bel1 _ _) hb1
  obtain ⟨p0, p1, p2, p3, p4⟩ := (box_at w (.int .i64 k) (.int .i64 x) (.int .u64 bb) (.string s) (.slice a m c)).below hb1
  have HR : Hid ((May n t → r = 0) ∧ (¬ May n t → r = 1)) := ⟨hr1, hr2⟩
  clear hb1 hr1 hr2
  rcases HM.out with hm | hm
  · have hr0 := HR.out.1 hm
    subst hr0
    have HMy : Hid (May n t) := hm
    clear hm HR HM
    obtain ⟨v2, w2, hrun, ho2, hb2⟩ := HA.out w1.drew HB1.out.drew
    obtain ⟨vp, vm, vc, rfl⟩ := holds_sliceY (own_holds ho2)
    have HO2 : Hid (Lib.HoldsBytes w2 (.slice vp vm vc) l) := own_holds ho2
    have HB2 : Hid (Below w.heap.size w w2) := bel2 HB1.out.drew hb2
    have z : At5 w2 w.heap.size 0 (.int .i64 k) (.int .i64 x) (.int .u64 bb) (.string s) (.slice a m c) := At5.below (w := w1.drew) ⟨p0, p1, p2, p3, p4⟩ hb2
    obtain ⟨z0, z1, z2, z3, z4⟩ := z
    clear ho2 hb2
    go_wp2_with fail
    go_region_law (first
      | (refine step_app_run rfl (.const (.slice none 0 0)) (.tmp 10) 32 rfl (.slice none 0 0) (.slice bp bm bc) rfl rfl (by with_reducible assumption) ?_)
      | (go_simp; go_at_call 53; refine (HY.out HMy.out _ _ HB2.out HO2.out).mono ?_; rintro x w3 ⟨v3, rfl, hv3, hb3⟩; have HV3 : Hid (Lib.HoldsBytes w3 v3 _) := hv3; have HB3 : Hid (Below w.heap.size w w3) := bel2 HB2.out hb3; clear hv3 hb3))
    all_goals go_wp2_with fail
    all_goals go_ret
    all_goals exact ⟨_, rfl, fun _ => HV3.out, fun q => absurd HMy.out q, HB3.out⟩
  · have hr0 := HR.out.2 hm
    subst hr0
    have HMy : Hid (¬ May n t) := hm
    clear hm HR HM
    obtain ⟨v2, w2, hrun, ho2, hb2⟩ := HA.out w1 HB1.out
    have HO2 : Hid (Lib.HoldsBytes w2 v2 l) := own_holds ho2
    have HB2 : Hid (Below w.heap.size w w2) := bel2 HB1.out hb2
    clear ho2 hb2
    go_wp2_with (at_builtin; refine Lib.wpList_append_run _ rfl _ _ 32 32 rfl _ _ rfl rfl _ _ (hrun _) ?_)
    go_ret
    exact ⟨_, rfl, fun q => absurd q HMy.out, fun _ => HO2.out, HB2.out⟩
end Go.Proofs.Ytjmonkhkcmcfiaa
namespace Go.Proofs.Ytjmonkhkcmcfiaa
open Go.ChangeShapes Go.WideShapes Go.ChangeAt Go.RowKit Go.BigFrame
theorem St.below {w w' : World} {g h : Nat} {l : List UInt8} {e : Int} (r : St w g h l e) (hh : h < w.heap.size) (hb : Below w.heap.size w w') : St w' g h l e := r.keep hb.size (hb.block g r.lt) (hb.block h hh)
theorem RT.below {w w' : World} {g h : Nat} {l : List UInt8} {e : Int} (r : RT w g h l e) (hh : h < w.heap.size) (hb : Below w.heap.size w w') : RT w' g h l e := r.keep (hb.block g r.lt) (hb.block h hh)
theorem IsN.five {lo : Nat} {w : World} : ∀ {n : Nat} {v : Value} {t : Tv}, IsN lo w n v t → ∃ k x b s a m c, v = .agg #[.int .i64 k, .int .i64 x, .int .u64 b, .string s, .slice a m c]
  | 0, _, _, h => h.elim
  | _ + 1, _, .mk k x b s l, ⟨a, c, hv, _, _⟩ => ⟨k, x, b, s, a, l.length, c, hv⟩
end Go.Proofs.Ytjmonkhkcmcfiaa
