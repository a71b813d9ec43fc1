/- The reference's reader (PY, PZ, PG, PF). -/
import Derived.Test.YtobblioplfpndaaPH
import Derived.Test.YtobblioplfpndaaPS
namespace Go.Proofs.Ytobblioplfpndaa
open Go.ChangeShapes Go.WideShapes Go.ChangeAt Go.RowKit
/-- The reference's reader at block g: what is left, in block h, and its error. -/
def RD (w : World) (g h : Nat) (p : Option Addr) (c : Nat) (l : List UInt8) (e : Int) : Prop :=
  w.cell? ⟨g, 0, none⟩ = some (.slice p l.length c) ∧ w.cell? ⟨g, 1, none⟩ = some (.int .i64 e) ∧ w.frozen? ⟨g, 0, none⟩ = false ∧ w.frozen? ⟨g, 1, none⟩ = false ∧ l.length ≤ c ∧ h ≠ g ∧ HBk w h p l ∧ (e ≠ 0 → l = [])
def RT (w : World) (g h : Nat) (l : List UInt8) (e : Int) : Prop := ∃ p c, RD w g h p c l e
theorem RD.kb {w w' : World} {g h g' c : Nat} {p : Option Addr} {l : List UInt8} {e : Int} (r : RD w g h p c l e) (k : KB g' w w') (h1 : g ≠ g') (h2 : h ≠ g') : RD w' g h p c l e := by
  obtain ⟨a0, a1, f0, f1, hl, hg, hb, he⟩ := r
  have hlt := World.block_lt_of_cell? w _ a0
  exact ⟨k.cell a0 h1, k.cell a1 h1, (k.frozen (a := ⟨g, 0, none⟩) hlt h1).trans f0, (k.frozen (a := ⟨g, 1, none⟩) hlt h1).trans f1, hl, hg, hb.kb k h2, he⟩
theorem RT.kb {w w' : World} {g h g' : Nat} {l : List UInt8} {e : Int} (r : RT w g h l e) (k : KB g' w w') (h1 : g ≠ g') (h2 : h ≠ g') : RT w' g h l e := by
  obtain ⟨p, c, r⟩ := r
  exact ⟨p, c, r.kb k h1 h2⟩
/-- What a call of the reference's reader at g leaves. -/
def Rr (w : World) (g h : Nat) (v : Value) (l : List UInt8) (e : Int) (x : Ending) (w' : World) : Prop := x = .returned v ∧ RT w' g h l e ∧ KB g w w'
theorem rerr_rt (w : World) (g h : Nat) (l : List UInt8) (e : Int) (r : RT w g h l e) :
    Calls Try.prog 35 #[.pointer (some ⟨g, 0, none⟩)] w fun x w' => x = .returned (.int .i64 e) ∧ w' = w := by
  obtain ⟨p, c, a0, a1, f0, f1, hl, hg, hb, he⟩ := r
  clear hb he
  go_enter Try.func35, Try.ntmps35
  go_wp2
  go_ret
  exact ⟨rfl, rfl⟩
theorem rleft_rt (w : World) (g h : Nat) (l : List UInt8) (e : Int) (r : RT w g h l e) :
    Calls Try.prog 37 #[.pointer (some ⟨g, 0, none⟩)] w fun x w' => x = .returned (.int .i64 (l.length : Int)) ∧ w' = w := by
  obtain ⟨p, c, a0, a1, f0, f1, hl, hg, hb, he⟩ := r
  clear hb he
  go_enter Try.func37, Try.ntmps37
  go_wp2
  go_ret
  exact ⟨rfl, rfl⟩
theorem rend_rt (w : World) (g h : Nat) (l : List UInt8) (e : Int) (r : RT w g h l e) :
    Calls Try.prog 55 #[.pointer (some ⟨g, 0, none⟩)] w fun x w' => x = .returned (.int .i64 (en l e)) ∧ w' = w := by
  obtain ⟨p, c, a0, a1, f0, f1, hl, hg, hb, he⟩ := r
  clear hb he
  rcases Classical.em (e = 0) with h0 | h0
  · subst h0
    by_cases hz : l.length = 0
    · have hk : en l 0 = 0 := by simp [en, hz]
      rw [hk]
      rw [hz] at a0
      go_enter Try.func55, Try.ntmps55
      go_wp2
      go_ret
      exact ⟨rfl, rfl⟩
    · have hk : en l 0 = 3 := by simp [en]; intro h; subst h; simp at hz
      rw [hk]
      have hp : (0 : Int) < (l.length : Int) := by omega
      go_enter Try.func55, Try.ntmps55
      go_wp2
      go_ret
      exact ⟨rfl, rfl⟩
  · have he2 : (e == 0) = false := by simpa using h0
    have hk : en l e = e := by simp [en, he2]
    rw [hk]
    clear hk h0
    go_enter Try.func55, Try.ntmps55
    go_wp2
    go_ret
    exact ⟨rfl, rfl⟩
theorem rfail_rt (w : World) (g h : Nat) (l : List UInt8) (e f : Int) (r : RT w g h l e) :
    Calls Try.prog 62 #[.pointer (some ⟨g, 0, none⟩), .int .i64 f] w (Rr w g h (.tuple #[]) (if e == 0 && f != 0 then [] else l) (if e == 0 then f else e)) := by
  obtain ⟨p, c, r⟩ := r
  have R := r
  obtain ⟨a0, a1, f0, f1, hl, hg, hb, he⟩ := r
  rcases Classical.em (e = 0) with h0 | h0
  · subst h0
    rcases Classical.em (f = 0) with hf | hf
    · subst hf
      have HR : Hid (RD w g h p c l 0) := R
      clear hb he R
      show Calls Try.prog 62 #[.pointer (some ⟨g, 0, none⟩), .int .i64 0] w (Rr w g h (.tuple #[]) l 0)
      go_enter Try.func62, Try.ntmps62
      go_wp2
      first | go_end0 | refine bodyPost_ret (results_none rfl _ _ _) rfl ?_
      exact ⟨rfl, ⟨_, _, HR.out⟩, KB.refl _ _⟩
    · have hfb : (f != 0) = true := by simpa using hf
      have HR : Hid (RT ((w.setCell ⟨g, 1, none⟩ (.int .i64 f)).setCell ⟨g, 0, none⟩ (.slice none 0 0)) g h [] f ∧ KB g w ((w.setCell ⟨g, 1, none⟩ (.int .i64 f)).setCell ⟨g, 0, none⟩ (.slice none 0 0))) := by
        refine ⟨⟨none, 0, ?_, ?_, ?_, ?_, Nat.le_refl _, hg, HBk.nil _ _ _, fun _ => rfl⟩, (KB.setCell g w 1 _).trans (KB.setCell g _ 0 _)⟩
        · exact World.cell?_setCell_same _ _ _ ((cell_other w g 1 0 _ (by decide)).trans a0)
        · rw [cell_other _ g 0 1 _ (by decide)]
          exact World.cell?_setCell_same _ _ _ a1
        · rw [World.frozen?_setCell, World.frozen?_setCell]; exact f0
        · rw [World.frozen?_setCell, World.frozen?_setCell]; exact f1
      have e1 : (if ((0 : Int) == 0 && f != 0) = true then ([] : List UInt8) else l) = [] := by rw [hfb]; rfl
      rw [e1]
      show Calls Try.prog 62 #[.pointer (some ⟨g, 0, none⟩), .int .i64 f] w (Rr w g h (.tuple #[]) [] f)
      clear hb he R hf e1
      go_enter Try.func62, Try.ntmps62
      go_wp2
      first | go_end0 | refine bodyPost_ret (results_none rfl _ _ _) rfl ?_
      exact ⟨rfl, HR.out⟩
  · have hl0 : l = [] := he h0
    subst hl0
    have he2 : (e == 0) = false := by simpa using h0
    have he3 : (e != 0) = true := by simpa using h0
    have HR : Hid (RT (w.setCell ⟨g, 0, none⟩ (.slice none 0 0)) g h [] e ∧ KB g w (w.setCell ⟨g, 0, none⟩ (.slice none 0 0))) := by
      refine ⟨⟨none, 0, ?_, ?_, ?_, ?_, Nat.le_refl _, hg, HBk.nil _ _ _, fun _ => rfl⟩, KB.setCell g w 0 _⟩
      · exact World.cell?_setCell_same _ _ _ a0
      · rw [cell_other _ g 0 1 _ (by decide)]; exact a1
      · rw [World.frozen?_setCell]; exact f0
      · rw [World.frozen?_setCell]; exact f1
    have e1 : (if (e == 0 && f != 0) = true then ([] : List UInt8) else []) = [] := by split <;> rfl
    have e2 : (if (e == 0) = true then f else e) = e := by rw [he2]; rfl
    rw [e1, e2]
    clear hb he R e1 e2 h0
    go_enter Try.func62, Try.ntmps62
    go_wp2
    first | go_end0 | refine bodyPost_ret (results_none rfl _ _ _) rfl ?_
    exact ⟨rfl, HR.out⟩
end Go.Proofs.Ytobblioplfpndaa
namespace Go.Proofs.Ytobblioplfpndaa
open Go.ChangeShapes Go.WideShapes Go.ChangeAt Go.RowKit
theorem rtake_short (w : World) (g h : Nat) (l : List UInt8) (e : Int) (k : Nat) (hk : l.length < k) (r : RT w g h l e) :
    Calls Try.prog 98 #[.pointer (some ⟨g, 0, none⟩), .int .i64 (k : Int)] w (Rr w g h (.int .u64 0) [] (if e = 0 then 4 else e)) := by
  have FL := rfail_rt w g h l e 4 r
  have e1 : (if (e == 0 && (4 : Int) != 0) = true then ([] : List UInt8) else l) = [] := by
    rcases Classical.em (e = 0) with h0 | h0
    · subst h0; rfl
    · obtain ⟨p, c, _, _, _, _, _, _, _, he⟩ := r
      rw [he h0]; split <;> rfl
  have e2 : (if (e == 0) = true then (4 : Int) else e) = if e = 0 then 4 else e := by
    rcases Classical.em (e = 0) with h0 | h0
    · subst h0; rfl
    · rw [if_neg (by simpa using h0), if_neg h0]
  rw [e1, e2] at FL
  generalize (if e = 0 then 4 else e) = ee at FL ⊢
  have HF : Hid (Calls _ _ _ _ _) := FL
  obtain ⟨p, c, a0, a1, f0, f1, hl, hg, hb, he⟩ := r
  clear FL e1 e2 hb he
  have hkz : (l.length : Int) < (k : Int) := by omega
  go_enter Try.func98, Try.ntmps98
  go_wp2_with fail
  refine Calls.mono HF.out ?_
  rintro x w1 ⟨rfl, h1, h2⟩
  have H1 : Hid (RT _ _ _ _ _) := h1
  have H2 : Hid (KB _ _ _) := h2
  clear h1 h2 a0 a1 f0 f1
  go_wp2
  go_ret
  exact ⟨rfl, H1.out, H2.out⟩
theorem rtake_ok (w : World) (g h : Nat) (l : List UInt8) (k : Nat) (hk1 : 1 ≤ k) (hk8 : k ≤ 8) (hk : k ≤ l.length) (r : RT w g h l 0) :
    Calls Try.prog 98 #[.pointer (some ⟨g, 0, none⟩), .int .i64 (k : Int)] w (Rr w g h (.int .u64 ((valB (l.take k) : Nat) : Int)) (l.drop k) 0) := by
  obtain ⟨p, c, a0, a1, f0, f1, hl, hg, hb, he⟩ := r
  have hlne : l ≠ [] := by intro e; subst e; simp at hk; omega
  obtain ⟨o, rfl, hc⟩ := hb hlne
  have HC : Hid (∀ (i : Nat) x, l[i]? = some x → w.cell? ⟨h, o + i, none⟩ = some (.int .u8 (x.toNat : Int))) := hc
  have HR : Hid (RT (w.setCell ⟨g, 0, none⟩ (.slice (offA (some ⟨h, o, none⟩) c k) (l.length - k) (c - k))) g h (l.drop k) 0 ∧ KB g w (w.setCell ⟨g, 0, none⟩ (.slice (offA (some ⟨h, o, none⟩) c k) (l.length - k) (c - k)))) := by
    have hkb := KB.setCell g w 0 (.slice (offA (some ⟨h, o, none⟩) c k) (l.length - k) (c - k))
    refine ⟨⟨offA (some ⟨h, o, none⟩) c k, c - k, ?_, ?_, ?_, ?_, by rw [List.length_drop]; omega, hg, (hb.drop hl k).kb hkb hg, fun h => absurd rfl h⟩, hkb⟩
    · rw [World.cell?_setCell_same _ _ _ a0, List.length_drop]
    · rw [cell_other _ g 0 1 _ (by decide)]; exact a1
    · rw [World.frozen?_setCell]; exact f0
    · rw [World.frozen?_setCell]; exact f1
  have s1 := slice_from (some ⟨h, o, none⟩) l.length c k hk
  have hkz : ¬ ((l.length : Int) < (k : Int)) := by omega
  obtain ⟨L, hL⟩ : ∃ L, L = l.drop k := ⟨_, rfl⟩
  rw [← hL] at HR ⊢
  obtain ⟨V, hV⟩ : ∃ V, V = valB (l.take k) := ⟨_, rfl⟩
  have HVV : Hid (V = valB (l.take k)) := hV
  rw [← hV]
  clear hb he hc hlne hL hV
  go_enter Try.func98, Try.ntmps98
  go_wp2
  go_loop [5, 6] (fun x i => ∃ j X : Nat, j ≤ k ∧ i = .int .i64 j ∧ x = .int .u64 (X : Int) ∧ Hid (X = valB (l.take j))) (fun _ i => k - (intOf i).toNat)
  case atStart => exact ⟨0, 0, Nat.zero_le _, rfl, rfl, rfl⟩
  case round =>
    obtain ⟨j, X, hj, rfl, rfl, HXX⟩ := hrel
    by_cases hjk : j < k
    · have hjl : j < l.length := by omega
      have hx : l[j]? = some l[j] := List.getElem?_eq_getElem hjl
      generalize l[j] = b at hx
      have hcell := HC.out j b hx
      have HS : Hid (valB (l.take (j + 1)) = X * 256 + b.toNat) := by
        show _ = _
        rw [valB_take _ _ _ hx, HXX.out]
      have hXb : (X : Int) ≤ 72057594037927935 := by
        have h1 := valB_lt (l.take j)
        rw [← HXX.out, List.length_take] at h1
        have h2 : (256 : Nat) ^ min j l.length ≤ 256 ^ 7 := Nat.pow_le_pow_right (by decide) (by omega)
        have h3 : (256 : Nat) ^ 7 = 72057594037927936 := by decide +kernel
        omega
      have hbb : (b.toNat : Int) ≤ 255 := by have := b.toNat_lt; omega
      have hjz : (j : Int) < (l.length : Int) := by omega
      clear hx
      go_wp2
      go_round
      case rel => exact ⟨j + 1, X * 256 + b.toNat, by omega, by go_num, by go_num, HS.out.symm⟩
      case measure => simp [intOf]; omega
    · obtain rfl : j = k := by omega
      have hXV : X = V := by rw [HXX.out, HVV.out]
      subst hXV
      go_wp2
      go_ret
      exact ⟨rfl, HR.out⟩
/-- The error behind bytes that end too early. -/
def se (e : Int) : Int := if e = 0 then 4 else e
theorem se_ne (e : Int) : (se e != 0) = true ∧ (se e == 0) = false := by
  unfold se
  by_cases h : e = 0
  · rw [if_pos h]; exact ⟨rfl, rfl⟩
  · rw [if_neg h]; simp [h]
theorem rt_live {w : World} {g h : Nat} {l : List UInt8} {e : Int} (r : RT w g h l e) (hl : l ≠ []) : e = 0 := by
  obtain ⟨p, c, _, _, _, _, _, _, _, he⟩ := r
  rcases Classical.em (e = 0) with h0 | h0
  · exact h0
  · exact absurd (he h0) hl
theorem rtake_short' (w : World) (g h : Nat) (l : List UInt8) (e : Int) (k : Nat) (hk : l.length < k) (r : RT w g h l e) :
    Calls Try.prog 98 #[.pointer (some ⟨g, 0, none⟩), .int .i64 (k : Int)] w (Rr w g h (.int .u64 0) [] (se e)) := rtake_short w g h l e k hk r
theorem sInt_short (l : List UInt8) (e : Int) (h : l.length < 8) (hd : e ≠ 0 → l = []) : sInt l e = (0, [], se e) := by
  unfold sInt se
  rcases Classical.em (e = 0) with h0 | h0
  · rw [if_pos h0, if_pos h, if_pos h0]
  · rw [if_neg h0, if_neg h0, hd h0]
theorem sBits_short (l : List UInt8) (e : Int) (h : l.length < 8) (hd : e ≠ 0 → l = []) : sBits l e = (0, [], se e) := by
  unfold sBits se
  rcases Classical.em (e = 0) with h0 | h0
  · rw [if_pos h0, if_pos h, if_pos h0]
  · rw [if_neg h0, if_neg h0, hd h0]
theorem rt_nil {w : World} {g h : Nat} {l : List UInt8} {e : Int} (r : RT w g h l e) : e ≠ 0 → l = [] := by
  obtain ⟨p, c, _, _, _, _, _, _, _, he⟩ := r
  exact he
theorem rint_rt (w : World) (g h : Nat) (l : List UInt8) (e : Int) (r : RT w g h l e) :
    Calls Try.prog 86 #[.pointer (some ⟨g, 0, none⟩)] w (Rr w g h (.int .i64 (sInt l e).1) (sInt l e).2.1 (sInt l e).2.2) := by
  by_cases h8 : l.length < 8
  · rw [sInt_short l e h8 (rt_nil r)]
    have HT : Hid (Calls _ _ _ _ _) := rtake_short' w g h l e 8 h8 r
    have hs := (se_ne e).1
    generalize se e = ee at HT hs ⊢
    clear r
    dsimp only
    go_enter Try.func86, Try.ntmps86
    go_wp2_with fail
    refine Calls.mono HT.out ?_
    rintro x w1 ⟨rfl, h1, h2⟩
    have H1 : Hid (RT _ _ _ _ _) := h1
    have H2 : Hid (KB _ _ _) := h2
    obtain ⟨p1, c1, b0, b1, _, _, _, _, _, _⟩ := h1
    clear h2 b0
    go_wp2
    go_ret
    exact ⟨rfl, H1.out, H2.out⟩
  · obtain rfl : e = 0 := rt_live r (by intro e; subst e; simp at h8)
    have hk : sInt l 0 = ((valB (l.take 8) : Int) - 9223372036854775808, l.drop 8, 0) := by unfold sInt; rw [if_pos rfl, if_neg h8]
    rw [hk]
    dsimp only
    have HT : Hid (Calls _ _ _ _ _) := rtake_ok w g h l 8 (by omega) (by omega) (by omega) r
    have ht := turn_back (valB (l.take 8)) (val8_lt l)
    obtain ⟨V, hV⟩ : ∃ V : Int, (valB (l.take 8) : Int) - 9223372036854775808 = V := ⟨_, rfl⟩
    rw [hV] at ht ⊢
    have HTT : Hid (_ = V) := ht
    clear r hk hV ht
    go_enter Try.func86, Try.ntmps86
    go_wp2_with fail
    refine Calls.mono HT.out ?_
    rintro x w1 ⟨rfl, h1, h2⟩
    have H1 : Hid (RT _ _ _ _ _) := h1
    have H2 : Hid (KB _ _ _) := h2
    obtain ⟨p1, c1, b0, b1, _, _, _, _, _, _⟩ := h1
    clear h2 b0
    go_wp2
    go_ret
    exact ⟨ret_int HTT.out, H1.out, H2.out⟩
theorem rbits_rt (w : World) (g h : Nat) (l : List UInt8) (e : Int) (r : RT w g h l e) :
    Calls Try.prog 87 #[.pointer (some ⟨g, 0, none⟩)] w (Rr w g h (.int .u64 ((sBits l e).1 : Int)) (sBits l e).2.1 (sBits l e).2.2) := by
  by_cases h8 : l.length < 8
  · rw [sBits_short l e h8 (rt_nil r)]
    have HT : Hid (Calls _ _ _ _ _) := rtake_short' w g h l e 8 h8 r
    clear r
    dsimp only
    go_enter Try.func87, Try.ntmps87
    go_wp2_with fail
    refine Calls.mono HT.out ?_
    rintro x w1 ⟨rfl, h1, h2⟩
    have H1 : Hid (RT _ _ _ _ _) := h1
    have H2 : Hid (KB _ _ _) := h2
    obtain ⟨p1, c1, b0, b1, _, _, _, _, _, _⟩ := h1
    clear h2 b0
    go_wp2
    go_ret
    exact ⟨rfl, H1.out, H2.out⟩
  · obtain rfl : e = 0 := rt_live r (by intro e; subst e; simp at h8)
    have hk : sBits l 0 = (valB (l.take 8), l.drop 8, 0) := by unfold sBits; rw [if_pos rfl, if_neg h8]
    rw [hk]
    dsimp only
    have HT : Hid (Calls _ _ _ _ _) := rtake_ok w g h l 8 (by omega) (by omega) (by omega) r
    clear r hk
    go_enter Try.func87, Try.ntmps87
    go_wp2_with fail
    refine Calls.mono HT.out ?_
    rintro x w1 ⟨rfl, h1, h2⟩
    have H1 : Hid (RT _ _ _ _ _) := h1
    have H2 : Hid (KB _ _ _) := h2
    obtain ⟨p1, c1, b0, b1, _, _, _, _, _, _⟩ := h1
    clear h2 b0
    go_wp2
    go_ret
    exact ⟨rfl, H1.out, H2.out⟩
theorem sFlag_nil (e : Int) : sFlag [] e = (false, [], se e) := by
  unfold sFlag se
  by_cases h : e = 0
  · rw [if_pos h, if_pos h]
  · rw [if_neg h, if_neg h]
theorem rfirst (w : World) (g h : Nat) (b : UInt8) (t : List UInt8) (r : RT w g h (b :: t) 0) :
    Calls Try.prog 98 #[.pointer (some ⟨g, 0, none⟩), .int .i64 1] w (Rr w g h (.int .u64 (b.toNat : Int)) t 0) := by
  have h1 := rtake_ok w g h (b :: t) 1 (by omega) (by omega) (by simp) r
  have e : valB ((b :: t).take 1) = b.toNat := by simp [valB]
  rw [e] at h1
  simpa using h1
end Go.Proofs.Ytobblioplfpndaa
namespace Go.Proofs.Ytobblioplfpndaa
open Go.ChangeShapes Go.WideShapes Go.ChangeAt Go.RowKit
theorem nb_le (x k : Nat) (h : x < 256 ^ k) : nb x ≤ k := by
  rcases Classical.em (x = 0) with h0 | h0
  · subst h0; have : nb 0 = 0 := by decide
    omega
  · have h1 := nb_ge x h0
    rcases Nat.lt_or_ge k (nb x) with h2 | h2
    · have h3 : (2 : Nat) ^ (8 * k) ≤ 2 ^ (8 * (nb x - 1)) := Nat.pow_le_pow_right (by decide) (by omega)
      rw [← pow_256] at h3
      omega
    · exact h2
/-- The two tests of a number that could have been written in fewer bytes are one. -/
theorem long_iff (x k : Nat) (hk : 1 ≤ k) (hx : x < 256 ^ k) : (enc x).length ≤ k ↔ x < 240 ∨ nb x ≠ k := by
  have hn := nb_le x k hx
  unfold enc
  by_cases h : x < 240
  · rw [if_pos h]; simp [h]; omega
  · rw [if_neg h, List.length_cons, be_length]; simp only [h, false_or]; omega
theorem rnum_nil (w : World) (g h : Nat) (e m : Int) (r : RT w g h [] e) :
    Calls Try.prog 85 #[.pointer (some ⟨g, 0, none⟩), .int .i64 m] w (Rr w g h (.int .i64 0) [] (se e)) := by
  have HT : Hid (Calls _ _ _ _ _) := rtake_short' w g h [] e 1 (by simp) r
  have hs := (se_ne e).1
  generalize se e = ee at HT hs ⊢
  clear r
  go_enter Try.func85, Try.ntmps85
  go_wp2_with fail
  refine Calls.mono HT.out ?_
  rintro x w1 ⟨rfl, h1, h2⟩
  have R1 : Hid (RT _ _ _ _ _) := h1
  have K1 : Hid (KB _ _ _) := h2
  obtain ⟨p1, c1, z1, b1, _, _, _, _, _, _⟩ := h1
  clear h2 z1
  go_wp2
  go_ret
  exact ⟨rfl, R1.out, K1.out⟩
set_option maxRecDepth 100000 in
theorem rnum_one (w : World) (g h : Nat) (m : Int) (b : UInt8) (t : List UInt8) (hb : b.toNat < 240) (hm : ¬ m < (b.toNat : Int)) (r : RT w g h (b :: t) 0) : Calls Try.prog 85 #[.pointer (some ⟨g, 0, none⟩), .int .i64 m] w (Rr w g h (.int .i64 (b.toNat : Int)) t 0) := by
  have HT : Hid (Calls _ _ _ _ _) := rfirst w g h b t r
  have hbu : (b.toNat : Int) ≤ 255 := by have := b.toNat_lt; omega
  clear r
  have d0 : decide ((247 : Int) < (b.toNat : Int)) = false := decide_eq_false (by omega)
  have d1 : decide ((240 : Int) ≤ (b.toNat : Int)) = false := decide_eq_false (by omega)
  go_enter Try.func85, Try.ntmps85
  go_wp2_with fail
  refine Calls.mono HT.out ?_
  rintro x w1 ⟨rfl, h1, h2⟩
  have R1 : Hid (RT _ _ _ _ _) := h1
  have K1 : Hid (KB _ _ _) := h2
  obtain ⟨p1, c1, z1, b1, _, _, _, _, _, _⟩ := h1
  clear h2 z1
  go_wp2
  go_ret
  exact ⟨rfl, R1.out, K1.out⟩
set_option maxRecDepth 100000 in
theorem rnum_oneLong (w : World) (g h : Nat) (m : Int) (b : UInt8) (t : List UInt8) (hb : b.toNat < 240) (hm : m < (b.toNat : Int)) (r : RT w g h (b :: t) 0) : Calls Try.prog 85 #[.pointer (some ⟨g, 0, none⟩), .int .i64 m] w (Rr w g h (.int .i64 0) [] 5) := by
  have HT : Hid (Calls _ _ _ _ _) := rfirst w g h b t r
  have hbu : (b.toNat : Int) ≤ 255 := by have := b.toNat_lt; omega
  clear r
  have d0 : decide ((247 : Int) < (b.toNat : Int)) = false := decide_eq_false (by omega)
  have d1 : decide ((240 : Int) ≤ (b.toNat : Int)) = false := decide_eq_false (by omega)
  go_enter Try.func85, Try.ntmps85
  go_wp2_with fail
  refine Calls.mono HT.out ?_
  rintro x w1 ⟨rfl, h1, h2⟩
  have R1 : Hid (RT _ _ _ _ _) := h1
  have K1 : Hid (KB _ _ _) := h2
  obtain ⟨p1, c1, z1, b1, _, _, _, _, _, _⟩ := h1
  clear h2 z1
  go_wp2_with fail
  refine (rfail_rt w1 g h t 0 5 R1.out).mono ?_
  rintro x w2 ⟨rfl, h1, h2⟩
  have R2 : Hid (RT w2 g h [] 5) := h1
  have K2 : Hid (KB _ _ _) := h2
  clear h1 h2
  go_wp2
  go_ret
  exact ⟨rfl, R2.out, K1.out.trans K2.out⟩
set_option maxRecDepth 100000 in
theorem rnum_bad (w : World) (g h : Nat) (m : Int) (b : UInt8) (t : List UInt8) (hb : 247 < b.toNat) (r : RT w g h (b :: t) 0) : Calls Try.prog 85 #[.pointer (some ⟨g, 0, none⟩), .int .i64 m] w (Rr w g h (.int .i64 0) [] 3) := by
  have HT : Hid (Calls _ _ _ _ _) := rfirst w g h b t r
  have hbu : (b.toNat : Int) ≤ 255 := by have := b.toNat_lt; omega
  clear r
  have d0 : decide ((247 : Int) < (b.toNat : Int)) = true := decide_eq_true (by omega)
  go_enter Try.func85, Try.ntmps85
  go_wp2_with fail
  refine Calls.mono HT.out ?_
  rintro x w1 ⟨rfl, h1, h2⟩
  have R1 : Hid (RT _ _ _ _ _) := h1
  have K1 : Hid (KB _ _ _) := h2
  obtain ⟨p1, c1, z1, b1, _, _, _, _, _, _⟩ := h1
  clear h2 z1
  go_wp2_with fail
  refine (rfail_rt w1 g h t 0 3 R1.out).mono ?_
  rintro x w2 ⟨rfl, h1, h2⟩
  have R2 : Hid (RT w2 g h [] 3) := h1
  have K2 : Hid (KB _ _ _) := h2
  clear h1 h2
  go_wp2
  go_ret
  exact ⟨rfl, R2.out, K1.out.trans K2.out⟩
set_option maxRecDepth 100000 in
theorem rnum_short (w : World) (g h : Nat) (m : Int) (b : UInt8) (t : List UInt8) (k : Nat) (hk : b.toNat = 239 + k) (hk1 : 1 ≤ k) (hk8 : k ≤ 8) (hn : t.length < k) (r : RT w g h (b :: t) 0) : Calls Try.prog 85 #[.pointer (some ⟨g, 0, none⟩), .int .i64 m] w (Rr w g h (.int .i64 0) [] 4) := by
  have HT : Hid (Calls _ _ _ _ _) := rfirst w g h b t r
  have hbu : (b.toNat : Int) ≤ 255 := by have := b.toNat_lt; omega
  clear r
  have d0 : decide ((247 : Int) < (b.toNat : Int)) = false := decide_eq_false (by omega)
  have d1 : decide ((240 : Int) ≤ (b.toNat : Int)) = true := decide_eq_true (by omega)
  have hkz : (b.toNat : Int) - 239 = (k : Int) := by omega
  clear hk
  go_enter Try.func85, Try.ntmps85
  go_wp2_with fail
  refine Calls.mono HT.out ?_
  rintro x w1 ⟨rfl, h1, h2⟩
  have R1 : Hid (RT _ _ _ _ _) := h1
  have K1 : Hid (KB _ _ _) := h2
  obtain ⟨p1, c1, z1, b1, _, _, _, _, _, _⟩ := h1
  clear h2 z1
  go_wp2_with fail
  refine (rtake_short' w1 g h t 0 k hn R1.out).mono ?_
  rintro x w2 ⟨rfl, h1, h2⟩
  have R2 : Hid (RT w2 g h [] 4) := h1
  have K2 : Hid (KB _ _ _) := h2
  obtain ⟨p2, c2, z2, b2, _, _, _, _, _, _⟩ := h1
  clear h2 z2
  have b2' : w2.cell? ⟨g, 1, none⟩ = some (.int .i64 4) := b2
  clear b2 b1
  go_wp2
  go_ret
  exact ⟨rfl, R2.out, K1.out.trans K2.out⟩
set_option maxRecDepth 100000 in
theorem rnum_over (w : World) (g h : Nat) (m : Int) (b : UInt8) (t : List UInt8) (k : Nat) (hk : b.toNat = 239 + k) (hk1 : 1 ≤ k) (hk8 : k ≤ 8) (hn : k ≤ t.length) (x : Nat) (hx : valB (t.take k) = x) (ho : 9223372036854775807 < x) (r : RT w g h (b :: t) 0) : Calls Try.prog 85 #[.pointer (some ⟨g, 0, none⟩), .int .i64 m] w (Rr w g h (.int .i64 0) [] 3) := by
  have HT : Hid (Calls _ _ _ _ _) := rfirst w g h b t r
  have hbu : (b.toNat : Int) ≤ 255 := by have := b.toNat_lt; omega
  clear r
  have d0 : decide ((247 : Int) < (b.toNat : Int)) = false := decide_eq_false (by omega)
  have d1 : decide ((240 : Int) ≤ (b.toNat : Int)) = true := decide_eq_true (by omega)
  have hkz : (b.toNat : Int) - 239 = (k : Int) := by omega
  clear hk
  have HX : Hid (valB (t.take k) = x) := hx
  clear hx
  have d2 : decide ((9223372036854775807 : Int) < (x : Int)) = true := decide_eq_true (by omega)
  clear ho
  go_enter Try.func85, Try.ntmps85
  go_wp2_with fail
  refine Calls.mono HT.out ?_
  rintro x w1 ⟨rfl, h1, h2⟩
  have R1 : Hid (RT _ _ _ _ _) := h1
  have K1 : Hid (KB _ _ _) := h2
  obtain ⟨p1, c1, z1, b1, _, _, _, _, _, _⟩ := h1
  clear h2 z1
  go_wp2_with fail
  refine (rtake_ok w1 g h t k hk1 hk8 hn R1.out).mono ?_
  rw [HX.out]
  rintro x w2 ⟨rfl, h1, h2⟩
  have R2 : Hid (RT w2 g h (t.drop k) 0) := h1
  have K2 : Hid (KB _ _ _) := h2
  obtain ⟨p2, c2, z2, b2, _, _, _, _, _, _⟩ := h1
  clear h2 z2
  clear b1
  go_wp2_with fail
  refine (rfail_rt w2 g h (t.drop k) 0 3 R2.out).mono ?_
  rintro x w3 ⟨rfl, h1, h2⟩
  have R3 : Hid (RT w3 g h [] 3) := h1
  have K3 : Hid (KB _ _ _) := h2
  clear h1 h2
  go_wp2
  go_ret
  exact ⟨rfl, R3.out, (K1.out.trans K2.out).trans K3.out⟩
set_option maxRecDepth 100000 in
theorem rnum_few (w : World) (g h : Nat) (m : Int) (b : UInt8) (t : List UInt8) (k : Nat) (hk : b.toNat = 239 + k) (hk1 : 1 ≤ k) (hk8 : k ≤ 8) (hn : k ≤ t.length) (x : Nat) (hx : valB (t.take k) = x) (ho : x ≤ 9223372036854775807) (hs : x < 240) (r : RT w g h (b :: t) 0) : Calls Try.prog 85 #[.pointer (some ⟨g, 0, none⟩), .int .i64 m] w (Rr w g h (.int .i64 0) [] 3) := by
  have HT : Hid (Calls _ _ _ _ _) := rfirst w g h b t r
  have hbu : (b.toNat : Int) ≤ 255 := by have := b.toNat_lt; omega
  clear r
  have d0 : decide ((247 : Int) < (b.toNat : Int)) = false := decide_eq_false (by omega)
  have d1 : decide ((240 : Int) ≤ (b.toNat : Int)) = true := decide_eq_true (by omega)
  have hkz : (b.toNat : Int) - 239 = (k : Int) := by omega
  clear hk
  have HX : Hid (valB (t.take k) = x) := hx
  clear hx
  have d2 : decide ((9223372036854775807 : Int) < (x : Int)) = false := decide_eq_false (by omega)
  have hw : IntKind.i64.wrap (x : Int) = (x : Int) := by rw [IntKind.wrap_i64]; omega
  have hw2 : wrap64 (x : Int) = (x : Int) := by unfold wrap64; omega
  have HO : Hid (x < 9223372036854775808) := by show x < 9223372036854775808; omega
  clear ho
  have d3 : decide ((x : Int) < 240) = true := decide_eq_true (by omega)
  clear hs
  go_enter Try.func85, Try.ntmps85
  go_wp2_with fail
  refine Calls.mono HT.out ?_
  rintro x w1 ⟨rfl, h1, h2⟩
  have R1 : Hid (RT _ _ _ _ _) := h1
  have K1 : Hid (KB _ _ _) := h2
  obtain ⟨p1, c1, z1, b1, _, _, _, _, _, _⟩ := h1
  clear h2 z1
  go_wp2_with fail
  refine (rtake_ok w1 g h t k hk1 hk8 hn R1.out).mono ?_
  rw [HX.out]
  rintro x w2 ⟨rfl, h1, h2⟩
  have R2 : Hid (RT w2 g h (t.drop k) 0) := h1
  have K2 : Hid (KB _ _ _) := h2
  obtain ⟨p2, c2, z2, b2, _, _, _, _, _, _⟩ := h1
  clear h2 z2
  clear b1
  go_wp2_with fail
  refine (rfail_rt w2 g h (t.drop k) 0 3 R2.out).mono ?_
  rintro x w3 ⟨rfl, h1, h2⟩
  have R3 : Hid (RT w3 g h [] 3) := h1
  have K3 : Hid (KB _ _ _) := h2
  clear h1 h2
  go_wp2
  go_ret
  exact ⟨rfl, R3.out, (K1.out.trans K2.out).trans K3.out⟩
set_option maxRecDepth 100000 in
theorem rnum_long (w : World) (g h : Nat) (m : Int) (b : UInt8) (t : List UInt8) (k : Nat) (hk : b.toNat = 239 + k) (hk1 : 1 ≤ k) (hk8 : k ≤ 8) (hn : k ≤ t.length) (x : Nat) (hx : valB (t.take k) = x) (ho : x ≤ 9223372036854775807) (hs : ¬ x < 240) (hb : nb x ≠ k) (r : RT w g h (b :: t) 0) : Calls Try.prog 85 #[.pointer (some ⟨g, 0, none⟩), .int .i64 m] w (Rr w g h (.int .i64 0) [] 3) := by
  have HT : Hid (Calls _ _ _ _ _) := rfirst w g h b t r
  have hbu : (b.toNat : Int) ≤ 255 := by have := b.toNat_lt; omega
  clear r
  have d0 : decide ((247 : Int) < (b.toNat : Int)) = false := decide_eq_false (by omega)
  have d1 : decide ((240 : Int) ≤ (b.toNat : Int)) = true := decide_eq_true (by omega)
  have hkz : (b.toNat : Int) - 239 = (k : Int) := by omega
  clear hk
  have HX : Hid (valB (t.take k) = x) := hx
  clear hx
  have d2 : decide ((9223372036854775807 : Int) < (x : Int)) = false := decide_eq_false (by omega)
  have hw : IntKind.i64.wrap (x : Int) = (x : Int) := by rw [IntKind.wrap_i64]; omega
  have hw2 : wrap64 (x : Int) = (x : Int) := by unfold wrap64; omega
  have HO : Hid (x < 9223372036854775808) := by show x < 9223372036854775808; omega
  clear ho
  have d3 : decide ((x : Int) < 240) = false := decide_eq_false (by omega)
  have d4 : (((nb x : Nat) : Int) != (k : Int)) = true := by rw [bne_iff_ne]; omega
  clear hs hb
  go_enter Try.func85, Try.ntmps85
  go_wp2_with fail
  refine Calls.mono HT.out ?_
  rintro x w1 ⟨rfl, h1, h2⟩
  have R1 : Hid (RT _ _ _ _ _) := h1
  have K1 : Hid (KB _ _ _) := h2
  obtain ⟨p1, c1, z1, b1, _, _, _, _, _, _⟩ := h1
  clear h2 z1
  go_wp2_with fail
  refine (rtake_ok w1 g h t k hk1 hk8 hn R1.out).mono ?_
  rw [HX.out]
  rintro x w2 ⟨rfl, h1, h2⟩
  have R2 : Hid (RT w2 g h (t.drop k) 0) := h1
  have K2 : Hid (KB _ _ _) := h2
  obtain ⟨p2, c2, z2, b2, _, _, _, _, _, _⟩ := h1
  clear h2 z2
  clear b1
  go_wp2_with fail
  refine (bytes_calls x w2 HO.out).mono ?_
  rintro y u ⟨rfl, hw1⟩
  have hw3 := hw1.symm
  subst hw3
  go_wp2_with fail
  refine (rfail_rt w2 g h (t.drop k) 0 3 R2.out).mono ?_
  rintro x w3 ⟨rfl, h1, h2⟩
  have R3 : Hid (RT w3 g h [] 3) := h1
  have K3 : Hid (KB _ _ _) := h2
  clear h1 h2
  go_wp2
  go_ret
  exact ⟨rfl, R3.out, (K1.out.trans K2.out).trans K3.out⟩
set_option maxRecDepth 100000 in
theorem rnum_much (w : World) (g h : Nat) (m : Int) (b : UInt8) (t : List UInt8) (k : Nat) (hk : b.toNat = 239 + k) (hk1 : 1 ≤ k) (hk8 : k ≤ 8) (hn : k ≤ t.length) (x : Nat) (hx : valB (t.take k) = x) (ho : x ≤ 9223372036854775807) (hs : ¬ x < 240) (hb : nb x = k) (hm : m < (x : Int)) (r : RT w g h (b :: t) 0) : Calls Try.prog 85 #[.pointer (some ⟨g, 0, none⟩), .int .i64 m] w (Rr w g h (.int .i64 0) [] 5) := by
  have HT : Hid (Calls _ _ _ _ _) := rfirst w g h b t r
  have hbu : (b.toNat : Int) ≤ 255 := by have := b.toNat_lt; omega
  clear r
  have d0 : decide ((247 : Int) < (b.toNat : Int)) = false := decide_eq_false (by omega)
  have d1 : decide ((240 : Int) ≤ (b.toNat : Int)) = true := decide_eq_true (by omega)
  have hkz : (b.toNat : Int) - 239 = (k : Int) := by omega
  clear hk
  have HX : Hid (valB (t.take k) = x) := hx
  clear hx
  have d2 : decide ((9223372036854775807 : Int) < (x : Int)) = false := decide_eq_false (by omega)
  have hw : IntKind.i64.wrap (x : Int) = (x : Int) := by rw [IntKind.wrap_i64]; omega
  have hw2 : wrap64 (x : Int) = (x : Int) := by unfold wrap64; omega
  have HO : Hid (x < 9223372036854775808) := by show x < 9223372036854775808; omega
  clear ho
  have d3 : decide ((x : Int) < 240) = false := decide_eq_false (by omega)
  have d4 : (((nb x : Nat) : Int) != (k : Int)) = false := by rw [hb]; simp
  clear hs hb
  go_enter Try.func85, Try.ntmps85
  go_wp2_with fail
  refine Calls.mono HT.out ?_
  rintro x w1 ⟨rfl, h1, h2⟩
  have R1 : Hid (RT _ _ _ _ _) := h1
  have K1 : Hid (KB _ _ _) := h2
  obtain ⟨p1, c1, z1, b1, _, _, _, _, _, _⟩ := h1
  clear h2 z1
  go_wp2_with fail
  refine (rtake_ok w1 g h t k hk1 hk8 hn R1.out).mono ?_
  rw [HX.out]
  rintro x w2 ⟨rfl, h1, h2⟩
  have R2 : Hid (RT w2 g h (t.drop k) 0) := h1
  have K2 : Hid (KB _ _ _) := h2
  obtain ⟨p2, c2, z2, b2, _, _, _, _, _, _⟩ := h1
  clear h2 z2
  clear b1
  go_wp2_with fail
  refine (bytes_calls x w2 HO.out).mono ?_
  rintro y u ⟨rfl, hw1⟩
  have hw3 := hw1.symm
  subst hw3
  go_wp2_with fail
  refine (rfail_rt w2 g h (t.drop k) 0 5 R2.out).mono ?_
  rintro x w3 ⟨rfl, h1, h2⟩
  have R3 : Hid (RT w3 g h [] 5) := h1
  have K3 : Hid (KB _ _ _) := h2
  clear h1 h2
  go_wp2
  go_ret
  exact ⟨rfl, R3.out, (K1.out.trans K2.out).trans K3.out⟩
set_option maxRecDepth 100000 in
theorem rnum_ok (w : World) (g h : Nat) (m : Int) (b : UInt8) (t : List UInt8) (k : Nat) (hk : b.toNat = 239 + k) (hk1 : 1 ≤ k) (hk8 : k ≤ 8) (hn : k ≤ t.length) (x : Nat) (hx : valB (t.take k) = x) (ho : x ≤ 9223372036854775807) (hs : ¬ x < 240) (hb : nb x = k) (hm : ¬ m < (x : Int)) (r : RT w g h (b :: t) 0) : Calls Try.prog 85 #[.pointer (some ⟨g, 0, none⟩), .int .i64 m] w (Rr w g h (.int .i64 (x : Int)) (t.drop k) 0) := by
  have HT : Hid (Calls _ _ _ _ _) := rfirst w g h b t r
  have hbu : (b.toNat : Int) ≤ 255 := by have := b.toNat_lt; omega
  clear r
  have d0 : decide ((247 : Int) < (b.toNat : Int)) = false := decide_eq_false (by omega)
  have d1 : decide ((240 : Int) ≤ (b.toNat : Int)) = true := decide_eq_true (by omega)
  have hkz : (b.toNat : Int) - 239 = (k : Int) := by omega
  clear hk
  have HX : Hid (valB (t.take k) = x) := hx
  clear hx
  have d2 : decide ((9223372036854775807 : Int) < (x : Int)) = false := decide_eq_false (by omega)
  have hw : IntKind.i64.wrap (x : Int) = (x : Int) := by rw [IntKind.wrap_i64]; omega
  have hw2 : wrap64 (x : Int) = (x : Int) := by unfold wrap64; omega
  have HO : Hid (x < 9223372036854775808) := by show x < 9223372036854775808; omega
  clear ho
  have d3 : decide ((x : Int) < 240) = false := decide_eq_false (by omega)
  have d4 : (((nb x : Nat) : Int) != (k : Int)) = false := by rw [hb]; simp
  clear hs hb
  go_enter Try.func85, Try.ntmps85
  go_wp2_with fail
  refine Calls.mono HT.out ?_
  rintro x w1 ⟨rfl, h1, h2⟩
  have R1 : Hid (RT _ _ _ _ _) := h1
  have K1 : Hid (KB _ _ _) := h2
  obtain ⟨p1, c1, z1, b1, _, _, _, _, _, _⟩ := h1
  clear h2 z1
  go_wp2_with fail
  refine (rtake_ok w1 g h t k hk1 hk8 hn R1.out).mono ?_
  rw [HX.out]
  rintro x w2 ⟨rfl, h1, h2⟩
  have R2 : Hid (RT w2 g h (t.drop k) 0) := h1
  have K2 : Hid (KB _ _ _) := h2
  obtain ⟨p2, c2, z2, b2, _, _, _, _, _, _⟩ := h1
  clear h2 z2
  clear b1
  go_wp2_with fail
  refine (bytes_calls x w2 HO.out).mono ?_
  rintro y u ⟨rfl, hw1⟩
  have hw3 := hw1.symm
  subst hw3
  go_wp2
  go_ret
  exact ⟨rfl, R2.out, K1.out.trans K2.out⟩
end Go.Proofs.Ytobblioplfpndaa
namespace Go.Proofs.Ytobblioplfpndaa
open Go.ChangeShapes Go.WideShapes Go.ChangeAt Go.RowKit
theorem sNum_nil (m e : Int) : sNum m [] e = (0, [], se e) := by
  unfold sNum se
  by_cases h : e = 0
  · rw [if_pos h, if_pos h]; rfl
  · rw [if_neg h, if_neg h]
theorem sNum_of (m : Int) (l t : List UInt8) (n : Nat) (h : sNumber l = (n, t, 0)) : sNum m l 0 = if m < (n : Int) then (0, [], 5) else ((n : Int), t, 0) := by
  unfold sNum
  rw [if_pos rfl, h]
  dsimp only
  rw [if_pos rfl]
theorem sNum_errR (m : Int) (l : List UInt8) (x : Int) (hx : x ≠ 0) (h : sNumber l = (0, [], x)) : sNum m l 0 = (0, [], x) := by
  unfold sNum
  rw [if_pos rfl, h]
  dsimp only
  rw [if_neg hx]
theorem rnum_rt (w : World) (g h : Nat) (l : List UInt8) (e m : Int) (r : RT w g h l e) :
    Calls Try.prog 85 #[.pointer (some ⟨g, 0, none⟩), .int .i64 m] w (Rr w g h (.int .i64 (sNum m l e).1) (sNum m l e).2.1 (sNum m l e).2.2) := by
  cases l with
  | nil =>
    rw [sNum_nil]
    exact rnum_nil w g h e m r
  | cons b t =>
    obtain rfl : e = 0 := rt_live r (by simp)
    by_cases h1 : b.toNat < 240
    · have hs : sNumber (b :: t) = (b.toNat, t, 0) := by unfold sNumber; dsimp only; rw [if_pos h1]
      rw [sNum_of m _ _ _ hs]
      by_cases hm : m < (b.toNat : Int)
      · rw [if_pos hm]; exact rnum_oneLong w g h m b t h1 hm r
      · rw [if_neg hm]; exact rnum_one w g h m b t h1 hm r
    · by_cases h2 : 247 < b.toNat
      · have hs : sNumber (b :: t) = (0, [], 3) := by unfold sNumber; dsimp only; rw [if_neg h1, if_pos h2]
        rw [sNum_errR m _ 3 (by decide) hs]
        exact rnum_bad w g h m b t h2 r
      · obtain ⟨k, hk⟩ : ∃ k, b.toNat = 239 + k := ⟨b.toNat - 239, by omega⟩
        have hk' : b.toNat - 239 = k := by omega
        have k1 : 1 ≤ k := by omega
        have k8 : k ≤ 8 := by omega
        by_cases h3 : t.length < k
        · have hs : sNumber (b :: t) = (0, [], 4) := by unfold sNumber; dsimp only; rw [if_neg h1, if_neg h2, hk', if_pos h3]
          rw [sNum_errR m _ 4 (by decide) hs]
          exact rnum_short w g h m b t k hk k1 k8 h3 r
        · have hn : k ≤ t.length := Nat.le_of_not_lt h3
          obtain ⟨x, hx⟩ : ∃ x, valB (t.take k) = x := ⟨_, rfl⟩
          have hxl : x < 256 ^ k := by
            have := valB_lt (t.take k)
            rw [hx, List.length_take, Nat.min_eq_left hn] at this
            exact this
          have hl := long_iff x k k1 hxl
          by_cases h4 : 9223372036854775807 < x
          · have hs : sNumber (b :: t) = (0, [], 3) := by unfold sNumber; dsimp only; rw [if_neg h1, if_neg h2, hk', if_neg h3, hx, if_pos (.inl h4)]
            rw [sNum_errR m _ 3 (by decide) hs]
            exact rnum_over w g h m b t k hk k1 k8 hn x hx h4 r
          · have h4' : x ≤ 9223372036854775807 := Nat.le_of_not_lt h4
            by_cases h5 : (enc x).length ≤ k
            · have hs : sNumber (b :: t) = (0, [], 3) := by unfold sNumber; dsimp only; rw [if_neg h1, if_neg h2, hk', if_neg h3, hx, if_pos (.inr h5)]
              rw [sNum_errR m _ 3 (by decide) hs]
              by_cases h6 : x < 240
              · exact rnum_few w g h m b t k hk k1 k8 hn x hx h4' h6 r
              · have h7 : nb x ≠ k := by
                  rcases hl.1 h5 with h | h
                  · exact absurd h h6
                  · exact h
                exact rnum_long w g h m b t k hk k1 k8 hn x hx h4' h6 h7 r
            · have h6 : ¬ x < 240 := fun h => h5 (hl.2 (.inl h))
              have h7 : nb x = k := Classical.byContradiction fun h => h5 (hl.2 (.inr h))
              have hs : sNumber (b :: t) = (x, t.drop k, 0) := by
                unfold sNumber
                dsimp only
                rw [if_neg h1, if_neg h2, hk', if_neg h3, hx, if_neg]
                intro h
                rcases h with h | h
                · exact h4 h
                · exact h5 h
              rw [sNum_of m _ _ _ hs]
              by_cases hm : m < (x : Int)
              · rw [if_pos hm]; exact rnum_much w g h m b t k hk k1 k8 hn x hx h4' h6 h7 hm r
              · rw [if_neg hm]; exact rnum_ok w g h m b t k hk k1 k8 hn x hx h4' h6 h7 hm r
theorem rtext_rt (w : World) (g h : Nat) (l : List UInt8) (e m : Int) (r : RT w g h l e) :
    Calls Try.prog 88 #[.pointer (some ⟨g, 0, none⟩), .int .i64 m] w (Rr w g h (.string (str (sText m l e).1)) (sText m l e).2.1 (sText m l e).2.2) := by
  have NC := rnum_rt w g h l e m r
  have n0 := sNum_nat m l e
  unfold sText
  generalize (sNum m l e).1 = n at NC n0 ⊢
  generalize (sNum m l e).2.1 = l1 at NC ⊢
  generalize (sNum m l e).2.2 = e1 at NC ⊢
  obtain ⟨k, rfl⟩ := Int.eq_ofNat_of_zero_le n0
  rw [Int.toNat_natCast]
  have HN : Hid (Calls _ _ _ _ _) := NC
  clear NC n0 r
  rcases Classical.em (e1 = 0) with h0 | h0
  · subst h0
    rw [if_pos rfl]
    by_cases hk : l1.length < k
    · rw [if_pos hk]
      dsimp only
      have hkz : (l1.length : Int) < (k : Int) := by omega
      go_enter Try.func88, Try.ntmps88
      go_wp2_with fail
      refine Calls.mono HN.out ?_
      rintro x w1 ⟨rfl, h1, h2⟩
      have R1 : Hid (RT w1 g h l1 0) := h1
      have K1 : Hid (KB g w w1) := h2
      obtain ⟨p1, c1, z1, b1, _, _, _, _, _, _⟩ := h1
      clear h2
      go_wp2_with fail
      refine (rfail_rt w1 g h l1 0 4 R1.out).mono ?_
      rintro x w2 ⟨rfl, h1, h2⟩
      have R2 : Hid (RT w2 g h [] 4) := h1
      have K2 : Hid (KB _ _ _) := h2
      obtain ⟨p2, c2, z2, b2, _, _, _, _, _, _⟩ := R2.out
      clear h1 h2 z1 b1
      go_wp2
      go_ret
      exact ⟨rfl, R2.out, K1.out.trans K2.out⟩
    · rw [if_neg hk]
      dsimp only
      have hkz : ¬ (l1.length : Int) < (k : Int) := by omega
      go_enter Try.func88, Try.ntmps88
      go_wp2_with fail
      refine Calls.mono HN.out ?_
      rintro x w1 ⟨rfl, h1, h2⟩
      have K1 : Hid (KB g w w1) := h2
      obtain ⟨p1, c1, z1, b1, f0, f1, hl, hg, hb, he⟩ := h1
      have s1 := slice_from p1 l1.length c1 k (by omega)
      have s2 := slice_head p1 l1.length c1 k (by omega)
      have hlen : (l1.take k).length = k := by rw [List.length_take]; omega
      have hh : HBk w1 h (headA p1 c1) (l1.take k) := by
        intro hne
        obtain ⟨o, ho, hc⟩ := hb.take k hne
        have hk0 : k ≠ 0 := by intro e; subst e; simp at hne
        refine ⟨o, ?_, hc⟩
        unfold headA at ho ⊢
        rw [if_neg hk0] at ho
        rw [if_neg (by omega)]
        exact ho
      have hcv := conv_string w1 (headA p1 c1) c1 (l1.take k) (hh.holds c1)
      rw [hlen, str_nums] at hcv
      have HR : Hid (RT (w1.setCell ⟨g, 0, none⟩ (.slice (offA p1 c1 k) (l1.length - k) (c1 - k))) g h (l1.drop k) 0 ∧ KB g w1 (w1.setCell ⟨g, 0, none⟩ (.slice (offA p1 c1 k) (l1.length - k) (c1 - k)))) := by
        have hkb := KB.setCell g w1 0 (.slice (offA p1 c1 k) (l1.length - k) (c1 - k))
        refine ⟨⟨offA p1 c1 k, c1 - k, ?_, ?_, ?_, ?_, by rw [List.length_drop]; omega, hg, (hb.drop hl k).kb hkb hg, fun h => absurd rfl h⟩, hkb⟩
        · rw [World.cell?_setCell_same _ _ _ z1, List.length_drop]
        · rw [cell_other _ g 0 1 _ (by decide)]; exact b1
        · rw [World.frozen?_setCell]; exact f0
        · rw [World.frozen?_setCell]; exact f1
      clear h2 hb hh hlen he
      go_wp2
      go_ret
      exact ⟨rfl, HR.out.1, K1.out.trans HR.out.2⟩
  · rw [if_neg h0]
    dsimp only
    have he1 : (e1 == 0) = false := by simpa using h0
    have he2 : (e1 != 0) = true := by simpa using h0
    clear h0
    go_enter Try.func88, Try.ntmps88
    go_wp2_with fail
    refine Calls.mono HN.out ?_
    rintro x w1 ⟨rfl, h1, h2⟩
    have R1 : Hid (RT w1 g h l1 e1) := h1
    have K1 : Hid (KB g w w1) := h2
    obtain ⟨p1, c1, z1, b1, _, _, _, _, _, _⟩ := h1
    clear h2
    go_wp2
    go_ret
    exact ⟨rfl, R1.out, K1.out⟩
theorem copied_all (v : Value) (l : List UInt8) (w : World) (hv : Lib.HoldsBytes w v l) (hl : l.length ≤ 140737488355328) :
    Calls Try.prog 58 #[v] w fun e w' => ∃ v', e = .returned v' ∧ Own w.heap.size w' v' l ∧ Below w.heap.size w w' := by
  obtain ⟨p, cap, rfl, h1, h2⟩ := hv
  obtain ⟨i0, hi, hz0, hz1, hz2⟩ := info_parts Try.info5
  cases p with
  | none =>
    have hn : l = [] := h1 rfl
    subst hn
    clear h1 h2 hl
    go_enter Try.func58, Try.ntmps58
    go_wp2
    go_ret
    exact ⟨_, rfl, World.ownsRow_nil _ _ _ _, Below.refl _ _⟩
  | some a =>
    have HC : Hid (∀ (i : Nat) x, l[i]? = some x → w.cell? (a.add i) = some (.int .u8 (x.toNat : Int))) := h2 a rfl
    clear h1 h2
    go_enter Try.func58, Try.ntmps58
    go_wp2_with (at_builtin; refine wpList_append_own _ rfl _ _ 38 rfl w.heap.size 5 i0 (.int .u8 0) 1 1 Try.underlying38 hi hz0 hz1 hz2 rfl (by decide) _ _ _ rfl (World.ownsRow_nil _ _ _ _) a l.length cap (bval l) rfl ?qc1 ?qc2 ?qc3 ?qc4 ?qc5 ?qc6 ?_)
    case qc1 => simp [bval]
    case qc2 =>
      intro j u hj
      unfold bval at hj
      rw [List.getElem?_map] at hj
      obtain ⟨x, hx, rfl⟩ := Option.map_eq_some_iff.1 hj
      exact HC.out j x hx
    case qc3 => intro u hu; obtain ⟨x, _, rfl⟩ := List.mem_map.1 hu; rfl
    case qc4 => unfold maxLen; omega
    case qc5 => omega
    case qc6 => exact Nat.le_refl _
    intro v' w1 hown hgrow hnil
    go_wp2
    go_ret
    refine ⟨v', rfl, by simpa [Own] using hown, ?_⟩
    exact (Below.refl _ w).grown hgrow (Nat.le_refl _) (by intro k hk; simp [Value.ownBlock] at hk)
theorem ropen_world (w w1 : World) (v1 : Value) (l : List UInt8) (ho : Own w.heap.size w1 v1 l) (hs : w.heap.size ≤ w1.heap.size) :
    ∃ p c h, v1 = .slice p l.length c ∧ w.heap.size ≤ h ∧ RT (w1.alloc (.cells #[.slice p l.length c, .int .i64 0] 74)) w1.heap.size h l 0 := by
  have hb := below_alloc w1
  have h0 : w1.ownsRow w.heap.size 5 1 v1 l.length (bval l) := ho
  have mk : ∀ p c h, l.length ≤ c → h ≠ w1.heap.size → HBk (w1.alloc (.cells #[.slice p l.length c, .int .i64 0] 74)) h p l → RT (w1.alloc (.cells #[.slice p l.length c, .int .i64 0] 74)) w1.heap.size h l 0 := by
    intro p c h hlc hne hk
    refine ⟨p, c, ?_, ?_, ?_, ?_, hlc, hne, hk, fun h => absurd rfl h⟩
    all_goals simp
  rcases h0.2 with ⟨rfl, hn⟩ | ⟨g, cap, cur, rfl, hg, hheap, hle, _⟩
  · have hl : l = [] := List.eq_nil_of_length_eq_zero hn
    subst hl
    exact ⟨none, 0, w1.heap.size + 1, rfl, by omega, mk none 0 _ (Nat.le_refl _) (by omega) (HBk.nil _ _ _)⟩
  · have hlt : g < w1.heap.size := by
      rcases Nat.lt_or_ge g w1.heap.size with h | h
      · exact h
      · rw [Array.getElem?_eq_none h] at hheap
        cases hheap
    refine ⟨some ⟨g, 0, none⟩, cap, g, rfl, hg, mk _ _ _ hle (by omega) ?_⟩
    intro _
    refine ⟨0, rfl, ?_⟩
    intro i x hx
    have hi : i < l.length := (List.getElem?_eq_some_iff.1 hx).1
    have hc := h0.cellAt i (by omega)
    rw [Nat.zero_add]
    refine Lib.Below.cellOf (hb _) ?_ (Nat.le_refl _)
    rw [hc]
    simp [bval, hx]
/-- Open: a reader of the bytes as they are now. -/
theorem ropen_calls (v : Value) (l : List UInt8) (w : World) (hv : Lib.HoldsBytes w v l) (hl : l.length ≤ 140737488351232) :
    Calls Try.prog 31 #[v] w fun e w' => ∃ g h, e = .returned (.pointer (some ⟨g, 0, none⟩)) ∧ w.heap.size ≤ g ∧ w.heap.size ≤ h ∧ RT w' g h l 0 ∧ Below w.heap.size w w' := by
  have HV : Hid (Lib.HoldsBytes w v l) := hv
  have HL : Hid (l.length ≤ 140737488355328) := by show l.length ≤ 140737488355328; omega
  obtain ⟨p, cap, rfl, q1, q2⟩ := hv
  clear q1 q2 hl
  go_enter Try.func31, Try.ntmps31
  go_wp2_with fail
  refine (copied_all _ _ _ HV.out HL.out).mono ?_
  rintro e w1 ⟨v1, rfl, ho, hb⟩
  obtain ⟨p1, c1, h, rfl, k1, k2⟩ := ropen_world w w1 v1 l ho hb.size
  have K1 : Hid (w.heap.size ≤ h) := k1
  have K2 : Hid (RT _ _ _ _ _) := k2
  have HB : Hid (Below w.heap.size w w1) := hb
  clear ho hb k1 k2
  go_wp2
  go_ret
  exact ⟨_, h, rfl, HB.out.size, K1.out, K2.out, HB.out.alloc HB.out.size _⟩
end Go.Proofs.Ytobblioplfpndaa
