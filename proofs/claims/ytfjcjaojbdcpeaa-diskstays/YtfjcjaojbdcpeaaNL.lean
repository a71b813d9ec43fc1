/- The contract of Used: the sum over a map, in whatever order it is ranged over. -/
import Derived.Test.YtfjcjaojbdcpeaaNK
import Derived.Maps.RangeWalk
namespace Go.Proofs.Ytfjcjaojbdcpeaa
open Go.ChangeShapes Go.WideShapes Go.ChangeAt Go.RowKit Go.Maps
/-- The sum of f over the keys below N that are left. -/
def tot (f : Int → Nat) (left : Lit → Bool) : Nat → Nat
  | 0 => 0
  | N + 1 => tot f left N + (if left (.int .i64 (N : Int)) = true then f (N : Int) else 0)
theorem same_int (a b : Int) : (Lit.int .i64 a).sameKey (.int .i64 b) = decide (a = b) := by
  by_cases h : a = b
  · subst h; simp [Lit.sameKey]
  · rw [sameKey_ne (by intro e; injection e with _ e; exact h e)]; simp [h]
theorem tot_other (f : Int → Nat) (left : Lit → Bool) (k : Int) : ∀ N : Nat, (N : Int) ≤ k → tot f (fun z => left z && !z.sameKey (.int .i64 k)) N = tot f left N
  | 0, _ => rfl
  | N + 1, h => by
    have hne : ¬ ((N : Int) = k) := by omega
    unfold tot
    rw [tot_other f left k N (by omega), same_int]
    simp [hne]
theorem tot_strike (f : Int → Nat) (left : Lit → Bool) (k : Int) (h0 : 0 ≤ k) (hl : left (.int .i64 k) = true) : ∀ N : Nat, k < (N : Int) → tot f left N = f k + tot f (fun z => left z && !z.sameKey (.int .i64 k)) N
  | 0, h => by omega
  | N + 1, h => by
    unfold tot
    by_cases e : (N : Int) = k
    · rw [tot_other f left k N (by omega), same_int, e]
      simp [hl]
      omega
    · rw [tot_strike f left k h0 hl N (by omega), same_int]
      simp [e]
      omega
theorem tot_none (f : Int → Nat) (left : Lit → Bool) (h : ∀ kl, left kl = false) : ∀ N, tot f left N = 0
  | 0 => rfl
  | N + 1 => by unfold tot; rw [tot_none f left h N, h]; simp
theorem tot_le (f : Int → Nat) (left : Lit → Bool) (M : Nat) (h : ∀ k, f k ≤ M) : ∀ N, tot f left N ≤ N * M
  | 0 => by simp [tot]
  | N + 1 => by
    unfold tot
    have h1 := tot_le f left M h N
    have h2 := h (N : Int)
    rw [Nat.add_mul, Nat.one_mul]
    split <;> omega
set_option maxHeartbeats 2000000 in
set_option maxRecDepth 100000 in
theorem used_calls (g b n : Nat) (c0 c1 c2 : Value) (D : DataW Value) (f : Int → Nat) (av : Int → Option Addr) (cv : Int → Nat) (sv : Int → Int) (w : World) (h : Bk w g #[c0, c1, c2, .map (some b)] 57) (hm : Zm w b n D)
    (hv : ∀ k, D.atKey (.int .i64 k) (.held zC) = .held (.agg #[.slice (av k) (f k) (cv k), .int .i64 (sv k)])) (hk : ∀ k, Maps.has D (.int .i64 k) = true → 0 ≤ k ∧ k < 40) (hf : ∀ k, f k ≤ 1099511627776) :
    Calls Try.prog 11 #[.pointer (some ⟨g, 0, none⟩)] w fun e w' => e = .returned (.int .i64 ((tot f (Maps.has D) 40 : Nat) : Int)) ∧ Below w.heap.size w w' := by
  have HM : Hid (Calls Try.prog 35 #[.pointer (some ⟨g, 0, none⟩)] w _) := made_calls g b c0 c1 c2 w h
  have x3 : w.cell? ⟨g, 3, none⟩ = some (.map (some b)) := h.cell 3
  have HV : Hid (∀ k, D.atKey (.int .i64 k) (.held zC) = .held (.agg #[.slice (av k) (f k) (cv k), .int .i64 (sv k)])) := hv
  have HK : Hid (∀ k, Maps.has D (.int .i64 k) = true → 0 ≤ k ∧ k < 40) := hk
  have HF : Hid (∀ k, f k ≤ 1099511627776) := hf
  have HT : Hid (tot f (Maps.has D) 40 ≤ 40 * 1099511627776) := tot_le f _ _ hf 40
  generalize hT : tot f (Maps.has D) 40 = T at HT ⊢
  have HTT : Hid (tot f (Maps.has D) 40 = T) := hT
  clear h hv hk hf hT
  go_enter Try.func11, Try.ntmps11
  go_wp2_with fail
  refine HM.out.mono ?_
  rintro e w1 ⟨rfl, hw⟩
  have hw' := hw.symm
  subst hw'
  clear hw HM
  go_wp2_with (at_range; refine wpList_range_own _ rfl _ 55 rfl 3 65 intKeyed Try.underlying55 heldR b n D rfl hm ?_; intro w2 hrg hgr hsz)
  go_frame
  have HB0 : Hid (Below w.heap.size w w2) := (Below.refl _ w).grown hgr (Nat.le_refl _) (fun k hk => by cases hk)
  have HRG : Hid (w2.ranges Try.prog 3 heldR b w.heap.size n D (Maps.has D) (Maps.size D)) := hrg
  clear hrg hgr hsz hm
  go_loopw [3] (fun i wr => ∃ (t : Nat) (left : Lit → Bool) (cnt : Nat), i = .int .i64 (t : Int) ∧ Hid (t + tot f left 40 = T) ∧ Hid (∀ kl, left kl = true → Maps.has D kl = true) ∧ Hid (wr.ranges Try.prog 3 heldR b w.heap.size n D left cnt) ∧ Hid (Below w.heap.size w wr)) (fun _ wr => wr.rangeLeft b w.heap.size)
  case atStart => exact ⟨0, _, _, rfl, (by show _ = _; rw [Nat.zero_add]; exact HTT.out), fun _ h => h, HRG, HB0⟩
  case round =>
    obtain ⟨t, left, cnt, rfl, HS, HLe, HR, HB⟩ := hrel
    have hrr : wr.ranges Try.prog 3 heldR b w.heap.size n D left cnt := HR.out
    go_wp2_with (at_next; refine wpList_next_ranges _ rfl _ rfl 3 intKeyed heldR (fun x : Int => Value.int .i64 x) (fun v : Value => v) (fun key kl hkey => by obtain ⟨x, hx, _⟩ := Maps.keyOf_int_inv Try.underlying3 hkey; exact ⟨x, hx⟩) (fun v _ _ => ⟨v, rfl⟩) b w.heap.size n D left cnt rfl hrr ?_ ?_)
    · intro hc0 hl0
      have h0 : t = T := by have := HS.out; rw [tot_none f left hl0] at this; omega
      subst h0
      go_wp2_with fail
      go_ret
      exact ⟨rfl, HB.out⟩
    · intro x v kl y1 y2 w2 cnt2 hkey hlk hvy hat hrg2 hlt hg2 hs2 hen
      obtain ⟨x', hx, rfl, hwf⟩ := Maps.keyOf_int_inv Try.underlying3 hkey
      cases hx
      have hy : y1 = .held v := (congrArg Prod.fst (Option.some.inj hvy)).symm
      have hva : v = .agg #[.slice (av x) (f x) (cv x), .int .i64 (sv x)] := by
        have h1 := hat (.held zC)
        rw [HV.out x, hy] at h1
        injection h1 with h1
        exact h1.symm
      subst hva
      have hx40 := HK.out x (HLe.out _ hlk)
      have hstr := tot_strike f left x hx40.1 hlk 40 hx40.2
      have HS2 : Hid ((t + f x) + tot f (fun z => left z && !z.sameKey (.int .i64 x)) 40 = T) := by have := HS.out; show _ = _; omega
      have HL2 : Hid (∀ kl, (left kl && !kl.sameKey (.int .i64 x)) = true → Maps.has D kl = true) := fun kl hh => HLe.out kl (by simp at hh; exact hh.1)
      have HB2 : Hid (Below w.heap.size w w2) := HB.out.grown hg2 HB.out.size (fun k hk => by cases hk; exact Nat.le_refl _)
      have HR2 : Hid (w2.ranges Try.prog 3 heldR b w.heap.size n D (fun z => left z && !z.sameKey (.int .i64 x)) cnt2) := hrg2
      have HLT : Hid (cnt2 < cnt) := hlt
      have HW : Hid (wrap64 ((t : Int) + (f x : Int)) = ((t + f x : Nat) : Int)) := by
        have h1 := HF.out x
        have h2 := HT.out
        have h3 := HS.out
        show _ = _
        unfold wrap64
        omega
      clear hrr hkey hvy hat hrg2 hlt hg2 hs2 hy hx40 hstr hwf hlk
      go_wp2_with fail
      have hr3 := World.ranges.alloc HR2.out (.cells #[.slice (av x) (f x) (cv x), .int .i64 (sv x)] 65)
      refine ⟨⟨t + f x, _, cnt2, by rw [HW.out], HS2, HL2, hr3, bel2 HB2.out (bel1 _ _)⟩, ?_⟩
      rw [hr3.left_eq, HR.out.left_eq]
      exact HLT.out
end Go.Proofs.Ytfjcjaojbdcpeaa
