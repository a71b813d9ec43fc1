/- The contract of secure: all bytes are sure behind it. -/
import Derived.Test.YtfjcjaojbdcpeaaNM
namespace Go.Proofs.Ytfjcjaojbdcpeaa
open Go.ChangeShapes Go.WideShapes Go.ChangeAt Go.RowKit Go.Maps
theorem atKey_no {D : DataW Value} (hD : IsMap D) {k : Int} (h : Maps.has D (.int .i64 k) = false) (z : DataW Value) : D.atKey (.int .i64 k) z = z := by
  obtain ⟨es, rfl⟩ := hD
  refine WideAt.atKey_none z (fun p hp e => ?_)
  rw [has_eq] at h
  have := List.any_eq_false.1 h p hp
  rw [e, same_int] at this
  simp at this
theorem kb_grown {b r : Nat} {w wr w2 : World} (h : KB b w wr) (hg : wr.grownBy w2 (some r)) (hr : w.heap.size ≤ r) : KB b w w2 :=
  ⟨hg.os.trans h.1, hg.tape.trans h.2.1, hg.output.trans h.2.2.1, Nat.le_trans h.2.2.2.1 hg.size, fun k hk hkb => (hg.block k (Nat.lt_of_lt_of_le hk h.2.2.2.1) (fun e => by cases e; omega)).trans (h.2.2.2.2 k hk hkb)⟩
theorem bk_ne {w : World} {g b n : Nat} {cs : Array Value} {t : TypeId} {D : DataW Value} (h : Bk w g cs t) (hm : Zm w b n D) : g ≠ b := by
  intro e
  subst e
  obtain ⟨es, clock, hb, _⟩ := hm
  unfold Bk at h
  rw [h] at hb
  cases hb
theorem Bk.kb {w w' : World} {g b : Nat} {cs : Array Value} {t : TypeId} (h : Bk w g cs t) (k : KB b w w') (hg : g ≠ b) : Bk w' g cs t := (k.2.2.2.2 g h.lt hg).trans h
/-- What a disk's map has: at every key bytes of a length f k, of which the first s k are sure. -/
def Hv (D : DataW Value) (av : Int → Option Addr) (f cv : Int → Nat) (sv : Int → Int) : Prop := ∀ k, D.atKey (.int .i64 k) (.held zC) = .held (.agg #[.slice (av k) (f k) (cv k), .int .i64 (sv k)])
set_option maxHeartbeats 2000000 in
set_option maxRecDepth 100000 in
theorem secure_calls (g b n : Nat) (c0 c1 c2 : Value) (D : DataW Value) (av : Int → Option Addr) (f cv : Int → Nat) (sv : Int → Int) (w : World) (h : Bk w g #[c0, c1, c2, .map (some b)] 57) (hm : Zm w b n D) (hn : n < maxLen) (hv : Hv D av f cv sv) :
    Calls Try.prog 43 #[.pointer (some ⟨g, 0, none⟩)] w fun e w' => e = .returned (.tuple #[]) ∧ (∃ D', Zm w' b n D' ∧ (∀ kl, Maps.has D' kl = Maps.has D kl) ∧ Hv D' av f cv (fun k => (f k : Int))) ∧ KB b w w' := by
  have x3 : w.cell? ⟨g, 3, none⟩ = some (.map (some b)) := h.cell 3
  have HBk : Hid (Bk w g #[c0, c1, c2, .map (some b)] 57) := h
  have HNE : Hid (g ≠ b) := bk_ne h hm
  have HN : Hid (n < maxLen) := hn
  have HS : Hid (Hv D av f cv (fun k => if Maps.has D (.int .i64 k) = true then sv k else (f k : Int))) := fun k => by
    have h0 := hv k
    by_cases e : Maps.has D (.int .i64 k) = true
    · simp only [e, if_true]; exact h0
    · have e' : Maps.has D (.int .i64 k) = false := by simpa using e
      have h1 := atKey_no (World.ownsMap.isMap hm) e' (.held zC)
      rw [h1] at h0
      unfold zC at h0
      injection h0 with h0
      injection h0 with h0
      injection h0 with h0
      injection h0 with ha hb'
      injection hb' with hb' _
      injection ha with ha1 ha2 ha3
      injection hb' with _ hb2
      show D.atKey (.int .i64 k) (.held zC) = _
      rw [h1]
      simp only [e', Bool.false_eq_true, if_false]
      unfold zC
      rw [← ha1, ← ha2, ← ha3]
      rfl
  clear h hn hv
  go_enter Try.func43, Try.ntmps43
  go_wp2_with (at_range; refine wpList_range_own _ rfl _ 55 rfl 3 65 intKeyed Try.underlying55 heldR b n D rfl hm ?_; intro w2 hrg hgr hsz)
  go_frame
  have HB0 : Hid (KB b w w2) := KB.of_below ((Below.refl _ w).grown hgr (Nat.le_refl _) (fun k hk => by cases hk))
  have HRG : Hid (w2.ranges Try.prog 3 heldR b w.heap.size n D (Maps.has D) (Maps.size D)) := hrg
  clear hrg hgr hsz hm x3
  go_loopw [2, 3] (fun _ _ wr => ∃ (D' : DataW Value) (left : Lit → Bool) (cnt : Nat), Hid (wr.ranges Try.prog 3 heldR b w.heap.size n D' left cnt) ∧ Hid (∀ kl, Maps.has D' kl = Maps.has D kl) ∧ Hid (∀ kl, left kl = true → Maps.has D kl = true) ∧ Hid (Hv D' av f cv (fun k => if left (.int .i64 k) = true then sv k else (f k : Int))) ∧ Hid (KB b w wr)) (fun _ _ wr => wr.rangeLeft b w.heap.size)
  case atStart => exact ⟨D, _, _, HRG, fun _ => rfl, fun _ h => h, HS, HB0⟩
  case round =>
    obtain ⟨D', left, cnt, HR, HH, HL, HD, HB⟩ := hrel
    have hrr : wr.ranges Try.prog 3 heldR b w.heap.size n D' left cnt := HR.out
    go_wp2_with (at_next; refine wpList_next_ranges _ rfl _ rfl 3 intKeyed heldR (fun x : Int => Value.int .i64 x) (fun v : Value => v) (fun key kl hkey => by obtain ⟨x, hx, _⟩ := Maps.keyOf_int_inv Try.underlying3 hkey; exact ⟨x, hx⟩) (fun v _ _ => ⟨v, rfl⟩) b w.heap.size n D' left cnt rfl hrr ?_ ?_)
    · intro hc0 hl0
      have HD2 : Hid (Hv D' av f cv (fun k => (f k : Int))) := fun k => by
        have := HD.out k
        simp only [hl0, Bool.false_eq_true, if_false] at this
        exact this
      have HZ : Hid (Zm wr b n D') := World.ranges.owns HR.out
      clear hrr hc0 hl0
      go_wp2_with fail
      first | go_end0 | refine bodyPost_ret (results_none rfl _ _ _) rfl ?_
      exact ⟨rfl, ⟨D', HZ.out, HH.out, HD2.out⟩, HB.out⟩
    · intro x v kl y1 y2 w2 cnt2 hkey hlk hvy hat hrg2 hlt hg2 hs2 hen
      obtain ⟨x', hx, rfl, hwf⟩ := Maps.keyOf_int_inv Try.underlying3 hkey
      cases hx
      have hy : y1 = .held v := (congrArg Prod.fst (Option.some.inj hvy)).symm
      have hva : v = .agg #[.slice (av x) (f x) (cv x), .int .i64 (sv x)] := by
        have h1 := hat (.held zC)
        rw [HD.out x, hy] at h1
        simp only [hlk, if_true] at h1
        injection h1 with h1
        exact h1.symm
      subst hva
      have hhas : Maps.has D' (.int .i64 x) = true := by rw [HH.out]; exact HL.out _ hlk
      have HB2 : Hid (KB b w w2) := kb_grown HB.out hg2 (Nat.le_refl _)
      have hr3 := World.ranges.alloc hrg2 (.cells #[.slice (av x) (f x) (cv x), .int .i64 (f x : Int)] 65)
      have hr3d : (w2.alloc (.cells #[.slice (av x) (f x) (cv x), .int .i64 (f x : Int)] 65)).drew.ranges Try.prog 3 heldR b w.heap.size n D' (fun z => left z && !z.sameKey (.int .i64 x)) cnt2 := hr3
      obtain ⟨w4, hrun, hr4, ht4⟩ := ranges_turn hr3d intKeyed Try.underlying55 HN.out (keyI hwf) (show heldR (.agg #[.slice (av x) (f x) (cv x), .int .i64 (f x : Int)]) = some (.held _, []) from rfl) hhas
      have HB3 : Hid (KB b w (w2.alloc (.cells #[.slice (av x) (f x) (cv x), .int .i64 (f x : Int)] 65))) := HB2.out.trans (KB.of_below (bel1 _ _))
      have HB4 : Hid (KB b w w4) := HB3.out.trans ((KB.of_below (Below.refl _ _).drew).trans (KB.of_map ht4))
      have x3 : (w2.alloc (.cells #[.slice (av x) (f x) (cv x), .int .i64 (f x : Int)] 65)).cell? ⟨g, 3, none⟩ = some (.map (some b)) := (HBk.out.kb HB3.out HNE.out).cell 3
      have HR4 : Hid (w4.ranges Try.prog 3 heldR b w.heap.size n (D'.put (.int .i64 x) (.held (.agg #[.slice (av x) (f x) (cv x), .int .i64 (f x : Int)]))) (fun z => left z && !z.sameKey (.int .i64 x)) cnt2) := hr4
      have HLT : Hid (cnt2 < cnt) := hlt
      have hIM : IsMap D' := World.ownsMap.isMap (World.ranges.owns HR.out)
      have HH4 : Hid (∀ kl, Maps.has (D'.put (.int .i64 x) (.held (.agg #[.slice (av x) (f x) (cv x), .int .i64 (f x : Int)]))) kl = Maps.has D kl) := fun kl => by
        by_cases e : kl = .int .i64 x
        · subst e
          rw [has_put_same hIM (intKeyed.key hkey), ← HH.out, hhas]
        · rw [has_put_other e, HH.out]
      have HL4 : Hid (∀ kl, (left kl && !kl.sameKey (.int .i64 x)) = true → Maps.has D kl = true) := fun kl hh => HL.out kl (by simp at hh; exact hh.1)
      have HD4 : Hid (Hv (D'.put (.int .i64 x) (.held (.agg #[.slice (av x) (f x) (cv x), .int .i64 (f x : Int)]))) av f cv (fun k => if (left (.int .i64 k) && !(Lit.int .i64 k).sameKey (.int .i64 x)) = true then sv k else (f k : Int))) := fun k => by
        by_cases e : k = x
        · subst e
          rw [atKey_put_same hIM (intKeyed.key hkey)]
          simp [same_int]
        · rw [atKey_put_other (fun e2 => by injection e2 with _ e2; exact e e2), HD.out k]
          simp [e, same_int]
      clear hrr hkey hvy hat hrg2 hlt hg2 hs2 hy hwf hlk hhas hr3 hr3d hr4 ht4 hIM
      go_wp2_with fail
      go_region
      all_goals go_wp2_with fail
      all_goals (refine ⟨⟨_, _, cnt2, HR4, HH4, HL4, HD4, HB4⟩, ?_⟩; rw [HR4.out.left_eq, HR.out.left_eq]; exact HLT.out)
end Go.Proofs.Ytfjcjaojbdcpeaa
