/- The contracts of the reference's Same and of the program's: both tell whether two trees are one. -/
import Derived.Test.YtjmonkhkcmcfiaaVA
import Derived.Deep.RegionWith
namespace Go.Proofs.Ytjmonkhkcmcfiaa
open Go.ChangeShapes Go.WideShapes Go.ChangeAt Go.RowKit
theorem tl_inj {s t : ByteArray} (h : s.toList = t.toList) : s = t := by
  rw [Lib.toList_data, Lib.toList_data] at h
  cases s
  cases t
  simpa using h
theorem len_of_ne {n m : Nat} (h : ((n : Int) != (m : Int)) = false) : n = m := by
  have : (n : Int) = (m : Int) := by simpa using h
  omega
theorem take_more {l m : List Tv} {j : Nat} (h1 : j < l.length) (h2 : j < m.length) (he : l.take j = m.take j) (h : l[j] = m[j]) : l.take (j + 1) = m.take (j + 1) := by
  rw [List.take_add_one, List.take_add_one, he, List.getElem?_eq_getElem h1, List.getElem?_eq_getElem h2, h]
theorem take_not {k x b : Int} {s : ByteArray} {l m : List Tv} {j : Nat} (h1 : j < l.length) (h2 : j < m.length) (h : ¬ l[j] = m[j]) : ¬ Tv.mk k x b s l = Tv.mk k x b s m := by
  intro e
  cases e
  exact h rfl
set_option maxHeartbeats 2000000 in
theorem rsame_calls : ∀ (n : Nat) (v : Value) (t : Tv) (v2 : Value) (t2 : Tv) (w : World), Is w n v t → Is w n v2 t2 →
    Calls Try.prog 34 #[v, v2] w fun e w' => (∃ r : Bool, e = .returned (.bool r) ∧ (r = true ↔ t = t2)) ∧ Below w.heap.size w w' := by
  intro n
  induction n with
  | zero => intro v t v2 t2 w h; exact h.elim
  | succ n ih =>
    rintro v ⟨k, x, b, s, l⟩ v2 ⟨k2, x2, b2, s2, l2⟩ w ⟨a, c, rfl, hf, hr⟩ ⟨a2, c2, rfl, hf2, hr2⟩
    have HR : Hid (Row (Is w n) w a l) := hr
    have HF : Hid (Fit k x b s l.length c) := hf
    have HR2 : Hid (Row (Is w n) w a2 l2) := hr2
    clear hr hf hr2 hf2
    by_cases hd : k = k2 ∧ x = x2 ∧ b = b2 ∧ s = s2 ∧ l.length = l2.length
    · obtain ⟨rfl, rfl, rfl, rfl, hl⟩ := hd
      rw [← hl]
      have HL : Hid (l.length = l2.length) := hl
      clear hl
      go_enter Try.func34, Try.ntmps34
      go_wp2_with fail
      generalize hW0 : (w.alloc (Obj.cells #[.int .i64 k, .int .i64 x, .int .u64 b, .string s, .slice a l.length c] 25)).alloc (Obj.cells #[.int .i64 k, .int .i64 x, .int .u64 b, .string s, .slice a2 l.length c2] 25) = W0
      have hg0 : W0.cell? ⟨w.heap.size, 4, none⟩ = some (.slice a l.length c) := by subst hW0; go_simp
      have hg1 : W0.cell? ⟨w.heap.size + 1, 4, none⟩ = some (.slice a2 l.length c2) := by subst hW0; go_simp
      have HB0 : Hid (Below w.heap.size w W0) := by subst hW0; exact bel2 (bel1 _ _) (bel1 _ _)
      have HS : Hid (w.heap.size + 1 < W0.heap.size) := by subst hW0; show _ < _; simp
      clear hW0
      have G0 : Hid (W0.cell? ⟨w.heap.size, 4, none⟩ = some (.slice a l.length c)) := hg0
      have G1 : Hid (W0.cell? ⟨w.heap.size + 1, 4, none⟩ = some (.slice a2 l.length c2)) := hg1
      clear hg0 hg1
      go_loopw [5] (fun i wr => ∃ j : Nat, j ≤ l.length ∧ i = .int .i64 j ∧ Hid (l.take j = l2.take j) ∧ Hid (Below W0.heap.size W0 wr)) (fun i _ => l.length - (intOf i).toNat)
      case atStart => exact ⟨0, Nat.zero_le _, rfl, rfl, Below.refl _ _⟩
      case round =>
        obtain ⟨j, hj, rfl, HE, HB⟩ := hrel
        have g0 : wr.cell? ⟨w.heap.size, 4, none⟩ = some (.slice a l.length c) := (HB.out.cell (by have := HS.out; show w.heap.size < _; omega)).trans G0.out
        have g1 : wr.cell? ⟨w.heap.size + 1, 4, none⟩ = some (.slice a2 l.length c2) := (HB.out.cell HS.out).trans G1.out
        by_cases hlt : j < l.length
        · obtain ⟨B, o, c0, c1, c2, c3, c4, rfl, h5, hi⟩ := HR.out j _ (List.getElem?_eq_getElem hlt)
          obtain ⟨B', o', d0, d1, d2, d3, d4, rfl, h5', hi'⟩ := HR2.out j _ (List.getElem?_eq_getElem (HL.out ▸ hlt))
          obtain ⟨k', x', b', s', a', m', c', rfl, rfl, rfl, rfl, rfl⟩ := hi.shape
          obtain ⟨k'', x'', b'', s'', a'', m'', c'', rfl, rfl, rfl, rfl, rfl⟩ := hi'.shape
          have HBw := bel2 HB0.out HB.out
          obtain ⟨e0, e1, e2, e3, e4⟩ := h5.below HBw
          obtain ⟨f0, f1, f2, f3, f4⟩ := h5'.below HBw
          have HI := hi.below HBw
          have HI' := hi'.below HBw
          have C0 := fun W (hB : Below wr.heap.size wr W) => ih _ _ _ _ W (HI.below hB) (HI'.below hB)
          clear hi h5 HI hi' h5' HI' HBw
          have HW : Hid (wrap64 ((j : Int) + 1) = ((j + 1 : Nat) : Int)) := wr1 hlt (Nat.le_trans HF.out.n1 HF.out.c1)
          have HL2 : Hid (j < l2.length) := HL.out ▸ hlt
          have hjl : (j : Int) < (l.length : Int) := by omega
          go_wp2_with fail
          go_region_with (go_at_call 34; refine Calls.mono (C0 _ (Below.refl _ wr).drew) ?_; rintro e w1 ⟨⟨r1, rfl, hr1⟩, hb1⟩)
          all_goals
            have HB1 : Hid (Below W0.heap.size W0 w1) := bel2 HB.out (bel2 (Below.refl _ wr).drew hb1)
            have HR1 : Hid (r1 = true ↔ _) := hr1
            clear hb1 hr1
            cases r1
            · go_wp2_with fail
              go_ret
              have hn : ¬ l[j] = l2[j]'HL2.out := fun h => by cases HR1.out.2 h
              exact ⟨⟨false, rfl, ⟨fun h => (by cases h), fun h => absurd h (take_not hlt HL2.out hn)⟩⟩, bel2 HB0.out HB1.out⟩
            · go_wp2_with fail
              exact ⟨⟨j + 1, hlt, by rw [HW.out], take_more hlt HL2.out HE.out (HR1.out.1 rfl), HB1⟩, meas hlt HW.out⟩
        · obtain rfl : j = l.length := by omega
          go_wp2_with fail
          go_ret
          refine ⟨⟨true, rfl, ?_⟩, bel2 HB0.out HB.out⟩
          have h := HE.out
          rw [List.take_length, HL.out, List.take_length] at h
          simp [h]
    · have he : ¬ (Tv.mk k x b s l = Tv.mk k2 x2 b2 s2 l2) := fun h => hd (by cases h; exact ⟨rfl, rfl, rfl, rfl, rfl⟩)
      go_enter Try.func34, Try.ntmps34
      go_wp2_with fail
      all_goals first
        | (go_ret; exact ⟨⟨false, rfl, by simp [he]⟩, bel2 (bel1 _ _) (bel1 _ _)⟩)
        | exact absurd ⟨‹k = k2›, ‹x = x2›, ‹b = b2›, tl_inj ‹s.toList = s2.toList›, len_of_ne ‹_›⟩ hd
end Go.Proofs.Ytjmonkhkcmcfiaa
