/- The contract of Append. -/
import Derived.Test.YtfjcjaojbdcpeaaNO
import Derived.Deep.RegionHeld3
import Derived.Deep.DeepCutAuto
namespace Go.Proofs.Ytfjcjaojbdcpeaa
open Go.ChangeShapes Go.WideShapes Go.ChangeAt Go.RowKit Go.Maps
/-- f, but y at z. -/
def upd {α : Type} (f : Int → α) (z : Int) (y : α) : Int → α := fun k => if k = z then y else f k
theorem upd_same {α : Type} (f : Int → α) (z : Int) (y : α) : upd f z y z = y := by simp [upd]
theorem upd_other {α : Type} (f : Int → α) {z k : Int} (y : α) (h : k ≠ z) : upd f z y k = f k := by simp [upd, h]
/-- The bytes of the zones below N. -/
def sumN (bs : Int → List UInt8) : Nat → Nat
  | 0 => 0
  | N + 1 => sumN bs N + (bs (N : Int)).length
theorem tot_sum {D : DataW Value} {bs : Int → List UInt8} (h : ∀ k, Maps.has D (.int .i64 k) = true ↔ bs k ≠ []) : ∀ N, tot (fun k => (bs k).length) (Maps.has D) N = sumN bs N
  | 0 => rfl
  | N + 1 => by
    unfold tot sumN
    rw [tot_sum h N]
    by_cases e : Maps.has D (.int .i64 (N : Int)) = true
    · rw [if_pos e]
    · rw [if_neg e]
      have : bs (N : Int) = [] := Classical.byContradiction fun hn => e ((h _).2 hn)
      rw [this]
      rfl
theorem sumN_mem (bs : Int → List UInt8) (z : Int) (h0 : 0 ≤ z) : ∀ N : Nat, z < (N : Int) → (bs z).length ≤ sumN bs N
  | 0, h => by omega
  | N + 1, h => by
    unfold sumN
    by_cases e : z = (N : Int)
    · rw [e]; omega
    · have := sumN_mem bs z h0 N (by omega); omega
def used (bs : Int → List UInt8) : Nat := sumN bs 40
theorem Dz.zero {lo g b n : Nat} {w : World} {D : DataW Value} {av : Int → Option Addr} {cv : Int → Nat} {bs : Int → List UInt8} {ss : Int → Int} (h : Dz lo w g b n D av cv bs ss) {z : Int} (hz : bs z = []) : av z = none ∧ cv z = 0 ∧ ss z = 0 := by
  have e' : Maps.has D (.int .i64 z) = false := by
    cases e : Maps.has D (.int .i64 z)
    · rfl
    · exact absurd hz ((h.has z).1 e)
  have h0 := h.hv z
  rw [atKey_no (World.ownsMap.isMap h.zm) e'] at h0
  unfold zC at h0
  injection h0 with h0
  injection h0 with h0
  injection h0 with h0
  injection h0 with ha hb'
  injection hb' with hb' _
  injection ha with ha1 ha2 ha3
  injection hb' with _ hb2
  exact ⟨ha1.symm, ha3.symm, hb2.symm⟩
theorem Dz.app {lo g b n : Nat} {w w' : World} {D : DataW Value} {av : Int → Option Addr} {cv : Int → Nat} {bs : Int → List UInt8} {ss : Int → Int} (h : Dz lo w g b n D av cv bs ss) (hg : g < w.heap.size) (hgb : g ≠ b) (hlo : lo ≤ w.heap.size) {z : Int} (hz : 0 ≤ z ∧ z < 40) {l : List UInt8} (hl : (bs z ++ l).length ≤ 16777216) {x : Ending}
    (hp : ApP lo b n D z (.slice (av z) (bs z).length (cv z)) (ss z) (bs z) l w x w') :
    x = .returned (.tuple #[]) ∧ (∃ n' D' av' cv', n' ≤ n + 1 ∧ Dz lo w' g b n' D' av' cv' (upd bs z (bs z ++ l)) ss) ∧ Below lo w w' ∧ w'.heap[g]? = w.heap[g]? := by
  obtain ⟨hx, u, n', ho, hn', hput, hdel, hu, hsz, hos, htp, hout, hblk⟩ := hp
  have hb := World.ownsMap.lt h.zm
  have hIM := World.ownsMap.isMap h.zm
  have hown : ∀ k B, blk (av k) = some B → lo ≤ B ∧ B < w.heap.size := fun k B hB => (h.own k).lt ((blk_own _ _ _).trans hB)
  have hstay : ∀ k, k ≠ z → Own lo w' (.slice (av k) (bs k).length (cv k)) (bs k) := fun k hk => (h.own k).keep (fun B hB => by
    rw [blk_own] at hB
    exact hblk B (hown k B hB).2 (fun e => h.nb k (by rw [hB, e])) (by rw [blk_own]; exact h.apart k z B hk hB))
  have hbel : Below lo w w' := ⟨hos, htp, hout, hsz, fun k hk => hblk k (by omega) (by have := h.lb; omega) (by rw [blk_own]; intro e; have := (hown z k e).1; omega)⟩
  have hgk : w'.heap[g]? = w.heap[g]? := hblk g hg hgb (by rw [blk_own]; exact h.ng z)
  refine ⟨hx, ?_, hbel, hgk⟩
  by_cases hne : bs z ++ l = []
  · have hb0 : bs z = [] := (List.append_eq_nil_iff.1 hne).1
    obtain ⟨z1, z2, z3⟩ := h.zero hb0
    have hup : upd bs z (bs z ++ l) = bs := by
      funext k
      by_cases e : k = z
      · subst e; rw [upd_same, hne, hb0]
      · rw [upd_other _ _ e]
    refine ⟨n', D.del (.int .i64 z), av, cv, hn', ?_⟩
    rw [hup]
    refine ⟨hdel hne, fun k => ?_, fun k => ?_, h.ints, fun k => ?_, h.apart, h.ng, h.nb, h.lg, h.lb, h.sm⟩
    · by_cases e : k = z
      · subst e
        rw [atKey_del_same, z1, z2, z3]
        simp only [hb0]
        rfl
      · rw [atKey_del_other (fun e2 => by injection e2 with _ e2; exact e e2)]
        exact h.hv k
    · by_cases e : k = z
      · subst e
        rw [has_del_same]
        simp [hb0]
      · rw [has_del_other (fun e2 => by injection e2 with _ e2; exact e e2)]
        exact h.has k
    · by_cases e : k = z
      · subst e
        rw [z1, z2, hb0]
        exact Own.nil _ _
      · exact hstay k e
  · obtain ⟨ua, uc, rfl, _⟩ := ho.shape
    rw [blk_own, blk_own] at hu
    have hwf : WideAt.IsKeyLit (.int .i64 z) := intKeyed.key (keyI (k := z) (by simp [Lit.wf, IntKind.min, IntKind.max, IntKind.signed, IntKind.bits]; omega))
    have hnew : ∀ B, blk ua = some B → blk (av z) = some B ∨ w.heap.size ≤ B := fun B hB => by
      rcases hu with e | ⟨B', e, hle⟩
      · exact .inl (e ▸ hB)
      · rw [e] at hB; injection hB with hB; exact .inr (hB ▸ hle)
    refine ⟨n', D.put (.int .i64 z) (.held (.agg #[.slice ua (bs z ++ l).length uc, .int .i64 (ss z)])), upd av z ua, upd cv z uc, hn', ⟨hput hne, fun k => ?_, fun k => ?_, fun k hk => ?_, fun k => ?_, fun k k' B hkk hB => ?_, fun k => ?_, fun k => ?_, h.lg, h.lb, fun k => ?_⟩⟩
    · by_cases e : k = z
      · subst e
        rw [atKey_put_same hIM hwf]
        simp only [upd_same]
      · rw [atKey_put_other (fun e2 => by injection e2 with _ e2; exact e e2)]
        simp only [upd_other _ _ e]
        exact h.hv k
    · by_cases e : k = z
      · subst e
        rw [has_put_same hIM hwf, upd_same]
        simp [hne]
      · rw [has_put_other (fun e2 => by injection e2 with _ e2; exact e e2), upd_other _ _ e]
        exact h.has k
    · by_cases e : k = z
      · subst e; exact hz
      · rw [upd_other _ _ e] at hk; exact h.ints k hk
    · by_cases e : k = z
      · subst e
        simp only [upd_same]
        exact ho
      · simp only [upd_other _ _ e]
        exact hstay k e
    · by_cases e : k = z
      · subst e
        rw [upd_same] at hB
        rw [upd_other _ _ (fun e2 => hkk e2.symm)]
        rcases hnew B hB with e3 | e3
        · exact h.apart k k' B hkk e3
        · intro e4
          have := (hown k' B e4).2
          omega
      · rw [upd_other _ _ e] at hB
        by_cases e' : k' = z
        · subst e'
          rw [upd_same]
          intro e4
          rcases hnew B e4 with e3 | e3
          · exact h.apart k k' B hkk hB e3
          · have := (hown k B hB).2
            omega
        · rw [upd_other _ _ e']
          exact h.apart k k' B hkk hB
    · by_cases e : k = z
      · subst e
        rw [upd_same]
        intro e4
        rcases hnew g e4 with e3 | e3
        · exact h.ng k e3
        · omega
      · rw [upd_other _ _ e]; exact h.ng k
    · by_cases e : k = z
      · subst e
        rw [upd_same]
        intro e4
        rcases hnew b e4 with e3 | e3
        · exact h.nb k e3
        · omega
      · rw [upd_other _ _ e]; exact h.nb k
    · by_cases e : k = z
      · subst e; rw [upd_same]; exact hl
      · rw [upd_other _ _ e]; exact h.sm k
set_option maxHeartbeats 4000000 in
set_option maxRecDepth 100000 in
theorem append_live (lo g N : Nat) (room : Int) (bs : Int → List UInt8) (ss : Int → Int) (z : Int) (hz : 0 ≤ z ∧ z < 40) (xp : Option Addr) (xc : Nat) (l : List UInt8) (w : World) (h : Dk lo w g room (-1) false N bs ss) (hN : N ≤ 1000000) (hx : Lib.HoldsBytes w (.slice xp l.length xc) l) (hr : (l.length : Int) ≤ room - (used bs : Int)) (hroom : room ≤ 16777216) :
    Calls Try.prog 16 #[.pointer (some ⟨g, 0, none⟩), .int .i64 z, .slice xp l.length xc] w fun e w' => e = .returned (.int .i64 0) ∧ Dk lo w' g room (-1) false (N + 1) (upd bs z (bs z ++ l)) ss ∧ Below lo w w' := by
  obtain ⟨b, n, D, av, cv, hn, hk, hd⟩ := h
  have hwf : (Lit.int .i64 z).wf = true := by simp [Lit.wf, IntKind.min, IntKind.max, IntKind.signed, IntKind.bits]; omega
  have HM : Hid (∀ W, Below w.heap.size w W → Calls Try.prog 35 #[.pointer (some ⟨g, 0, none⟩)] W fun e w' => e = .returned (.bool true) ∧ w' = W) := fun W hB => made_calls g b _ _ _ W (hk.below hB)
  have HZ : Hid (∀ W, Calls Try.prog 39 #[.int .i64 z] W fun e w' => e = .returned (.bool true) ∧ w' = W) := fun W => (isZone_calls z W).mono fun e w' ⟨h1, h2⟩ => ⟨by rw [h1, decide_eq_true hz], h2⟩
  have hU : tot (fun k => (bs k).length) (Maps.has D) 40 = used bs := tot_sum hd.has 40
  have HU : Hid (∀ W, Below w.heap.size w W → Calls Try.prog 11 #[.pointer (some ⟨g, 0, none⟩)] W fun e w' => e = .returned (.int .i64 ((used bs : Nat) : Int)) ∧ Below W.heap.size W w') := fun W hB => by
    have := used_calls g b n _ _ _ D (fun k => (bs k).length) av cv ss W (hk.below hB) (hd.below hB).zm hd.hv (fun k hh => hd.ints k ((hd.has k).1 hh)) (fun k => by have := hd.sm k; show (bs k).length ≤ _; omega)
    rw [hU] at this
    exact this
  have hbz : (bs z).length ≤ used bs := sumN_mem bs z hz.1 40 hz.2
  have hlen : (bs z ++ l).length ≤ 16777216 := by rw [List.length_append]; omega
  have hw64 : wrap64 (room - (used bs : Int)) = room - (used bs : Int) := by unfold wrap64; omega
  have hng : decide (IntKind.i64.wrap (room - (used bs : Int)) < (l.length : Int)) = false := by
    rw [IntKind.wrap_i64]
    exact decide_eq_false (by omega)
  have hgl := hk.lt
  have hgb := bk_ne hk hd.zm
  have hlow : lo ≤ w.heap.size := Nat.le_trans hd.lg (Nat.le_of_lt hgl)
  have HC : Hid (∀ W q0 q1 q2, Below w.heap.size w W → w.heap.size ≤ q0 → w.heap.size ≤ q1 → W.cell? ⟨q0, 0, none⟩ = some (.pointer (some ⟨g, 0, none⟩)) → W.cell? ⟨q1, 0, none⟩ = some (.int .i64 z) → W.cell? ⟨q2, 0, none⟩ = some (.slice xp l.length xc) →
      Calls Try.prog 40 #[.pointer (some ⟨g, 0, none⟩), .func (.func 41) #[] #[.pointer (some ⟨q0, 0, none⟩), .pointer (some ⟨q1, 0, none⟩), .pointer (some ⟨q2, 0, none⟩)]] W fun e w' => e = .returned (.int .i64 0) ∧ (Dk lo w' g room (-1) false (N + 1) (upd bs z (bs z ++ l)) ss ∧ Below lo W w')) := fun W q0 q1 q2 hB l0 l1 k0 k1 k2 => by
    have hdW := hd.below hB
    have hkW := hk.below hB
    have hsW := hB.size
    have ho : ∀ B, (Value.slice (av z) (bs z).length (cv z)).ownBlock = some B → B < w.heap.size := fun B hB' => ((hd.own z).lt hB').2
    refine change_appF g _ _ _ _ _ _ W _ hkW ((append1_calls lo g b n q0 q1 q2 _ _ _ D z hwf (.slice (av z) (bs z).length (cv z)) (ss z) (bs z) l xp l.length xc W hkW hdW.zm (maxLen_big (by omega)) (hd.hv z) (hdW.own z) (by rw [blk_own]; exact hd.ng z) (by rw [blk_own]; exact hd.nb z) (by omega) (holds_below hx hB) (by rw [List.length_append] at hlen; omega) k0 k1 k2 ⟨fun e => by have := ho _ e; omega, fun e => by have := ho _ e; omega⟩).mono fun e w' hp => ?_)
    obtain ⟨h1, ⟨n', D', av', cv', hn', hdz⟩, hb', hgk⟩ := hdW.app (by omega) hgb (by omega) hz hlen hp
    exact ⟨h1, ⟨b, n', D', av', cv', by omega, (hgk.trans hkW : Bk w' g _ 57), hdz⟩, hb'⟩
  have x0 : w.cell? ⟨g, 0, none⟩ = some (.int .i64 room) := hk.cell 0
  have x2 : w.cell? ⟨g, 2, none⟩ = some (.bool false) := hk.cell 2
  obtain ⟨W0, hW0⟩ : ∃ W0, W0 = ((w.alloc (.cells #[.pointer (some ⟨g, 0, none⟩)] 23)).alloc (.cells #[.int .i64 z] 3)).alloc (.cells #[.slice xp l.length xc] 31) := ⟨_, rfl⟩
  have hB0 : Below w.heap.size w W0 := by rw [hW0]; exact bel2 (bel2 (bel1 _ _) (bel1 _ _)) (bel1 _ _)
  have y0 : W0.cell? ⟨w.heap.size, 0, none⟩ = some (.pointer (some ⟨g, 0, none⟩)) := by rw [hW0]; exact cell_below (cell_below ((Bk.new w #[.pointer (some ⟨g, 0, none⟩)] 23).cell 0) (bel1 _ _)) (bel1 _ _)
  have y1 : W0.cell? ⟨w.heap.size + 1, 0, none⟩ = some (.int .i64 z) := by
    have e1 : (w.alloc (.cells #[.pointer (some ⟨g, 0, none⟩)] 23)).heap.size = w.heap.size + 1 := by simp
    have := (Bk.new (w.alloc (.cells #[.pointer (some ⟨g, 0, none⟩)] 23)) #[.int .i64 z] 3).cell 0
    rw [e1] at this
    rw [hW0]
    exact cell_below this (bel1 _ _)
  have y2 : W0.cell? ⟨w.heap.size + 1 + 1, 0, none⟩ = some (.slice xp l.length xc) := by
    have e1 : ((w.alloc (.cells #[.pointer (some ⟨g, 0, none⟩)] 23)).alloc (.cells #[.int .i64 z] 3)).heap.size = w.heap.size + 1 + 1 := by simp
    have := (Bk.new ((w.alloc (.cells #[.pointer (some ⟨g, 0, none⟩)] 23)).alloc (.cells #[.int .i64 z] 3)) #[.slice xp l.length xc] 31).cell 0
    rw [e1] at this
    rw [hW0]
    exact this
  have HY : Hid (W0.cell? ⟨w.heap.size, 0, none⟩ = some (.pointer (some ⟨g, 0, none⟩)) ∧ W0.cell? ⟨w.heap.size + 1, 0, none⟩ = some (.int .i64 z) ∧ W0.cell? ⟨w.heap.size + 1 + 1, 0, none⟩ = some (.slice xp l.length xc) ∧ W0.cell? ⟨g, 0, none⟩ = some (.int .i64 room) ∧ W0.cell? ⟨g, 2, none⟩ = some (.bool false)) := ⟨y0, y1, y2, cell_below x0 hB0, cell_below x2 hB0⟩
  have HB0 : Hid (Below w.heap.size w W0) := hB0
  have HW0 : Hid (W0 = ((w.alloc (.cells #[.pointer (some ⟨g, 0, none⟩)] 23)).alloc (.cells #[.int .i64 z] 3)).alloc (.cells #[.slice xp l.length xc] 31)) := hW0
  have HLO : Hid (lo ≤ w.heap.size) := hlow
  generalize used bs = U at HU hw64 hng
  clear hk hd hn hN hx hr hroom hwf hU hbz hlen hgl hgb hlow x0 x2 hW0 hB0 y0 y1 y2
  go_enter Try.func16, Try.ntmps16
  go_upto_region 1 with fail
  rw [← HW0.out]
  obtain ⟨y0, y1, y2, x0, x2⟩ := HY.out
  go_wp2_with fail
  refine (HM.out W0 HB0.out).mono ?_
  rintro e w1 ⟨rfl, hw⟩
  have hw' := hw.symm
  subst hw'
  clear hw HM
  go_wp2_with fail
  refine (HZ.out _).mono ?_
  rintro e w1 ⟨rfl, hw⟩
  have hw' := hw.symm
  subst hw'
  clear hw HZ
  go_wp2_with fail
  go_region_held3 (fun w' => w'.cell? ⟨w.heap.size, 0, none⟩ = some (.pointer (some ⟨g, 0, none⟩)) ∧ w'.cell? ⟨w.heap.size + 1 + 1, 0, none⟩ = some (.slice xp l.length xc) ∧ w'.cell? ⟨g, 0, none⟩ = some (.int .i64 room)) (go_keep) (first
    | (go_at_call 11; refine (HU.out _ (by first | exact HB0.out | exact HB0.out.drew)).mono ?_; rintro e w1 ⟨rfl, hb⟩; have T1 : Hid (Below W0.heap.size W0 w1) := (by first | exact bel2 (Below.refl _ W0) hb | exact bel2 (Below.refl _ W0).drew hb); have a0 := cell_below y0 T1.out; have a1 := cell_below y1 T1.out; have a2 := cell_below y2 T1.out; have a3 := cell_below x0 T1.out; clear hb y0 y1 y2 x0 x2))
  have HK : Hid (Calls Try.prog 40 #[.pointer (some ⟨g, 0, none⟩), .func (.func 41) #[] #[.pointer (some ⟨w.heap.size, 0, none⟩), .pointer (some ⟨w.heap.size + 1, 0, none⟩), .pointer (some ⟨w.heap.size + 1 + 1, 0, none⟩)]] w1 _) := HC.out w1 _ _ _ (bel2 HB0.out T1.out) (Nat.le_refl _) (by omega) a0 a1 a2
  go_wp2_with fail
  refine HK.out.mono ?_
  rintro e w2 ⟨rfl, h1, h2⟩
  have H1 : Hid (Dk lo w2 g room (-1) false (N + 1) (upd bs z (bs z ++ l)) ss) := h1
  have H2 : Hid (Below lo w w2) := ((bel2 HB0.out T1.out).mono HLO.out).trans h2
  clear h1 h2
  go_wp2_with fail
  go_ret
  exact ⟨rfl, H1.out, H2.out⟩
end Go.Proofs.Ytfjcjaojbdcpeaa
