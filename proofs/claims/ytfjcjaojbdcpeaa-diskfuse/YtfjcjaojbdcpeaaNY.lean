/- Append with a fuse, and dead; Sync dead. -/
import Derived.Test.YtfjcjaojbdcpeaaNX
namespace Go.Proofs.Ytfjcjaojbdcpeaa
open Go.ChangeShapes Go.WideShapes Go.ChangeAt Go.RowKit Go.Maps
set_option maxHeartbeats 4000000 in
set_option maxRecDepth 100000 in
theorem append_fuse (lo g N : Nat) (room : Int) (bs : Int → List UInt8) (ss : Int → Int) (z : Int) (hz : 0 ≤ z ∧ z < 40) (xp : Option Addr) (xc : Nat) (l : List UInt8) (w : World) (f : Int) (h : Dk lo w g room f false N bs ss) (hN : N ≤ 1000000) (hx : Lib.HoldsBytes w (.slice xp l.length xc) l) (hr : (l.length : Int) ≤ room - (used bs : Int)) (hroom : room ≤ 16777216) (hf0 : 0 < f) (hf1 : f ≤ 9223372036854775807) (hxg : ∀ a, xp = some a → a.block ≠ g) :
    Calls Try.prog 16 #[.pointer (some ⟨g, 0, none⟩), .int .i64 z, .slice xp l.length xc] w fun e w' => e = .returned (.int .i64 0) ∧ Dk lo w' g room (f - 1) false (N + 1) (upd bs z (bs z ++ l)) ss ∧ Below lo w w' := by
  obtain ⟨b, n, D, av, cv, hn, hk, hd⟩ := h
  have hwf : (Lit.int .i64 z).wf = true := by simp [Lit.wf, IntKind.min, IntKind.max, IntKind.signed, IntKind.bits]; omega
  have HM : Hid (∀ W, Below w.heap.size w W → Calls Try.prog 35 #[.pointer (some ⟨g, 0, none⟩)] W fun e w' => e = .returned (.bool true) ∧ w' = W) := fun W hB => made_calls g b _ _ _ W (hk.below hB)
  have HZ : Hid (∀ W, Calls Try.prog 39 #[.int .i64 z] W fun e w' => e = .returned (.bool true) ∧ w' = W) := fun W => (isZone_calls z W).mono fun e w' ⟨h1, h2⟩ => ⟨by rw [h1, decide_eq_true hz], h2⟩
  have hU : tot (fun k => (bs k).length) (Maps.has D) 40 = used bs := tot_sum hd.has 40
  have HU : Hid (∀ W, Below w.heap.size w W → Calls Try.prog 11 #[.pointer (some ⟨g, 0, none⟩)] W fun e w' => e = .returned (.int .i64 ((used bs : Nat) : Int)) ∧ Below W.heap.size W w') := fun W hB => by
    have := used_calls g b n _ _ _ D (fun k => (bs k).length) av cv ss W (hk.below hB) (hd.below hB).zm hd.hv (fun k hh => hd.ints k ((hd.has k).1 hh)) (fun k => by have := hd.sm k; show (bs k).length ≤ _; omega)
    rw [hU] at this
    exact this
  have hbz : (bs z).length ≤ used bs := sumN_mem bs z hz.1 40 hz.2
  have hlen : (bs z ++ l).length ≤ 16777216 := by rw [List.length_append]; omega
  have hw64 : wrap64 (room - (used bs : Int)) = room - (used bs : Int) := by unfold wrap64; omega
  have hng : decide (IntKind.i64.wrap (room - (used bs : Int)) < (l.length : Int)) = false := by
    rw [IntKind.wrap_i64]
    exact decide_eq_false (by omega)
  have hgl := hk.lt
  have hgb := bk_ne hk hd.zm
  have hlow : lo ≤ w.heap.size := Nat.le_trans hd.lg (Nat.le_of_lt hgl)
  have HC : Hid (∀ W q0 q1 q2, Below w.heap.size w W → w.heap.size ≤ q0 → w.heap.size ≤ q1 → W.cell? ⟨q0, 0, none⟩ = some (.pointer (some ⟨g, 0, none⟩)) → W.cell? ⟨q1, 0, none⟩ = some (.int .i64 z) → W.cell? ⟨q2, 0, none⟩ = some (.slice xp l.length xc) →
      Calls Try.prog 40 #[.pointer (some ⟨g, 0, none⟩), .func (.func 41) #[] #[.pointer (some ⟨q0, 0, none⟩), .pointer (some ⟨q1, 0, none⟩), .pointer (some ⟨q2, 0, none⟩)]] W fun e w' => e = .returned (.int .i64 0) ∧ (Dk lo w' g room (f - 1) false (N + 1) (upd bs z (bs z ++ l)) ss ∧ Below lo W w')) := fun W q0 q1 q2 hB l0 l1 k0 k1 k2 => by
    have hdW := hd.below hB
    have hkW := hk.below hB
    have hsW := hB.size
    have ho : ∀ B, (Value.slice (av z) (bs z).length (cv z)).ownBlock = some B → B < w.heap.size := fun B hB' => ((hd.own z).lt hB').2
    have kg : KB g W (W.setCell ⟨g, 1, none⟩ (.int .i64 (f - 1))) := KB.setCell g W 1 _
    have hdS := hdW.setg kg hgb
    have hkS : Bk (W.setCell ⟨g, 1, none⟩ (.int .i64 (f - 1))) g #[.int .i64 room, .int .i64 (f - 1), .bool false, .map (some b)] 57 := hkW.set 1 _
    have hsz : (W.setCell ⟨g, 1, none⟩ (.int .i64 (f - 1))).heap.size = W.heap.size := by simp [World.setCell]
    have hxS : Lib.HoldsBytes (W.setCell ⟨g, 1, none⟩ (.int .i64 (f - 1))) (.slice xp l.length xc) l := by
      obtain ⟨p, c, e, h1, h2⟩ := holds_below hx hB
      refine ⟨p, c, e, h1, fun a ha i x hx' => ?_⟩
      refine KB.cell kg (h2 a ha i x hx') ?_
      injection e with e1 _ _
      rw [show (a.add i).block = a.block from by unfold Addr.add; (repeat' split) <;> rfl]
      exact hxg a (e1.trans ha)
    have q0g : q0 ≠ g := by omega
    have q1g : q1 ≠ g := by omega
    have q2g : q2 ≠ g := by
      intro e
      subst e
      have := hkW.cell 0
      rw [k2] at this
      cases this
    refine change_appN g _ _ _ f hf0 hf1 _ _ _ W _ hkW ((append1_calls lo g b n q0 q1 q2 _ _ _ D z hwf (.slice (av z) (bs z).length (cv z)) (ss z) (bs z) l xp l.length xc _ hkS hdS.zm (maxLen_big (by omega)) (hd.hv z) (hdS.own z) (by rw [blk_own]; exact hd.ng z) (by rw [blk_own]; exact hd.nb z) (by rw [hsz]; omega) hxS (by rw [List.length_append] at hlen; omega) (KB.cell kg k0 q0g) (KB.cell kg k1 q1g) (KB.cell kg k2 q2g) ⟨fun e => by have := ho _ e; omega, fun e => by have := ho _ e; omega⟩).mono fun e w' hp => ?_)
    obtain ⟨h1, ⟨n', D', av', cv', hn', hdz⟩, hb', hgk⟩ := hdS.app (by rw [hsz]; omega) hgb (by rw [hsz]; omega) hz hlen hp
    exact ⟨h1, ⟨b, n', D', av', cv', by omega, (hgk.trans hkS : Bk w' g _ 57), hdz⟩, (kg.below hd.lg (by omega)).trans hb'⟩
  have x0 : w.cell? ⟨g, 0, none⟩ = some (.int .i64 room) := hk.cell 0
  have x2 : w.cell? ⟨g, 2, none⟩ = some (.bool false) := hk.cell 2
  obtain ⟨W0, hW0⟩ : ∃ W0, W0 = ((w.alloc (.cells #[.pointer (some ⟨g, 0, none⟩)] 23)).alloc (.cells #[.int .i64 z] 3)).alloc (.cells #[.slice xp l.length xc] 31) := ⟨_, rfl⟩
  have hB0 : Below w.heap.size w W0 := by rw [hW0]; exact bel2 (bel2 (bel1 _ _) (bel1 _ _)) (bel1 _ _)
  have y0 : W0.cell? ⟨w.heap.size, 0, none⟩ = some (.pointer (some ⟨g, 0, none⟩)) := by rw [hW0]; exact cell_below (cell_below ((Bk.new w #[.pointer (some ⟨g, 0, none⟩)] 23).cell 0) (bel1 _ _)) (bel1 _ _)
  have y1 : W0.cell? ⟨w.heap.size + 1, 0, none⟩ = some (.int .i64 z) := by
    have e1 : (w.alloc (.cells #[.pointer (some ⟨g, 0, none⟩)] 23)).heap.size = w.heap.size + 1 := by simp
    have := (Bk.new (w.alloc (.cells #[.pointer (some ⟨g, 0, none⟩)] 23)) #[.int .i64 z] 3).cell 0
    rw [e1] at this
    rw [hW0]
    exact cell_below this (bel1 _ _)
  have y2 : W0.cell? ⟨w.heap.size + 1 + 1, 0, none⟩ = some (.slice xp l.length xc) := by
    have e1 : ((w.alloc (.cells #[.pointer (some ⟨g, 0, none⟩)] 23)).alloc (.cells #[.int .i64 z] 3)).heap.size = w.heap.size + 1 + 1 := by simp
    have := (Bk.new ((w.alloc (.cells #[.pointer (some ⟨g, 0, none⟩)] 23)).alloc (.cells #[.int .i64 z] 3)) #[.slice xp l.length xc] 31).cell 0
    rw [e1] at this
    rw [hW0]
    exact this
  have HY : Hid (W0.cell? ⟨w.heap.size, 0, none⟩ = some (.pointer (some ⟨g, 0, none⟩)) ∧ W0.cell? ⟨w.heap.size + 1, 0, none⟩ = some (.int .i64 z) ∧ W0.cell? ⟨w.heap.size + 1 + 1, 0, none⟩ = some (.slice xp l.length xc) ∧ W0.cell? ⟨g, 0, none⟩ = some (.int .i64 room) ∧ W0.cell? ⟨g, 2, none⟩ = some (.bool false)) := ⟨y0, y1, y2, cell_below x0 hB0, cell_below x2 hB0⟩
  have HB0 : Hid (Below w.heap.size w W0) := hB0
  have HW0 : Hid (W0 = ((w.alloc (.cells #[.pointer (some ⟨g, 0, none⟩)] 23)).alloc (.cells #[.int .i64 z] 3)).alloc (.cells #[.slice xp l.length xc] 31)) := hW0
  have HLO : Hid (lo ≤ w.heap.size) := hlow
  generalize used bs = U at HU hw64 hng
  clear hk hd hn hN hx hr hroom hwf hU hbz hlen hgl hgb hlow x0 x2 hW0 hB0 y0 y1 y2 hf0 hf1 hxg
  go_enter Try.func16, Try.ntmps16
  go_upto_region 1 with fail
  rw [← HW0.out]
  obtain ⟨y0, y1, y2, x0, x2⟩ := HY.out
  go_wp2_with fail
  refine (HM.out W0 HB0.out).mono ?_
  rintro e w1 ⟨rfl, hw⟩
  have hw' := hw.symm
  subst hw'
  clear hw HM
  go_wp2_with fail
  refine (HZ.out _).mono ?_
  rintro e w1 ⟨rfl, hw⟩
  have hw' := hw.symm
  subst hw'
  clear hw HZ
  go_wp2_with fail
  go_region_held3 (fun w' => w'.cell? ⟨w.heap.size, 0, none⟩ = some (.pointer (some ⟨g, 0, none⟩)) ∧ w'.cell? ⟨w.heap.size + 1 + 1, 0, none⟩ = some (.slice xp l.length xc) ∧ w'.cell? ⟨g, 0, none⟩ = some (.int .i64 room)) (go_keep) (first
    | (go_at_call 11; refine (HU.out _ (by first | exact HB0.out | exact HB0.out.drew)).mono ?_; rintro e w1 ⟨rfl, hb⟩; have T1 : Hid (Below W0.heap.size W0 w1) := (by first | exact bel2 (Below.refl _ W0) hb | exact bel2 (Below.refl _ W0).drew hb); have a0 := cell_below y0 T1.out; have a1 := cell_below y1 T1.out; have a2 := cell_below y2 T1.out; have a3 := cell_below x0 T1.out; clear hb y0 y1 y2 x0 x2))
  have HK : Hid (Calls Try.prog 40 #[.pointer (some ⟨g, 0, none⟩), .func (.func 41) #[] #[.pointer (some ⟨w.heap.size, 0, none⟩), .pointer (some ⟨w.heap.size + 1, 0, none⟩), .pointer (some ⟨w.heap.size + 1 + 1, 0, none⟩)]] w1 _) := HC.out w1 _ _ _ (bel2 HB0.out T1.out) (Nat.le_refl _) (by omega) a0 a1 a2
  go_wp2_with fail
  refine HK.out.mono ?_
  rintro e w2 ⟨rfl, h1, h2⟩
  have H1 : Hid (Dk lo w2 g room (f - 1) false (N + 1) (upd bs z (bs z ++ l)) ss) := h1
  have H2 : Hid (Below lo w w2) := ((bel2 HB0.out T1.out).mono HLO.out).trans h2
  clear h1 h2
  go_wp2_with fail
  go_ret
  exact ⟨rfl, H1.out, H2.out⟩
set_option maxHeartbeats 4000000 in
set_option maxRecDepth 100000 in
theorem append_out (lo g N : Nat) (room : Int) (bs : Int → List UInt8) (ss : Int → Int) (z : Int) (hz : 0 ≤ z ∧ z < 40) (xp : Option Addr) (xc : Nat) (l : List UInt8) (w : World) (h : Dk lo w g room 0 false N bs ss) (_ : N ≤ 1000000) (_ : Lib.HoldsBytes w (.slice xp l.length xc) l) (hr : (l.length : Int) ≤ room - (used bs : Int)) (hroom : room ≤ 16777216) :
    Calls Try.prog 16 #[.pointer (some ⟨g, 0, none⟩), .int .i64 z, .slice xp l.length xc] w fun e w' => e = .returned (.int .i64 8) ∧ Dk lo w' g room 0 true N bs ss ∧ Below lo w w' := by
  obtain ⟨b, n, D, av, cv, hn, hk, hd⟩ := h
  have hwf : (Lit.int .i64 z).wf = true := by simp [Lit.wf, IntKind.min, IntKind.max, IntKind.signed, IntKind.bits]; omega
  have HM : Hid (∀ W, Below w.heap.size w W → Calls Try.prog 35 #[.pointer (some ⟨g, 0, none⟩)] W fun e w' => e = .returned (.bool true) ∧ w' = W) := fun W hB => made_calls g b _ _ _ W (hk.below hB)
  have HZ : Hid (∀ W, Calls Try.prog 39 #[.int .i64 z] W fun e w' => e = .returned (.bool true) ∧ w' = W) := fun W => (isZone_calls z W).mono fun e w' ⟨h1, h2⟩ => ⟨by rw [h1, decide_eq_true hz], h2⟩
  have hU : tot (fun k => (bs k).length) (Maps.has D) 40 = used bs := tot_sum hd.has 40
  have HU : Hid (∀ W, Below w.heap.size w W → Calls Try.prog 11 #[.pointer (some ⟨g, 0, none⟩)] W fun e w' => e = .returned (.int .i64 ((used bs : Nat) : Int)) ∧ Below W.heap.size W w') := fun W hB => by
    have := used_calls g b n _ _ _ D (fun k => (bs k).length) av cv ss W (hk.below hB) (hd.below hB).zm hd.hv (fun k hh => hd.ints k ((hd.has k).1 hh)) (fun k => by have := hd.sm k; show (bs k).length ≤ _; omega)
    rw [hU] at this
    exact this
  have hbz : (bs z).length ≤ used bs := sumN_mem bs z hz.1 40 hz.2
  have hlen : (bs z ++ l).length ≤ 16777216 := by rw [List.length_append]; omega
  have hw64 : wrap64 (room - (used bs : Int)) = room - (used bs : Int) := by unfold wrap64; omega
  have hng : decide (IntKind.i64.wrap (room - (used bs : Int)) < (l.length : Int)) = false := by
    rw [IntKind.wrap_i64]
    exact decide_eq_false (by omega)
  have hgl := hk.lt
  have hgb := bk_ne hk hd.zm
  have hlow : lo ≤ w.heap.size := Nat.le_trans hd.lg (Nat.le_of_lt hgl)
  have HC : Hid (∀ W q0 q1 q2, Below w.heap.size w W → w.heap.size ≤ q0 → w.heap.size ≤ q1 → W.cell? ⟨q0, 0, none⟩ = some (.pointer (some ⟨g, 0, none⟩)) → W.cell? ⟨q1, 0, none⟩ = some (.int .i64 z) → W.cell? ⟨q2, 0, none⟩ = some (.slice xp l.length xc) →
      Calls Try.prog 40 #[.pointer (some ⟨g, 0, none⟩), .func (.func 41) #[] #[.pointer (some ⟨q0, 0, none⟩), .pointer (some ⟨q1, 0, none⟩), .pointer (some ⟨q2, 0, none⟩)]] W fun e w' => e = .returned (.int .i64 8) ∧ (Dk lo w' g room 0 true N bs ss ∧ Below lo W w')) := fun W q0 q1 q2 hB _ _ _ _ _ => by
    have hdW := hd.below hB
    have hkW := hk.below hB
    have hsW := hB.size
    have kg : KB g W (W.setCell ⟨g, 2, none⟩ (.bool true)) := KB.setCell g W 2 _
    refine (change_app0 g _ _ _ _ _ _ W hkW).mono fun e w' ⟨h1, h2⟩ => ?_
    subst h2
    exact ⟨h1, ⟨b, n, D, av, cv, hn, hkW.set 2 _, hdW.setg kg hgb⟩, kg.below hd.lg (by omega)⟩
  have x0 : w.cell? ⟨g, 0, none⟩ = some (.int .i64 room) := hk.cell 0
  have x2 : w.cell? ⟨g, 2, none⟩ = some (.bool false) := hk.cell 2
  obtain ⟨W0, hW0⟩ : ∃ W0, W0 = ((w.alloc (.cells #[.pointer (some ⟨g, 0, none⟩)] 23)).alloc (.cells #[.int .i64 z] 3)).alloc (.cells #[.slice xp l.length xc] 31) := ⟨_, rfl⟩
  have hB0 : Below w.heap.size w W0 := by rw [hW0]; exact bel2 (bel2 (bel1 _ _) (bel1 _ _)) (bel1 _ _)
  have y0 : W0.cell? ⟨w.heap.size, 0, none⟩ = some (.pointer (some ⟨g, 0, none⟩)) := by rw [hW0]; exact cell_below (cell_below ((Bk.new w #[.pointer (some ⟨g, 0, none⟩)] 23).cell 0) (bel1 _ _)) (bel1 _ _)
  have y1 : W0.cell? ⟨w.heap.size + 1, 0, none⟩ = some (.int .i64 z) := by
    have e1 : (w.alloc (.cells #[.pointer (some ⟨g, 0, none⟩)] 23)).heap.size = w.heap.size + 1 := by simp
    have := (Bk.new (w.alloc (.cells #[.pointer (some ⟨g, 0, none⟩)] 23)) #[.int .i64 z] 3).cell 0
    rw [e1] at this
    rw [hW0]
    exact cell_below this (bel1 _ _)
  have y2 : W0.cell? ⟨w.heap.size + 1 + 1, 0, none⟩ = some (.slice xp l.length xc) := by
    have e1 : ((w.alloc (.cells #[.pointer (some ⟨g, 0, none⟩)] 23)).alloc (.cells #[.int .i64 z] 3)).heap.size = w.heap.size + 1 + 1 := by simp
    have := (Bk.new ((w.alloc (.cells #[.pointer (some ⟨g, 0, none⟩)] 23)).alloc (.cells #[.int .i64 z] 3)) #[.slice xp l.length xc] 31).cell 0
    rw [e1] at this
    rw [hW0]
    exact this
  have HY : Hid (W0.cell? ⟨w.heap.size, 0, none⟩ = some (.pointer (some ⟨g, 0, none⟩)) ∧ W0.cell? ⟨w.heap.size + 1, 0, none⟩ = some (.int .i64 z) ∧ W0.cell? ⟨w.heap.size + 1 + 1, 0, none⟩ = some (.slice xp l.length xc) ∧ W0.cell? ⟨g, 0, none⟩ = some (.int .i64 room) ∧ W0.cell? ⟨g, 2, none⟩ = some (.bool false)) := ⟨y0, y1, y2, cell_below x0 hB0, cell_below x2 hB0⟩
  have HB0 : Hid (Below w.heap.size w W0) := hB0
  have HW0 : Hid (W0 = ((w.alloc (.cells #[.pointer (some ⟨g, 0, none⟩)] 23)).alloc (.cells #[.int .i64 z] 3)).alloc (.cells #[.slice xp l.length xc] 31)) := hW0
  have HLO : Hid (lo ≤ w.heap.size) := hlow
  generalize used bs = U at HU hw64 hng
  clear hk hd hn hr hroom hwf hU hbz hlen hgl hgb hlow x0 x2 hW0 hB0 y0 y1 y2
  go_enter Try.func16, Try.ntmps16
  go_upto_region 1 with fail
  rw [← HW0.out]
  obtain ⟨y0, y1, y2, x0, x2⟩ := HY.out
  go_wp2_with fail
  refine (HM.out W0 HB0.out).mono ?_
  rintro e w1 ⟨rfl, hw⟩
  have hw' := hw.symm
  subst hw'
  clear hw HM
  go_wp2_with fail
  refine (HZ.out _).mono ?_
  rintro e w1 ⟨rfl, hw⟩
  have hw' := hw.symm
  subst hw'
  clear hw HZ
  go_wp2_with fail
  go_region_held3 (fun w' => w'.cell? ⟨w.heap.size, 0, none⟩ = some (.pointer (some ⟨g, 0, none⟩)) ∧ w'.cell? ⟨w.heap.size + 1 + 1, 0, none⟩ = some (.slice xp l.length xc) ∧ w'.cell? ⟨g, 0, none⟩ = some (.int .i64 room)) (go_keep) (first
    | (go_at_call 11; refine (HU.out _ (by first | exact HB0.out | exact HB0.out.drew)).mono ?_; rintro e w1 ⟨rfl, hb⟩; have T1 : Hid (Below W0.heap.size W0 w1) := (by first | exact bel2 (Below.refl _ W0) hb | exact bel2 (Below.refl _ W0).drew hb); have a0 := cell_below y0 T1.out; have a1 := cell_below y1 T1.out; have a2 := cell_below y2 T1.out; have a3 := cell_below x0 T1.out; clear hb y0 y1 y2 x0 x2))
  have HK : Hid (Calls Try.prog 40 #[.pointer (some ⟨g, 0, none⟩), .func (.func 41) #[] #[.pointer (some ⟨w.heap.size, 0, none⟩), .pointer (some ⟨w.heap.size + 1, 0, none⟩), .pointer (some ⟨w.heap.size + 1 + 1, 0, none⟩)]] w1 _) := HC.out w1 _ _ _ (bel2 HB0.out T1.out) (Nat.le_refl _) (by omega) a0 a1 a2
  go_wp2_with fail
  refine HK.out.mono ?_
  rintro e w2 ⟨rfl, h1, h2⟩
  have H1 : Hid (Dk lo w2 g room 0 true N bs ss) := h1
  have H2 : Hid (Below lo w w2) := ((bel2 HB0.out T1.out).mono HLO.out).trans h2
  clear h1 h2
  go_wp2_with fail
  go_ret
  exact ⟨rfl, H1.out, H2.out⟩
set_option maxRecDepth 100000 in
theorem append_dead (lo g N : Nat) (room fuse : Int) (bs : Int → List UInt8) (ss : Int → Int) (z : Int) (hz : 0 ≤ z ∧ z < 40) (xp : Option Addr) (xn xc : Nat) (w : World) (h : Dk lo w g room fuse true N bs ss) :
    Calls Try.prog 16 #[.pointer (some ⟨g, 0, none⟩), .int .i64 z, .slice xp xn xc] w fun e w' => e = .returned (.int .i64 8) ∧ Below w.heap.size w w' := by
  obtain ⟨b, n, D, av, cv, hn, hk, hd⟩ := h
  have HM : Hid (∀ W, Below w.heap.size w W → Calls Try.prog 35 #[.pointer (some ⟨g, 0, none⟩)] W fun e w' => e = .returned (.bool true) ∧ w' = W) := fun W hB => made_calls g b _ _ _ W (hk.below hB)
  have HZ : Hid (∀ W, Calls Try.prog 39 #[.int .i64 z] W fun e w' => e = .returned (.bool true) ∧ w' = W) := fun W => (isZone_calls z W).mono fun e w' ⟨h1, h2⟩ => ⟨by rw [h1, decide_eq_true hz], h2⟩
  have x2 : w.cell? ⟨g, 2, none⟩ = some (.bool true) := hk.cell 2
  have hgl := hk.lt
  have x2a : ∀ o1 o2 o3, (((w.alloc o1).alloc o2).alloc o3).cell? ⟨g, 2, none⟩ = some (.bool true) := fun o1 o2 o3 => cell_below x2 (bel2 (bel2 (bel1 _ _) (bel1 _ _)) (bel1 _ _))
  clear hk hd hn x2 hgl
  go_enter Try.func16, Try.ntmps16
  go_wp2_with fail
  refine (HM.out _ (bel2 (bel2 (bel1 _ _) (bel1 _ _)) (bel1 _ _))).mono ?_
  rintro e w1 ⟨rfl, hw⟩
  have hw' := hw.symm
  subst hw'
  clear hw HM
  go_wp2_with fail
  refine (HZ.out _).mono ?_
  rintro e w1 ⟨rfl, hw⟩
  have hw' := hw.symm
  subst hw'
  clear hw HZ
  go_wp2_with fail
  go_ret
  exact ⟨rfl, bel2 (bel2 (bel1 _ _) (bel1 _ _)) (bel1 _ _)⟩
set_option maxRecDepth 100000 in
theorem sync_dead (lo g N : Nat) (room fuse : Int) (bs : Int → List UInt8) (ss : Int → Int) (w : World) (h : Dk lo w g room fuse true N bs ss) :
    Calls Try.prog 17 #[.pointer (some ⟨g, 0, none⟩)] w fun e w' => e = .returned (.int .i64 8) ∧ w' = w := by
  obtain ⟨b, n, D, av, cv, hn, hk, hd⟩ := h
  have HM : Hid (Calls Try.prog 35 #[.pointer (some ⟨g, 0, none⟩)] w _) := made_calls g b _ _ _ w hk
  have x2 : w.cell? ⟨g, 2, none⟩ = some (.bool true) := hk.cell 2
  clear hk hd hn
  go_enter Try.func17, Try.ntmps17
  go_wp2_with fail
  refine HM.out.mono ?_
  rintro e w1 ⟨rfl, hw⟩
  have hw' := hw.symm
  subst hw'
  clear hw HM
  go_wp2_with fail
  go_ret
  exact ⟨rfl, rfl⟩
end Go.Proofs.Ytfjcjaojbdcpeaa
