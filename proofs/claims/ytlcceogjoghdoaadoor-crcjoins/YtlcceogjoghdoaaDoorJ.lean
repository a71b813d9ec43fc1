/- The walk of CrcJoins. -/
import Derived.Test.YtlcceogjoghdoaaDoorI
namespace Go.Proofs.YtlcceogjoghdoaaDoor
open Go.ChangeShapes Go.WideShapes Go.ChangeAt Go.RowKit
theorem holds_below {w w' : World} {v : Value} {l : List UInt8} (h : Lib.HoldsBytes w v l) (hb : Below w.heap.size w w') : Lib.HoldsBytes w' v l := by
  obtain ⟨p, cap, rfl, h1, h2⟩ := h
  exact ⟨p, cap, rfl, h1, fun a ha i x hx => Lib.Below.cellOf hb (h2 a ha i x hx) (Nat.le_refl _)⟩
theorem parts_two (w : World) (v0 v1 : Value) (l0 l1 : List UInt8) (h0 : Lib.HoldsBytes w v0 l0) (h1 : Lib.HoldsBytes w v1 l1) (t : TypeId) :
    Lib.PartsAt (w.alloc (.cells #[v0, v1] t)) ⟨w.heap.size, 0, none⟩ [v0, v1] [l0, l1] := by
  have hb : Below w.heap.size w (w.alloc (.cells #[v0, v1] t)) := (Below.refl _ w).alloc (Nat.le_refl _) _
  refine ⟨rfl, ?_, ?_⟩
  · intro i v hv
    rw [add_plain, Nat.zero_add]
    match i, hv with
    | 0, hv => simp at hv; subst hv; simp
    | 1, hv => simp at hv; subst hv; simp
    | i + 2, hv => simp at hv
  · intro i v l hv hl
    match i, hv, hl with
    | 0, hv, hl => simp at hv hl; subst hv hl; exact holds_below h0 hb
    | 1, hv, hl => simp at hv hl; subst hv hl; exact holds_below h1 hb
    | i + 2, hv, hl => simp at hv
theorem joins_walk (pa p : Option Addr) (na ca len cap m : Nat) (la lb : List UInt8) (w : World) (ha : Lib.HoldsBytes w (.slice pa na ca) la) (hb : Lib.HoldsBytes w (.slice p m cap) lb) (hm : min (len : Int) 1048576 = (m : Int)) (hmc : m ≤ cap) (hlb : lb.length = m) (hla : la.length ≤ 140737488351232) (hm20 : m ≤ 1048576) (hT : Tb w) :
    Calls Tryd.prog 5 #[.slice pa na ca, .slice p len cap] w fun e w' => e = .returned (.bool true) ∧ Below w.heap.size w w' := by
  have B0 : Hid (Below w.heap.size w (w.alloc (.cells #[.slice pa na ca, .slice p m cap] 22))) := (Below.refl _ w).alloc (Nat.le_refl _) _
  have CC : Hid (Calls _ _ _ _ _) := concat_calls w.heap.size 2 2 _ [la, lb] _ rfl (parts_two w _ _ la lb ha hb 22) (by omega) (la.length + lb.length) (by simp [Lib.lens]) (by omega)
  have e2 : [la, lb].flatten = la ++ lb := by simp
  rw [e2] at CC
  have HA : Hid (Lib.HoldsBytes w _ la) := ha
  have HV : Hid (Lib.HoldsBytes w _ lb) := hb
  have HT : Hid (Tb w) := hT
  have H1 : Hid (la.length ≤ 9223372036854775807 ∧ lb.length ≤ 9223372036854775807 ∧ (la ++ lb).length ≤ 9223372036854775807) := ⟨by omega, by omega, by rw [List.length_append]; omega⟩
  have JJ : Hid (zer (more 0 la) (m : Int) ^^^ more 0 lb = more 0 (la ++ lb)) := by
    show _ = _
    rw [zer_in _ m hm20, ← hlb]
    exact join_sum la lb
  have MM : Hid (more (more 0 la) lb = more 0 (la ++ lb)) := (more_append 0 la lb).symm
  clear ha hb hT hlb hla hm20
  go_enter Tryd.func5, Tryd.ntmps5
  go_wp2_with fail
  refine Calls.mono CC.out ?_
  rintro e w1 ⟨v, rfl, hv, b1⟩
  have B1 : Hid (Below w.heap.size w w1) := B0.out.trans (b1.mono B0.out.size)
  have HC : Hid (Lib.HoldsBytes w1 v (la ++ lb)) := hv
  have T1 : Hid (Tb w1) := HT.out.below B1.out HT.out.size
  have HA1 : Hid (Lib.HoldsBytes w1 _ la) := holds_below HA.out B1.out
  have HV1 : Hid (Lib.HoldsBytes w1 _ lb) := holds_below HV.out B1.out
  clear b1 hv CC B0
  go_wp2_with fail
  refine Calls.mono (sum_calls _ la w1 HA1.out T1.out H1.out.1) ?_
  rintro e w9 ⟨rfl, hw1⟩
  have hw2 := hw1.symm
  subst hw2
  go_wp2_with fail
  refine Calls.mono (sum_calls _ lb w1 HV1.out T1.out H1.out.2.1) ?_
  rintro e w9 ⟨rfl, hw1⟩
  have hw2 := hw1.symm
  subst hw2
  go_wp2_with fail
  refine Calls.mono (join_calls _ _ (more_lt 0 la (by omega)) (more_lt 0 lb (by omega)) _ _) ?_
  rintro e w2 ⟨rfl, b2⟩
  have BB : Hid (Below w1.heap.size w1 w2) := b2
  have B2 : Hid (Below w.heap.size w w2) := below_step B1.out b2
  rw [JJ.out]
  have T2 : Hid (Tb w2) := HT.out.below B2.out HT.out.size
  have HC2 : Hid (Lib.HoldsBytes w2 v (la ++ lb)) := holds_below HC.out BB.out
  have HA2 : Hid (Lib.HoldsBytes w2 _ la) := holds_below HA.out B2.out
  have HV2 : Hid (Lib.HoldsBytes w2 _ lb) := holds_below HV.out B2.out
  clear b2 BB HC HA1 HV1 T1 B1
  go_wp2_with fail
  refine Calls.mono (sum_calls _ (la ++ lb) w2 HC2.out T2.out H1.out.2.2) ?_
  rintro e w9 ⟨rfl, hw1⟩
  have hw2 := hw1.symm
  subst hw2
  go_wp2_with fail
  refine Calls.mono (sum_calls _ la w2 HA2.out T2.out H1.out.1) ?_
  rintro e w9 ⟨rfl, hw1⟩
  have hw2 := hw1.symm
  subst hw2
  go_wp2_with fail
  refine Calls.mono (more_calls _ (more_lt 0 la (by omega)) _ lb w2 HV2.out T2.out H1.out.2.1) ?_
  rintro e w9 ⟨rfl, hw1⟩
  have hw2 := hw1.symm
  subst hw2
  rw [MM.out]
  go_wp2_with fail
  refine Calls.mono (sum_calls _ (la ++ lb) w2 HC2.out T2.out H1.out.2.2) ?_
  rintro e w9 ⟨rfl, hw1⟩
  have hw2 := hw1.symm
  subst hw2
  go_wp2_with fail
  refine Calls.mono (awake_calls _ T2.out) ?_
  rintro e w7 ⟨rfl, b⟩
  have B7 : Hid (Below w.heap.size w w7) := below_step B2.out b
  clear b B2
  go_wp2
  go_ret
  exact ⟨rfl, B7.out⟩
theorem holds_take {w : World} {p : Option Addr} {len cap : Nat} {l : List UInt8} (h : Lib.HoldsBytes w (.slice p len cap) l) (m : Nat) (hm : m ≤ len) : Lib.HoldsBytes w (.slice p m cap) (l.take m) ∧ (l.take m).length = m := by
  obtain ⟨p', c', e, h1, h2⟩ := h
  cases e
  have hl : (l.take m).length = m := by rw [List.length_take]; omega
  refine ⟨⟨p, cap, by rw [hl], fun hp => by rw [h1 hp]; simp, fun a ha i x hx => ?_⟩, hl⟩
  have hi : i < (l.take m).length := (List.getElem?_eq_some_iff.1 hx).1
  rw [hl] at hi
  rw [List.getElem?_take_of_lt hi] at hx
  exact h2 a ha i x hx
end Go.Proofs.YtlcceogjoghdoaaDoor
