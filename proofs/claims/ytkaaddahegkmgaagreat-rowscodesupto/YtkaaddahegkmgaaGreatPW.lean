/- The contracts of the writers of pack: number, Num, Int, Bits, Text, Flag: the bytes, in new memory. -/
import Derived.Test.YtkaaddahegkmgaaGreatPL
import Derived.Test.YtkaaddahegkmgaaGreatPJ
namespace Go.Proofs.YtkaaddahegkmgaaGreat
open Go.ChangeShapes Go.WideShapes Go.ChangeAt Go.RowKit
/-- What a call that makes bytes leaves: they lie in new memory, with no room behind them; all that was there is as it was. -/
def NB (w : World) (l : List UInt8) (e : Ending) (w' : World) : Prop :=
  ∃ g, w.heap.size ≤ g ∧ e = .returned (.slice (some ⟨g, 0, none⟩) l.length l.length) ∧ Lib.HoldsBytes w' (.slice (some ⟨g, 0, none⟩) l.length l.length) l ∧ Below w.heap.size w w'
theorem holds_below {w w' : World} {v : Value} {l : List UInt8} (h : Lib.HoldsBytes w v l) (hb : Below w.heap.size w w') : Lib.HoldsBytes w' v l := by
  obtain ⟨p, cap, rfl, h1, h2⟩ := h
  exact ⟨p, cap, rfl, h1, fun a ha i x hx => Lib.Below.cellOf hb (h2 a ha i x hx) (Nat.le_refl _)⟩
theorem holds_buf {w w' : World} {g : Nat} {l : List UInt8} {T : Nat} (h : Lib.Buf w w' g T l) : Lib.HoldsBytes w' (.slice (some ⟨g, 0, none⟩) l.length l.length) l :=
  ⟨some ⟨g, 0, none⟩, l.length, rfl, (fun h => by cases h), fun a ha i x hx => by cases ha; rw [add_plain, Nat.zero_add]; exact h.holds i x hx⟩
theorem nb_buf {w w' : World} {l : List UInt8} {T : Nat} (hT : l.length = T) (h : Lib.Buf w w' w.heap.size T l) : NB w l (.returned (.slice (some ⟨w.heap.size, 0, none⟩) T T)) w' := by
  subst hT
  exact ⟨_, Nat.le_refl _, rfl, holds_buf h, h.below⟩
theorem nb_step {w w0 w' : World} {l : List UInt8} {e : Ending} (h0 : Below w.heap.size w w0) (h : NB w0 l e w') : NB w l e w' := by
  obtain ⟨g, h1, h2, h3, h4⟩ := h
  exact ⟨g, Nat.le_trans h0.size h1, h2, h3, h0.trans (h4.mono h0.size)⟩
theorem holds_bval (w : World) (l : List UInt8) : Lib.HoldsBytes (w.alloc (.cells (bval l).toArray 5)) (.slice (some ⟨w.heap.size, 0, none⟩) l.length l.length) l := by
  refine ⟨_, _, rfl, (fun h => by cases h), ?_⟩
  intro a ha i x hx
  cases ha
  rw [add_plain, Nat.zero_add]
  simp [bval, hx]
theorem holds_at {w : World} {h g n c : Nat} {l : List UInt8} (hg : h = g) (hh : Lib.HoldsBytes w (.slice (some ⟨h, 0, none⟩) n c) l) : Lib.HoldsBytes w (.slice (some ⟨g, 0, none⟩) n c) l := by subst hg; exact hh
theorem below_alloc (w : World) (o : Obj) : Below w.heap.size w (w.alloc o) := (Below.refl _ _).alloc (Nat.le_refl _) o
theorem nb_bval (w : World) (l : List UInt8) : NB w l (.returned (.slice (some ⟨w.heap.size, 0, none⟩) l.length l.length)) (w.alloc (.cells (bval l).toArray 5)) :=
  ⟨_, Nat.le_refl _, rfl, holds_bval w l, below_alloc w _⟩
theorem parts_two (w : World) (v0 v1 : Value) (l0 l1 : List UInt8) (h0 : Lib.HoldsBytes w v0 l0) (h1 : Lib.HoldsBytes w v1 l1) :
    Lib.PartsAt (w.alloc (.cells #[v0, v1] 26)) ⟨w.heap.size, 0, none⟩ [v0, v1] [l0, l1] := by
  refine ⟨rfl, ?_, ?_⟩
  · intro i v hv
    rw [add_plain, Nat.zero_add]
    match i, hv with
    | 0, hv => simp at hv; subst hv; simp
    | 1, hv => simp at hv; subst hv; simp
    | i + 2, hv => simp at hv
  · intro i v l hv hl
    match i, hv, hl with
    | 0, hv, hl => simp at hv hl; subst hv hl; exact holds_below h0 (below_alloc w _)
    | 1, hv, hl => simp at hv hl; subst hv hl; exact holds_below h1 (below_alloc w _)
    | i + 2, hv, hl => simp at hv
/-- join of two parts. -/
theorem join_two (w : World) (g : Nat) (hg : w.heap.size = g) (v0 v1 : Value) (l0 l1 : List UInt8) (h0 : Lib.HoldsBytes w v0 l0) (h1 : Lib.HoldsBytes w v1 l1) (hlen : l0.length + l1.length ≤ 281474976710656) :
    Calls Tryz.prog 39 #[.slice (some ⟨g, 0, none⟩) 2 2] (w.alloc (.cells #[v0, v1] 26)) (NB w (l0 ++ l1)) := by
  subst hg
  refine (join_calls w.heap.size 0 2 2 [v0, v1] [l0, l1] _ rfl (parts_two w v0 v1 l0 l1 h0 h1) (by omega) _ rfl (by simp [Lib.lens]; omega)).mono ?_
  rintro e w' ⟨rfl, hb⟩
  refine nb_step (w0 := w.alloc (.cells #[v0, v1] 26)) (below_alloc w _) ?_
  have e1 : [l0, l1].flatten = l0 ++ l1 := by simp
  rw [e1] at hb
  exact nb_buf (by simp [Lib.lens]) hb
/-- A number's one form. -/
def nb (n : Nat) : Nat := (bl n + 7) / 8
def enc (n : Nat) : List UInt8 := if n < 240 then [UInt8.ofNat n] else UInt8.ofNat (239 + nb n) :: be n (nb n)
theorem bl_le (n : Nat) (h : n < 9223372036854775808) : bl n ≤ 63 := by
  unfold bl
  split
  · omega
  · have := (Nat.log2_lt (by omega)).2 (show n < 2 ^ 63 by simpa using h)
    omega
theorem number_small (n : Int) (w : World) (h : n < 240) : Calls Tryz.prog 80 #[.int .i64 n] w (NB w (enc n.toNat)) := by
  have he : enc n.toNat = [UInt8.ofNat n.toNat] := by unfold enc; rw [if_pos (by omega)]
  by_cases h0 : n < 0
  · have ez : n.toNat = 0 := by omega
    rw [he, ez]
    have h1 := nb_bval w [UInt8.ofNat 0]
    have H1 : Hid (NB w [UInt8.ofNat 0] _ _) := h1
    have hmax : max n 0 = 0 := by omega
    clear h1 ez he
    go_enter Tryz.func80, Tryz.ntmps80
    go_wp2
    go_ret
    exact H1.out
  · obtain ⟨m, rfl⟩ := Int.eq_ofNat_of_zero_le (show 0 ≤ n by omega)
    rw [he, Int.toNat_natCast]
    have h1 := nb_bval w [UInt8.ofNat m]
    have ev : bval [UInt8.ofNat m] = [.int .u8 (m : Int)] := by
      simp [bval]; omega
    rw [ev] at h1
    have H1 : Hid (NB w [UInt8.ofNat m] _ _) := h1
    clear h1 he ev
    go_enter Tryz.func80, Tryz.ntmps80
    go_wp2
    go_ret
    exact H1.out
theorem nb_bounds (m : Nat) (h0 : 240 ≤ m) (h1 : m < 9223372036854775808) : 1 ≤ nb m ∧ nb m ≤ 8 := by
  have := bl_le m h1
  unfold nb
  have h2 : 1 ≤ bl m := by unfold bl; rw [if_neg (by omega)]; omega
  omega
theorem number_big (m : Nat) (w : World) (h0 : 240 ≤ m) (h1 : m < 9223372036854775808) : Calls Tryz.prog 80 #[.int .i64 (m : Int)] w (NB w (enc m)) := by
  have HE : Hid (enc m = [UInt8.ofNat (239 + nb m)] ++ be m (nb m)) := by show enc m = _; unfold enc; rw [if_neg (by omega)]; rfl
  have hb := bl_le m h1
  obtain ⟨k1, k8⟩ := nb_bounds m h0 h1
  have hnbz : ((bl m : Int) + 7) / 8 = (nb m : Nat) := by unfold nb; omega
  have H1 : Hid (m < 18446744073709551616) := by show m < 18446744073709551616; omega
  have hw : IntKind.u64.wrap (m : Int) = (m : Int) := by rw [IntKind.wrap_u64]; omega
  have d0 : decide ((m : Int) < 240) = false := decide_eq_false (by omega)
  have hmax : max (m : Int) 0 = (m : Int) := by omega
  have hv0 := holds_bval w [UInt8.ofNat (239 + nb m)]
  have ev : bval [UInt8.ofNat (239 + nb m)] = [.int .u8 (239 + (nb m : Nat) : Int)] := by
    have e : ((UInt8.ofNat (239 + nb m)).toNat : Int) = 239 + (nb m : Nat) := by rw [UInt8.toNat_ofNat']; omega
    simp only [bval, List.map_cons, List.map_nil]
    rw [e]
  rw [ev] at hv0
  have HV : Hid (Lib.HoldsBytes (w.alloc (.cells [Value.int .u8 (239 + (nb m : Nat) : Int)].toArray 5)) (.slice (some ⟨w.heap.size, 0, none⟩) 1 1) [UInt8.ofNat (239 + nb m)]) := hv0
  clear h0 h1 hv0 ev
  go_enter Tryz.func80, Tryz.ntmps80
  go_wp2_with fail
  refine (len_calls _ H1.out _).mono ?_
  rintro e w1 ⟨rfl, hw1⟩
  have hw2 := hw1.symm
  subst hw2
  go_wp2_with fail
  refine (highFirst_calls _ _ k8 _).mono ?_
  rintro e w' ⟨rfl, rfl⟩
  go_wp2_with fail
  have p1 : Lib.HoldsBytes _ _ (be m (nb m)) := holds_at (g := w.heap.size + 1) (by simp) <| holds_bval (w.alloc (.cells [Value.int .u8 (239 + (nb m : Nat) : Int)].toArray 5)) (be m (nb m))
  have p0 := holds_below HV.out (below_alloc _ (.cells (bval (be m (nb m))).toArray 5))
  rw [be_length] at p1
  refine (join_two _ (w.heap.size + 1 + 1) (by simp) _ _ _ _ p0 p1 (by rw [be_length]; simp; omega)).mono ?_
  intro e w' hN
  rw [← HE.out] at hN
  obtain ⟨g, g1, rfl, g3, g4⟩ := nb_step ((below_alloc w _).alloc (by simp) _) hN
  go_wp2
  go_ret
  exact ⟨g, g1, rfl, g3, g4⟩
end Go.Proofs.YtkaaddahegkmgaaGreat
