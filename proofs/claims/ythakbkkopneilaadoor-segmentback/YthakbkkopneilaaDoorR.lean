/- The contracts of Head, Snap and Record, the program's and the reference's. -/
import Derived.Test.YthakbkkopneilaaDoorN
import Derived.Test.YthakbkkopneilaaDoorQH
import Derived.Test.YthakbkkopneilaaDoorQQ
namespace Go.Proofs.YthakbkkopneilaaDoor
open Go.ChangeShapes Go.WideShapes Go.ChangeAt Go.RowKit
/-- The frame of a payload; none where that is too long. -/
def sealR (k : UInt8) (l : List UInt8) : List UInt8 := if l.length ≤ 1048576 then sealL k l else []
theorem seal_any (k : Int) (v : Value) (l : List UInt8) (w : World) (hv : Hb w v l) (ht : Tb w) (hl : l.length ≤ 140737488355328) : Calls Tryd.prog 26 #[.int .i64 k, v] w (NB w (sealR (kb k) l)) := by
  unfold sealR
  by_cases h : l.length ≤ 1048576
  · rw [if_pos h]; exact seal_calls k v l w hv ht h
  · rw [if_neg h]
    refine (seal_long k v l w hv (by omega) (by omega)).mono ?_
    rintro e w' ⟨rfl, rfl⟩
    exact ⟨_, rfl, Own.nil _ _, Below.refl _ _⟩
theorem rseal_any (k : Int) (v : Value) (l : List UInt8) (w : World) (hv : Hb w v l) : Calls Tryd.prog 28 #[.int .i64 k, v] w (NB w (sealR (kb k) l)) := by
  unfold sealR
  by_cases h : l.length ≤ 1048576
  · rw [if_pos h]; exact rseal_calls k v l w hv h
  · rw [if_neg h]
    refine (rseal_long k v l w hv (by omega)).mono ?_
    rintro e w' ⟨rfl, rfl⟩
    exact ⟨_, rfl, Own.nil _ _, Below.refl _ _⟩
theorem kb2 : kb 2 = 2 := by decide
theorem kb3 : kb 3 = 3 := by decide
theorem kb1 : kb 1 = 1 := by decide
set_option maxHeartbeats 2000000 in
theorem snap_calls (v : Value) (l : List UInt8) (w : World) (hv : Hb w v l) (ht : Tb w) (hl : l.length ≤ 140737488355328) : Calls Tryd.prog 10 #[v] w (NB w (sealR 2 l)) := by
  have C : Hid (Calls Tryd.prog 26 #[.int .i64 2, v] w (NB w (sealR 2 l))) := by have := seal_any 2 v l w hv ht hl; rwa [kb2] at this
  obtain ⟨p, c, rfl, _, _⟩ := hv
  clear ht hl
  go_enter Tryd.func10, Tryd.ntmps10
  go_wp2_with fail
  refine C.out.mono ?_
  rintro e w1 ⟨u, rfl, ho, hb⟩
  have O : Hid (Own w.heap.size w1 u (sealR 2 l)) := ho
  have B : Hid (Below w.heap.size w w1) := hb
  clear ho hb
  go_wp2_with fail
  go_ret
  exact ⟨_, rfl, O.out, B.out⟩
set_option maxHeartbeats 2000000 in
theorem rsnap_calls (v : Value) (l : List UInt8) (w : World) (hv : Hb w v l) : Calls Tryd.prog 11 #[v] w (NB w (sealR 2 l)) := by
  have C : Hid (Calls Tryd.prog 28 #[.int .i64 2, v] w (NB w (sealR 2 l))) := by have := rseal_any 2 v l w hv; rwa [kb2] at this
  obtain ⟨p, c, rfl, _, _⟩ := hv
  go_enter Tryd.func11, Tryd.ntmps11
  go_wp2_with fail
  refine C.out.mono ?_
  rintro e w1 ⟨u, rfl, ho, hb⟩
  have O : Hid (Own w.heap.size w1 u (sealR 2 l)) := ho
  have B : Hid (Below w.heap.size w w1) := hb
  clear ho hb
  go_wp2_with fail
  go_ret
  exact ⟨_, rfl, O.out, B.out⟩
set_option maxHeartbeats 2000000 in
theorem record_calls (v : Value) (l : List UInt8) (w : World) (hv : Hb w v l) (ht : Tb w) (hl : l.length ≤ 140737488355328) : Calls Tryd.prog 12 #[v] w (NB w (sealR 3 l)) := by
  have C : Hid (Calls Tryd.prog 26 #[.int .i64 3, v] w (NB w (sealR 3 l))) := by have := seal_any 3 v l w hv ht hl; rwa [kb3] at this
  obtain ⟨p, c, rfl, _, _⟩ := hv
  clear ht hl
  go_enter Tryd.func12, Tryd.ntmps12
  go_wp2_with fail
  refine C.out.mono ?_
  rintro e w1 ⟨u, rfl, ho, hb⟩
  have O : Hid (Own w.heap.size w1 u (sealR 3 l)) := ho
  have B : Hid (Below w.heap.size w w1) := hb
  clear ho hb
  go_wp2_with fail
  go_ret
  exact ⟨_, rfl, O.out, B.out⟩
set_option maxHeartbeats 2000000 in
theorem rrecord_calls (v : Value) (l : List UInt8) (w : World) (hv : Hb w v l) : Calls Tryd.prog 13 #[v] w (NB w (sealR 3 l)) := by
  have C : Hid (Calls Tryd.prog 28 #[.int .i64 3, v] w (NB w (sealR 3 l))) := by have := rseal_any 3 v l w hv; rwa [kb3] at this
  obtain ⟨p, c, rfl, _, _⟩ := hv
  go_enter Tryd.func13, Tryd.ntmps13
  go_wp2_with fail
  refine C.out.mono ?_
  rintro e w1 ⟨u, rfl, ho, hb⟩
  have O : Hid (Own w.heap.size w1 u (sealR 3 l)) := ho
  have B : Hid (Below w.heap.size w w1) := hb
  clear ho hb
  go_wp2_with fail
  go_ret
  exact ⟨_, rfl, O.out, B.out⟩
/-- A head's payload. -/
def headP (n f : Int) : List UInt8 := PK.enc n.toNat ++ PK.enc f.toNat
theorem headP_length (n f : Int) (hn : n < 9223372036854775808) (hf : f < 9223372036854775808) : (headP n f).length ≤ 18 := by
  have a := PK.enc_length n.toNat (by omega)
  have b := PK.enc_length f.toNat (by omega)
  simp [headP]
  omega
/-- A head. -/
def headL (n f : Int) : List UInt8 := sealL 1 (headP n f)
theorem pk_hb {w w' : World} {l : List UInt8} {e : Ending} (h : PK.NB w l e w') : ∃ v, e = .returned v ∧ Hb w' v l ∧ Below w.heap.size w w' := by
  obtain ⟨g, _, he, hh, hb⟩ := h
  exact ⟨_, he, ⟨_, _, rfl, Nat.le_refl _, hh⟩, hb⟩
theorem rb_hb {w w' : World} {l : List UInt8} {e : Ending} (h : PK.RB w l e w') : ∃ v, e = .returned v ∧ Hb w' v l ∧ Below w.heap.size w w' := by
  obtain ⟨v, he, ho, hb⟩ := h
  exact ⟨v, he, Own.hb ho, hb⟩
theorem refNum_any (v : Value) (l : List UInt8) (n : Int) (hn : n < 9223372036854775808) (w : World) (hv : Lib.HoldsBytes w v l) (hl : l.length ≤ 1000) : Calls Tryd.prog 29 #[v, .int .i64 n] w (PK.RB w (l ++ PK.enc n.toNat)) := by
  by_cases h : n < 240
  · exact PK.refNum_small v l n.toNat n h rfl w hv (by omega)
  · have := PK.refNum_big v l n.toNat (by omega) (by omega) w hv (by omega)
    rwa [show ((n.toNat : Nat) : Int) = n by omega] at this
end Go.Proofs.YthakbkkopneilaaDoor
