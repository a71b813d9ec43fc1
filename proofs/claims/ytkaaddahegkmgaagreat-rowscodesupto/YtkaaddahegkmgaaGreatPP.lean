/- The contracts of the reference's Text, of its writers together, and of bytes.Clone. Condition: at most 2^46 bytes. -/
import Derived.Test.YtkaaddahegkmgaaGreatPQ
import Derived.Lib.AppendStr
import Derived.Shelf.Bytes.SlClone
namespace Go.Proofs.YtkaaddahegkmgaaGreat
open Go.ChangeShapes Go.WideShapes Go.ChangeAt Go.RowKit
theorem refNum_calls (v : Value) (l : List UInt8) (n : Int) (hn : n < 9223372036854775808) (w : World) (hv : Lib.HoldsBytes w v l) (hl : l.length ≤ 70368744177663) : Calls Tryz.prog 29 #[v, .int .i64 n] w (RB w (l ++ enc n.toNat)) := by
  by_cases h : n < 240
  · exact refNum_small v l n.toNat n h rfl w hv (by omega)
  · obtain ⟨m, rfl⟩ := Int.eq_ofNat_of_zero_le (show 0 ≤ n by omega)
    exact refNum_big v l m (by omega) (by omega) w hv hl
theorem own_holds {B : Nat} {w : World} {v : Value} {l : List UInt8} (h : Own B w v l) : Lib.HoldsBytes w v l := by
  have h0 : w.ownsRow B 5 1 v l.length (bval l) := h
  rcases h0.2 with ⟨rfl, hn⟩ | ⟨g, cap, cur, rfl, _⟩
  · have : l = [] := List.eq_nil_of_length_eq_zero hn
    subst this
    exact holds_nil w
  · refine ⟨_, _, rfl, (fun h => by cases h), ?_⟩
    intro a ha i x hx
    cases ha
    have hi : i < l.length := (List.getElem?_eq_some_iff.1 hx).1
    rw [add_plain, Nat.zero_add, h0.cellAt i (by omega)]
    simp [bval, hx]
theorem refText_calls (v : Value) (l : List UInt8) (s : ByteArray) (w : World) (hv : Lib.HoldsBytes w v l) (hl : l.length ≤ 70368744177663) (hs : s.size ≤ 35184372088832) :
    Calls Tryz.prog 30 #[v, .string s] w (RB w (l ++ enc s.size ++ s.data.toList)) := by
  obtain ⟨i0, hi, hz0, hz1, hz2⟩ := info_parts Tryz.info5
  obtain ⟨L, hL⟩ : ∃ L, L = l ++ enc s.size ++ s.data.toList := ⟨_, rfl⟩
  have HL : Hid (L = l ++ enc s.size ++ s.data.toList) := hL
  rw [← hL]
  have NC := refNum_calls v l (s.size : Int) (by omega) w hv hl
  rw [Int.toNat_natCast] at NC
  have HC : Hid (Calls Tryz.prog 29 #[v, .int .i64 (s.size : Int)] w (RB w (l ++ enc s.size))) := NC
  have he := enc_length s.size (by omega)
  have hlen : (l ++ enc s.size).length ≤ 70368744177672 := by rw [List.length_append]; omega
  generalize l ++ enc s.size = l2 at HC HL hlen
  obtain ⟨p, cap, rfl, q1, q2⟩ := hv
  clear q1 q2 hL NC he hl
  go_enter Tryz.func30, Tryz.ntmps30
  go_wp2_with fail
  refine HC.out.mono ?_
  rintro e w1 ⟨v1, rfl, ho, hb⟩
  have HO : Hid (Own w.heap.size w1 v1 l2) := ho
  have HB : Hid (Below w.heap.size w w1) := hb
  clear ho hb
  go_wp2_with (at_builtin; refine Lib.wpList_append_own_string _ rfl _ _ 26 9 rfl w.heap.size 5 i0 Tryz.underlying26 Tryz.underlying9 hi hz0 hz1 hz2 _ _ _ rfl HO.out s rfl ?qc4 ?qc5 ?qc6 ?_)
  case qc4 => unfold maxLen; omega
  case qc5 => omega
  case qc6 => exact HB.out.size
  intro v2 w2 hown hgrow hnil
  have HW : Hid (Own w.heap.size w2 v2 (l2 ++ s.data.toList)) := by
    show w2.ownsRow w.heap.size 5 1 v2 _ _
    have e1 : (l2 ++ s.data.toList).length = l2.length + s.size := by rw [List.length_append, str_len]
    have e2 : bval (l2 ++ s.data.toList) = bval l2 ++ Lib.strCells s := by simp [bval, Lib.strCells]
    rw [e1, e2]
    exact hown
  have HBW : Hid (Below w.heap.size w w2) := by
    refine HB.out.grown hgrow HB.out.size ?_
    intro kk hkk
    exact (World.ownsRow.lt HO.out kk hkk).1
  clear hown hgrow hnil
  go_wp2
  go_ret
  exact ⟨_, rfl, by rw [HL.out]; exact HW.out, HBW.out⟩
end Go.Proofs.YtkaaddahegkmgaaGreat
