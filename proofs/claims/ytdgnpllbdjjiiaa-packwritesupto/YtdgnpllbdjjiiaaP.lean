/- The contracts of the reference's Text, of its writers together, and of bytes.Clone. Condition: at most 2^46 bytes. -/
import Derived.Test.YtdgnpllbdjjiiaaQ
import Derived.Lib.AppendStr
import Derived.Shelf.Bytes.SlClone
namespace Go.Proofs.Ytdgnpllbdjjiiaa
open Go.ChangeShapes Go.WideShapes Go.ChangeAt Go.RowKit
theorem refNum_calls (v : Value) (l : List UInt8) (n : Int) (hn : n < 9223372036854775808) (w : World) (hv : Lib.HoldsBytes w v l) (hl : l.length ≤ 70368744177663) : Calls Try.prog 11 #[v, .int .i64 n] w (RB w (l ++ enc n.toNat)) := by
  by_cases h : n < 240
  · exact refNum_small v l n.toNat n h rfl w hv (by omega)
  · obtain ⟨m, rfl⟩ := Int.eq_ofNat_of_zero_le (show 0 ≤ n by omega)
    exact refNum_big v l m (by omega) (by omega) w hv hl
theorem refFlag_calls (v : Value) (l : List UInt8) (y : Bool) (w : World) (hv : Lib.HoldsBytes w v l) (hl : l.length ≤ 70368744177664) :
    Calls Try.prog 19 #[v, .bool y] w (RB w (l ++ [fb y])) := by
  cases y
  · exact refFlag_false v l w hv hl
  · exact refFlag_true v l w hv hl
theorem own_holds {B : Nat} {w : World} {v : Value} {l : List UInt8} (h : Own B w v l) : Lib.HoldsBytes w v l := by
  have h0 : w.ownsRow B 5 1 v l.length (bval l) := h
  rcases h0.2 with ⟨rfl, hn⟩ | ⟨g, cap, cur, rfl, _⟩
  · have : l = [] := List.eq_nil_of_length_eq_zero hn
    subst this
    exact holds_nil w
  · refine ⟨_, _, rfl, (fun h => by cases h), ?_⟩
    intro a ha i x hx
    cases ha
    have hi : i < l.length := (List.getElem?_eq_some_iff.1 hx).1
    rw [add_plain, Nat.zero_add, h0.cellAt i (by omega)]
    simp [bval, hx]
theorem refText_calls (v : Value) (l : List UInt8) (s : ByteArray) (w : World) (hv : Lib.HoldsBytes w v l) (hl : l.length ≤ 70368744177663) (hs : s.size ≤ 35184372088832) :
    Calls Try.prog 17 #[v, .string s] w (RB w (l ++ enc s.size ++ s.data.toList)) := by
  obtain ⟨i0, hi, hz0, hz1, hz2⟩ := info_parts Try.info5
  obtain ⟨L, hL⟩ : ∃ L, L = l ++ enc s.size ++ s.data.toList := ⟨_, rfl⟩
  have HL : Hid (L = l ++ enc s.size ++ s.data.toList) := hL
  rw [← hL]
  have NC := refNum_calls v l (s.size : Int) (by omega) w hv hl
  rw [Int.toNat_natCast] at NC
  have HC : Hid (Calls Try.prog 11 #[v, .int .i64 (s.size : Int)] w (RB w (l ++ enc s.size))) := NC
  have he := enc_length s.size (by omega)
  have hlen : (l ++ enc s.size).length ≤ 70368744177672 := by rw [List.length_append]; omega
  generalize l ++ enc s.size = l2 at HC HL hlen
  obtain ⟨p, cap, rfl, q1, q2⟩ := hv
  clear q1 q2 hL NC he hl
  go_enter Try.func17, Try.ntmps17
  go_wp2_with fail
  refine HC.out.mono ?_
  rintro e w1 ⟨v1, rfl, ho, hb⟩
  have HO : Hid (Own w.heap.size w1 v1 l2) := ho
  have HB : Hid (Below w.heap.size w w1) := hb
  clear ho hb
  go_wp2_with (at_builtin; refine Lib.wpList_append_own_string _ rfl _ _ 22 9 rfl w.heap.size 5 i0 Try.underlying22 Try.underlying9 hi hz0 hz1 hz2 _ _ _ rfl HO.out s rfl ?qc4 ?qc5 ?qc6 ?_)
  case qc4 => unfold maxLen; omega
  case qc5 => omega
  case qc6 => exact HB.out.size
  intro v2 w2 hown hgrow hnil
  have HW : Hid (Own w.heap.size w2 v2 (l2 ++ s.data.toList)) := by
    show w2.ownsRow w.heap.size 5 1 v2 _ _
    have e1 : (l2 ++ s.data.toList).length = l2.length + s.size := by rw [List.length_append, str_len]
    have e2 : bval (l2 ++ s.data.toList) = bval l2 ++ Lib.strCells s := by simp [bval, Lib.strCells]
    rw [e1, e2]
    exact hown
  have HBW : Hid (Below w.heap.size w w2) := by
    refine HB.out.grown hgrow HB.out.size ?_
    intro kk hkk
    exact (World.ownsRow.lt HO.out kk hkk).1
  clear hown hgrow hnil
  go_wp2
  go_ret
  exact ⟨_, rfl, by rw [HL.out]; exact HW.out, HBW.out⟩
theorem clone_calls (v : Value) (l : List UInt8) (w : World) (hv : Lib.HoldsBytes w v l) (hl : l.length ≤ 70368744177664) :
    Calls Try.prog 8 #[v] w fun e w' => ∃ v', e = .returned v' ∧ Lib.HoldsBytes w' v' l ∧ Below w.heap.size w w' := by
  obtain ⟨p, cap, rfl, h1, h2⟩ := hv
  obtain ⟨i0, hi, hz0, hz1, hz2⟩ := info_parts Try.info5
  have q22 : ∀ (w : World) (a : Option Addr) (n c n' c' : Nat), (binOp .eql 22 (.slice a n c) (.slice none n' c')).run Try.prog w = .ok (.bool a.isNone) w := fun w a n c n' c' => Lib.run_eql_slice_nil w _ _ a n c n' c' Try.underlying22
  cases p with
  | none =>
    have hn : l = [] := h1 rfl
    subst hn
    clear h1 h2 hl
    go_enter Try.func8, Try.ntmps8
    go_wp2
    go_ret
    exact ⟨_, rfl, holds_nil w, Below.refl _ _⟩
  | some a =>
    have HC : Hid (∀ (i : Nat) x, l[i]? = some x → w.cell? (a.add i) = some (.int .u8 (x.toNat : Int))) := h2 a rfl
    clear h1 h2
    go_enter Try.func8, Try.ntmps8
    go_wp2_with (at_builtin; refine wpList_append_own _ rfl _ _ 22 rfl w.heap.size 5 i0 (.int .u8 0) 1 1 Try.underlying22 hi hz0 hz1 hz2 rfl (by decide) _ _ _ rfl (World.ownsRow_made w #[] 0 (Nat.le_refl _) (Nat.zero_le _) rfl) a l.length cap (bval l) rfl ?qc1 ?qc2 ?qc3 ?qc4 ?qc5 ?qc6 ?_)
    case qc1 => simp [bval]
    case qc2 =>
      intro j u hj
      unfold bval at hj
      rw [List.getElem?_map] at hj
      obtain ⟨x, hx, rfl⟩ := Option.map_eq_some_iff.1 hj
      exact Lib.cell?_alloc_some _ (HC.out j x hx)
    case qc3 => intro u hu; obtain ⟨x, _, rfl⟩ := List.mem_map.1 hu; rfl
    case qc4 => unfold maxLen; omega
    case qc5 => omega
    case qc6 => simp
    intro v' w1 hown hgrow hnil
    have ho : Own w.heap.size w1 v' l := by simpa [Own] using hown
    go_wp2
    go_ret
    refine ⟨v', rfl, own_holds ho, ?_⟩
    exact ((Below.refl _ w).alloc (Nat.le_refl _) _).grown hgrow (by simp) (by intro k hk; simp [Value.ownBlock] at hk; omega)
end Go.Proofs.Ytdgnpllbdjjiiaa
