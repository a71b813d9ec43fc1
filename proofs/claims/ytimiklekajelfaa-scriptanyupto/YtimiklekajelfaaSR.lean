/- The contracts of bytes.Clone and of Texts of one text. -/
import Derived.Test.YtimiklekajelfaaSJ
import Derived.Laws.Rows
namespace Go.Proofs.Ytimiklekajelfaa
open Go.ChangeShapes Go.WideShapes Go.ChangeAt Go.RowKit
set_option maxHeartbeats 1000000 in
theorem clone_calls (v : Value) (l : List UInt8) (w : World) (hv : Lib.HoldsBytes w v l) (hl : l.length ≤ 70368744177664) :
    Calls Try.prog 39 #[v] w fun e w' => ∃ v', e = .returned v' ∧ Lib.HoldsBytes w' v' l ∧ Below w.heap.size w w' := by
  obtain ⟨p, cap, rfl, h1, h2⟩ := hv
  obtain ⟨i0, hi, hz0, hz1, hz2⟩ := info_parts info5b
  have q22 : ∀ (w : World) (a : Option Addr) (n c n' c' : Nat), (binOp .eql 23 (.slice a n c) (.slice none n' c')).run Try.prog w = .ok (.bool a.isNone) w := fun w a n c n' c' => Lib.run_eql_slice_nil w _ _ a n c n' c' Try.underlying23
  cases p with
  | none =>
    have hn : l = [] := h1 rfl
    subst hn
    clear h1 h2 hl
    go_enter Try.func39, Try.ntmps39
    go_wp2
    go_ret
    exact ⟨_, rfl, holds_nil w, Below.refl _ _⟩
  | some a =>
    have HC : Hid (∀ (i : Nat) x, l[i]? = some x → w.cell? (a.add i) = some (.int .u8 (x.toNat : Int))) := h2 a rfl
    clear h1 h2
    go_enter Try.func39, Try.ntmps39
    go_wp2_with (at_builtin; refine wpList_append_own _ rfl _ _ 23 rfl w.heap.size 5 i0 (.int .u8 0) 1 1 Try.underlying23 hi hz0 hz1 hz2 rfl (by decide) _ _ _ rfl (World.ownsRow_made w #[] 0 (Nat.le_refl _) (Nat.zero_le _) rfl) a l.length cap (bval l) rfl ?qc1 ?qc2 ?qc3 ?qc4 ?qc5 ?qc6 ?_)
    case qc1 => simp [bval]
    case qc2 =>
      intro j u hj
      unfold bval at hj
      rw [List.getElem?_map] at hj
      obtain ⟨x, hx, rfl⟩ := Option.map_eq_some_iff.1 hj
      exact Lib.cell?_alloc_some _ (HC.out j x hx)
    case qc3 => intro u hu; obtain ⟨x, _, rfl⟩ := List.mem_map.1 hu; rfl
    case qc4 => unfold maxLen; omega
    case qc5 => omega
    case qc6 => simp
    intro v' w1 hown hgrow hnil
    have ho : Own w.heap.size w1 v' l := by simpa [Own] using hown
    go_wp2
    go_ret
    refine ⟨v', rfl, own_holds ho, ?_⟩
    exact ((Below.refl _ w).alloc (Nat.le_refl _) _).grown hgrow (by simp) (by intro k hk; simp [Value.ownBlock] at hk; omega)
theorem info23 : (Try.prog.info? 23).map (fun i => (i.zero, i.size, i.bytes)) = some (some (.slice none 0 0), 1, 24) := by kernel_rfl
theorem u38 : Try.prog.underlying 38 = some (.slice 23) := by kernel_rfl
set_option maxHeartbeats 1000000 in
set_option maxRecDepth 100000 in
theorem texts_one (g : Nat) (v : Value) (l : List UInt8) (w : World) (hc : w.cell? ⟨g, 0, none⟩ = some v) (hv : Lib.HoldsBytes w v l) (hl : l.length ≤ 70368744177664) :
    Calls Try.prog 20 #[.slice (some ⟨g, 0, none⟩) 1 1] w fun e w' => ∃ G c v', e = .returned (.slice (some ⟨G, 0, none⟩) 1 c) ∧ w'.cell? ⟨G, 0, none⟩ = some v' ∧ Lib.HoldsBytes w' v' l ∧ Below w.heap.size w w' := by
  have HC : Hid (w.cell? ⟨g, 0, none⟩ = some v) := hc
  have HV : Hid (Lib.HoldsBytes w v l) := hv
  have HL : Hid (l.length ≤ 70368744177664) := hl
  clear hc hv hl
  go_enter Try.func20, Try.ntmps20
  go_wp2_with fail
  go_loopw [3, 5, 8] (fun u _ i wr => Hid (Below w.heap.size w wr) ∧ ((i = .int .i64 0 ∧ u = .slice none 0 0) ∨ (i = .int .i64 1 ∧ ∃ G c v', u = .slice (some ⟨G, 0, none⟩) 1 c ∧ Hid (wr.cell? ⟨G, 0, none⟩ = some v') ∧ Hid (Lib.HoldsBytes wr v' l)))) (fun _ _ i _ => 1 - (intOf i).toNat)
  case atStart => exact ⟨Below.refl _ _, .inl ⟨rfl, rfl⟩⟩
  case round =>
    obtain ⟨HB, ⟨rfl, rfl⟩ | ⟨rfl, G, c, v', rfl, HG, HV2⟩⟩ := hrel
    · have hcl := Lib.Below.cellOf HB.out HC.out (Nat.le_refl _)
      have CC : Hid (Calls Try.prog 39 #[v] wr _) := clone_calls v l wr (holds_below HV.out HB.out) HL.out
      obtain ⟨pv, nv, cv, rfl⟩ : ∃ a m c, v = .slice a m c := by obtain ⟨p, cap, rfl, q1, q2⟩ := HV.out; exact ⟨_, _, _, rfl⟩
      go_wp2_with fail
      refine CC.out.mono ?_
      rintro e w2 ⟨v2, rfl, hv2, hb2⟩
      obtain ⟨p2, n2, c2, rfl⟩ : ∃ a m c, v2 = .slice a m c := by obtain ⟨p, cap, rfl, q1, q2⟩ := hv2; exact ⟨_, _, _, rfl⟩
      obtain ⟨i0, hi, hz0, hz1, hz2⟩ := info_parts info23
      have hr := fun ty => run_append_nil (P := Try.prog) (w2.alloc (.cells #[.slice p2 n2 c2] 23)) 38 ty 23 i0 _ u38 hi hz0 ⟨w2.heap.size, 0, none⟩ 1 1 [.slice p2 n2 c2] (by rw [hz1]; rfl) (fun j z hj => by
        match j, hj with
        | 0, hj => cases hj; rw [add_plain]; simp
        | j + 1, hj => simp at hj) (by omega) (by omega) (by rw [hz2]; omega)
      have HB2 : Hid (Below w.heap.size w w2) := bel2 HB.out hb2
      have HV2 : Hid (Lib.HoldsBytes w2 (.slice p2 n2 c2) l) := hv2
      have hbf : Below w2.heap.size w2 (w2.alloc (.cells #[.slice p2 n2 c2] 23)) := bel1 w2 _
      obtain ⟨M, hM⟩ : ∃ M : Array Value, M = ([.slice p2 n2 c2] : List Value).toArray ++ Builtin.zeroCells (Value.slice none 0 0).cells (grownCap (w2.alloc (.cells #[.slice p2 n2 c2] 23)) 1 0 23 - 1) := ⟨_, rfl⟩
      have HM : Hid (M[0]? = some (.slice p2 n2 c2)) := by
        show _ = _
        rw [hM, Array.getElem?_append_left (by simp)]
        rfl
      rw [← hM] at hr
      have hb3 : Below w2.heap.size w2 ((w2.alloc (.cells #[.slice p2 n2 c2] 23)).drew.alloc (.cells M 23)) := (hbf.drew).alloc hbf.size _
      have hg3 : ((w2.alloc (.cells #[.slice p2 n2 c2] 23)).drew.alloc (.cells M 23)).cell? ⟨(w2.alloc (.cells #[.slice p2 n2 c2] 23)).heap.size, 0, none⟩ = some (.slice p2 n2 c2) := by
        have := cell_of_row ((w2.alloc (.cells #[.slice p2 n2 c2] 23)).drew.alloc (.cells M 23)) (w2.alloc (.cells #[.slice p2 n2 c2] 23)).heap.size 0 M 23 (0, 0) (heap_alloc_last (w2.alloc (.cells #[.slice p2 n2 c2] 23)).drew _)
        rw [this]
        exact HM.out
      generalize grownCap (w2.alloc (.cells #[.slice p2 n2 c2] 23)) 1 0 23 = C at hr
      generalize (w2.alloc (.cells #[.slice p2 n2 c2] 23)).drew.alloc (.cells M 23) = w3 at hr hb3 hg3
      have HB3 : Hid (Below w.heap.size w w3) := bel2 HB2.out hb3
      have HV3 : Hid (Lib.HoldsBytes w3 (.slice p2 n2 c2) l) := holds_below HV2.out hb3
      have HG3 : Hid (w3.cell? ⟨w2.heap.size + 1, 0, none⟩ = some (.slice p2 n2 c2)) := by have h := hg3; rw [World.size_alloc] at h; exact h
      rw [World.size_alloc] at hr
      clear hv2 hb2 CC hcl hM hg3 hb3 hbf
      go_wp2_with (at_builtin; refine Lib.wpList_append_run _ rfl _ _ 38 38 rfl _ _ rfl rfl _ _ (hr _) ?_)
      exact ⟨⟨HB3, .inr ⟨rfl, _, _, _, rfl, HG3, HV3⟩⟩, by decide⟩
    · go_wp2_with fail
      go_ret
      exact ⟨G, c, v', rfl, HG.out, HV2.out, HB.out⟩
end Go.Proofs.Ytimiklekajelfaa
