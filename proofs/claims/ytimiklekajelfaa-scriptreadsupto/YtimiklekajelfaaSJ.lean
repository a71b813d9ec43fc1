/- The contract of Put. -/
import Derived.Test.YtimiklekajelfaaSD
import Derived.Test.YtimiklekajelfaaPP
namespace Go.Proofs.Ytimiklekajelfaa
open Go.ChangeShapes Go.WideShapes Go.ChangeAt Go.RowKit
theorem u23 : Try.prog.underlying 23 = some (.slice 5) := by kernel_rfl
theorem info5b : (Try.prog.info? 5).map (fun i => (i.zero, i.size, i.bytes)) = some (some (.int .u8 0), 1, 1) := by kernel_rfl
theorem Own.keep {lo : Nat} {w w' : World} {u : Value} {l : List UInt8} (h : Own lo w u l) (hk : ∀ B, u.ownBlock = some B → w'.heap[B]? = w.heap[B]?) : Own lo w' u l := row_kept h hk
theorem Own.blw {lo : Nat} {w w' : World} {u : Value} {l : List UInt8} (h : Own lo w u l) (hb : Below w.heap.size w w') : Own lo w' u l := h.keep fun B hB => hb.block B (World.ownsRow.lt h B hB).2
theorem Own.shp {lo : Nat} {w : World} {u : Value} {l : List UInt8} (h : Own lo w u l) : ∃ a c, u = .slice a l.length c := by
  obtain ⟨_, ⟨rfl, h2⟩ | ⟨g, cap, cur, rfl, _⟩⟩ := h
  · exact ⟨none, 0, by rw [h2]⟩
  · exact ⟨_, _, rfl⟩
/-- append of bytes to bytes of the call's own. -/
theorem own_app {lo g c : Nat} {W : World} {u : Value} {acc l : List UInt8} (h : Own lo W u acc) (hx : Lib.HoldsBytes W (.slice (some ⟨g, 0, none⟩) l.length c) l) (hn : acc.length + l.length ≤ 70368744177664) (hB : lo ≤ W.heap.size) :
    ∃ u' w', (∀ ty, (Builtin.append_ #[23, 23] ty #[u, .slice (some ⟨g, 0, none⟩) l.length c]).run Try.prog W = .ok u' w') ∧ Own lo w' u' (acc ++ l) ∧ Below lo W w' := by
  obtain ⟨i0, hi, hz0, hz1, hz2⟩ := info_parts info5b
  obtain ⟨p, cap, e, _, hc⟩ := hx
  cases e
  have hnews : ∀ j z, (bval l)[j]? = some z → W.cell? ((⟨g, 0, none⟩ : Addr).add j) = some z := fun j z hj => by
    rw [bval, List.getElem?_map] at hj
    obtain ⟨y, hy, rfl⟩ := Option.map_eq_some_iff.1 hj
    exact hc _ rfl j y hy
  have key : ∀ ty, ∃ v' w', (Builtin.append_ #[23, 23] ty #[u, .slice (some ⟨g, 0, none⟩) l.length c]).run Try.prog W = .ok v' w' ∧ w'.ownsRow lo 5 1 v' (acc.length + l.length) (bval acc ++ bval l) ∧ W.grownBy w' u.ownBlock ∧ _ := fun ty =>
    run_append_own (P := Try.prog) (w := W) lo 23 ty 5 i0 _ 1 1 u23 hi hz0 hz1 hz2 rfl (by decide) u acc.length (bval acc) h ⟨g, 0, none⟩ l.length c (bval l) (by rw [bval_length, Nat.mul_one]) hnews (fun z hz => by obtain ⟨y, _, rfl⟩ := List.mem_map.1 hz; rfl) (by unfold maxLen; omega) (by omega) hB
  obtain ⟨u', w', hr, hown', hgrow, _⟩ := key 23
  refine ⟨u', w', fun ty => hr, ?_, (Below.refl _ W).grown hgrow hB (fun k hk2 => (World.ownsRow.lt h k hk2).1)⟩
  unfold Own
  have e : bval (acc ++ l) = bval acc ++ bval l := by simp [bval]
  rw [List.length_append, e]
  exact hown'
/-- A step in a script. -/
def txt (x : Sp) : List UInt8 := enc (putS x).length ++ putS x
def putAll (xs : List Sp) : List UInt8 := (xs.filter mayB).flatMap txt
theorem putAll_more (xs : List Sp) (x : Sp) (h : mayB x = true) : putAll (xs ++ [x]) = putAll xs ++ txt x := by simp [putAll, h]
theorem putAll_skip (xs : List Sp) (x : Sp) (h : mayB x = false) : putAll (xs ++ [x]) = putAll xs := by simp [putAll, h]
theorem putS_len {x : Sp} (wf : WfS x) (h : mayB x = true) : (putS x).length ≤ 17000 := by
  have m := may_of h
  have e1 := enc_short x.k wf.1
  have e2 := enc_short x.s wf.2.1
  have e3 := enc_short x.n wf.2.2.1
  have hb := m.b
  have hb2 := mst_le (f := fld x.k) (c := 4) (m := 16384) (by decide)
  have hk := m.l
  have hk2 := mst_le (f := fld x.k) (c := 16) (m := 64) (by decide)
  have e4 := enc_length x.b.length (by omega)
  have e5 := enc_length x.ks.length (by omega)
  have e6 := ens_len x.ks wf.2.2.2
  unfold putS putF
  split
  · simp only [List.length_append]; omega
  · split
    · simp only [List.length_append]; omega
    · split
      · simp only [List.length_append]; omega
      · split
        · simp only [List.length_append]; omega
        · omega
theorem txt_len {x : Sp} (wf : WfS x) (h : mayB x = true) : (txt x).length ≤ 17009 := by
  have h1 := putS_len wf h
  have h2 := enc_length (putS x).length (by omega)
  unfold txt
  rw [List.length_append]
  omega
theorem putAll_len : ∀ (xs : List Sp), (∀ x ∈ xs, WfS x) → (putAll xs).length ≤ 17009 * xs.length
  | [], _ => by simp [putAll]
  | x :: xs, h => by
    have ih := putAll_len xs (fun y hy => h y (List.mem_cons_of_mem _ hy))
    by_cases hx : mayB x = true
    · have h1 := txt_len (h x List.mem_cons_self) hx
      unfold putAll at ih ⊢
      rw [List.filter_cons_of_pos hx, List.flatMap_cons, List.length_append, List.length_cons]
      omega
    · unfold putAll at ih ⊢
      rw [List.filter_cons_of_neg (by simpa using hx), List.length_cons]
      omega
set_option maxHeartbeats 1000000 in
set_option maxRecDepth 100000 in
theorem putAll_calls (P : Nat → Prop) (a : Option Addr) (c N : Nat) (xs : List Sp) (hN : xs.length = N) (hc : N ≤ 2000000) (wf : ∀ x ∈ xs, WfS x) (w : World) (h : LsS P w a xs) :
    Calls Try.prog 12 #[.slice a N c] w fun e w' => ∃ v, e = .returned v ∧ Own w.heap.size w' v (putAll xs) ∧ Below w.heap.size w w' := by
  have HI : Hid (LsS P w a xs) := h
  have HN : Hid (xs.length = N) := hN
  have HC : Hid (N ≤ 2000000) := hc
  have WF : Hid (∀ x ∈ xs, WfS x) := wf
  clear h hN hc wf
  go_enter Try.func12, Try.ntmps12
  go_wp2_with fail
  go_loopw [3, 5, 8] (fun u _ i wr => ∃ j : Nat, j ≤ N ∧ i = .int .i64 (j : Int) ∧ Hid (Own w.heap.size wr u (putAll (xs.take j))) ∧ Hid (Below w.heap.size w wr)) (fun _ _ i _ => N - (intOf i).toNat)
  case atStart => exact ⟨0, Nat.zero_le _, rfl, World.ownsRow_nil _ _ _ _, Below.refl _ _⟩
  case round =>
    obtain ⟨j, hj, rfl, HO, HB⟩ := hrel
    by_cases hlt : j < N
    · have hjl : (j : Int) < (N : Int) := by omega
      obtain ⟨x, hx⟩ : ∃ x, xs[j]? = some x := ⟨_, List.getElem?_eq_getElem (by have := HN.out; omega)⟩
      obtain ⟨B, o, vb, vk, rfl, _, h5, hv⟩ := HI.out j x hx
      have HX : Hid (xs[j]? = some x) := hx
      have WX : Hid (WfS x) := WF.out x (List.mem_of_getElem? hx)
      have hbl : Below w.heap.size wr (wr.alloc (.cells (rowS vb vk x) 28)) := (bel1 wr _).mono HB.out.size
      have HV : Hid (IsV P (wr.alloc (.cells (rowS vb vk x) 28)) vb vk x) := (hv.below HB.out).below (bel1 wr _)
      have HO2 : Hid (Own w.heap.size (wr.alloc (.cells (rowS vb vk x) 28)) _ (putAll (xs.take j))) := HO.out.blw (bel1 wr _)
      have HB2 : Hid (Below w.heap.size w (wr.alloc (.cells (rowS vb vk x) 28))) := HB.out.trans hbl
      have MC : Hid (Calls Try.prog 30 #[.agg (rowS vb vk x)] (wr.alloc (.cells (rowS vb vk x) 28)) _) := mayBe_calls P x vb vk _ HV.out
      have A0 : Hid (AtS (wr.alloc (.cells (rowS vb vk x) 28)) wr.heap.size 0 vb vk x) := box_at wr _ _ _ _ _
      have HL : Hid ((putAll (xs.take j)).length ≤ 17009 * 2000000) := by
        show _ ≤ _
        have h1 := putAll_len (xs.take j) (fun y hy => WF.out y (List.mem_of_mem_take hy))
        rw [List.length_take] at h1
        have := HC.out
        omega
      have HT : Hid (xs.take (j + 1) = xs.take j ++ [x]) := by show _ = _; rw [List.take_add_one, hx]; rfl
      have HW : Hid (wrap64 ((j : Int) + 1) = ((j + 1 : Nat) : Int)) := wr1 hlt (by have := HC.out; omega)
      have h5b : AtS wr B (o + j * 5) vb vk x := At5.below h5 HB.out
      obtain ⟨pb, cb, rfl, _⟩ := hv.1.shape
      obtain ⟨pk, ck, rfl, _⟩ := hv.2.shape
      obtain ⟨au, cu, hu⟩ := HO.out.shp
      subst hu
      obtain ⟨k, s, n, b, ks⟩ := x
      unfold rowS at *
      dsimp only at *
      obtain ⟨q0, q1, q2, q3, q4⟩ := h5b
      dsimp only at q0 q1 q2 q3 q4
      clear hx h5 hv hbl hj
      go_upto_region 5 with fail
      generalize hW1 : wr.alloc (.cells #[.int .i64 k, .int .i64 s, .int .i64 n, .slice pb b.length cb, .slice pk ks.length ck] 28) = W1 at HV HO2 HB2 MC A0 ⊢
      generalize hq : wr.heap.size = q at A0 ⊢
      clear hW1 hq q0 q1 q2 q3 q4 HO HB
      obtain ⟨q0, q1, q2, q3, q4⟩ := A0.out
      dsimp only at q0 q1 q2 q3 q4
      cases hmb : mayB ⟨k, s, n, b, ks⟩ with
      | false =>
        have HS : Hid (putAll (xs.take (j + 1)) = putAll (xs.take j)) := by show _ = _; rw [HT.out, putAll_skip _ _ hmb]
        rw [hmb] at MC
        clear hmb
        go_wp2_with fail
        refine MC.out.mono ?_
        rintro e w2 ⟨rfl, hb2⟩
        have HO3 : Hid (Own w.heap.size w2 (.slice au (putAll (xs.take j)).length cu) (putAll (xs.take (j + 1)))) := by have := HO2.out.blw hb2; rw [HS.out]; exact this
        have HB3 : Hid (Below w.heap.size w w2) := HB2.out.trans (hb2.mono HB2.out.size)
        clear hb2 MC
        go_wp2_with fail
        exact ⟨⟨j + 1, hlt, by rw [HW.out], HO3, HB3⟩, meas hlt HW.out⟩
      | true =>
        have HS : Hid (putAll (xs.take (j + 1)) = putAll (xs.take j) ++ txt ⟨k, s, n, b, ks⟩) := by show _ = _; rw [HT.out, putAll_more _ _ hmb]
        have HTL : Hid ((txt ⟨k, s, n, b, ks⟩).length ≤ 17009 ∧ (putS ⟨k, s, n, b, ks⟩).length ≤ 17000) := ⟨txt_len WX.out hmb, putS_len WX.out hmb⟩
        have HM : Hid (mayB ⟨k, s, n, b, ks⟩ = true) := hmb
        rw [hmb] at MC
        clear hmb
        go_wp2_with fail
        refine MC.out.mono ?_
        rintro e w2 ⟨rfl, hb2⟩
        have HO3 : Hid (Own w.heap.size w2 (.slice au (putAll (xs.take j)).length cu) (putAll (xs.take j))) := HO2.out.blw hb2
        have HB3 : Hid (Below w.heap.size w w2) := HB2.out.trans (hb2.mono HB2.out.size)
        have PC0 := put_calls P ⟨k, s, n, b, ks⟩ (.slice pb b.length cb) (.slice pk ks.length ck) w2 (HV.out.below hb2) WX.out HM.out
        unfold rowS at PC0
        dsimp only at PC0
        have htx : txt ⟨k, s, n, b, ks⟩ = enc (putS ⟨k, s, n, b, ks⟩).length ++ putS ⟨k, s, n, b, ks⟩ := rfl
        generalize putS ⟨k, s, n, b, ks⟩ = bs at PC0 htx HTL
        have PC : Hid (Calls Try.prog 32 #[.agg #[.int .i64 k, .int .i64 s, .int .i64 n, .slice pb b.length cb, .slice pk ks.length ck]] w2 (NB w2 bs)) := PC0
        have HTX : Hid (txt ⟨k, s, n, b, ks⟩ = enc bs.length ++ bs) := htx
        have A2 := A0.out.below hb2
        clear hb2 MC PC0 htx q0 q1 q2 q3 q4
        obtain ⟨q0, q1, q2, q3, q4⟩ := A2
        dsimp only at q0 q1 q2 q3 q4
        go_upto_region 6 with fail
        go_wp2_with fail
        refine PC.out.mono ?_
        rintro e w3 ⟨g3, gl3, rfl, gh3, gb3⟩
        have hcv := conv_string w3 _ _ bs gh3
        rw [str_nums] at hcv
        have HO4 : Hid (Own w.heap.size w3 (.slice au (putAll (xs.take j)).length cu) (putAll (xs.take j))) := HO3.out.blw gb3
        have HB4 : Hid (Below w.heap.size w w3) := HB3.out.trans (gb3.mono HB3.out.size)
        have hsz : (str bs).size = bs.length := by simp [str, ByteArray.size]
        have hd : (str bs).data.toList = bs := by simp [str]
        have TC0 := text_calls (.slice none 0 0) [] (str bs) w3 (holds_nil _) (by rw [hsz]; have := HTL.out; omega) (by rw [hsz]; have := HTL.out; simp; omega)
        rw [hsz, hd, List.nil_append, ← HTX.out] at TC0
        have TC : Hid (Calls Try.prog 31 #[.slice none 0 0, .string (str bs)] w3 (NB w3 (txt ⟨k, s, n, b, ks⟩))) := TC0
        clear TC0 hsz hd gh3 gb3 gl3 PC
        go_wp2_with fail
        refine TC.out.mono ?_
        rintro e w4 ⟨g4, gl4, rfl, gh4, gb4⟩
        have hb4 := HB4.out.trans (gb4.mono HB4.out.size)
        obtain ⟨u', w5, hr5, ho5, hb5⟩ := own_app (HO4.out.blw gb4) gh4 (by have := HL.out; have := HTL.out; omega) hb4.size
        have HO5 : Hid (Own w.heap.size w5 u' (putAll (xs.take (j + 1)))) := by rw [HS.out]; exact ho5
        have HB5 : Hid (Below w.heap.size w w5) := hb4.trans hb5
        obtain ⟨au', cu', hu'⟩ := HO5.out.shp
        subst hu'
        clear ho5 hb5 hb4 gl4 gh4 gb4 TC
        go_wp2_with (at_builtin; refine Lib.wpList_append_run _ rfl _ _ 23 23 rfl _ _ rfl rfl _ _ (hr5 _) ?_)
        exact ⟨⟨j + 1, hlt, by rw [HW.out], HO5, HB5⟩, meas hlt HW.out⟩
    · obtain rfl : j = N := by omega
      obtain ⟨au, cu, hu⟩ := HO.out.shp
      subst hu
      have HO2 : Hid (Own w.heap.size wr (.slice au (putAll (xs.take j)).length cu) (putAll xs)) := by have := HO.out; rw [show xs.take j = xs by rw [← HN.out, List.take_length]] at this ⊢; exact this
      go_wp2_with fail
      go_ret
      exact ⟨_, rfl, HO2.out, HB.out⟩
end Go.Proofs.Ytimiklekajelfaa
