/- The walk of ScriptBack, where the list has at most 1048576 steps. -/
import Derived.Test.YtimiklekajelfaaSP
namespace Go.Proofs.Ytimiklekajelfaa
open Go.ChangeShapes Go.WideShapes Go.ChangeAt Go.RowKit
theorem ls_one {P : Nat → Prop} {W : World} {g : Nat} {vb vk : Value} {x : Sp} (h5 : AtS W g 0 vb vk x) (hP : P g) (hv : IsV P W vb vk x) : LsS P W (some ⟨g, 0, none⟩) [x] := fun i y hy => by
  match i, hy with
  | 0, hy => cases hy; exact ⟨g, 0, vb, vk, rfl, hP, h5, hv⟩
  | i + 1, hy => simp at hy
set_option maxHeartbeats 1000000 in
set_option maxRecDepth 100000 in
theorem back_walk (a : Option Addr) (c N : Nat) (xs : List Sp) (hN : xs.length = N) (hm : N ≤ 1048576) (wf : ∀ x ∈ xs, WfS x) (w : World) (h : LsS (fun _ => True) w a xs) :
    Calls Try.prog 5 #[.slice a N c] w fun e w' => e = .returned (.bool true) ∧ Below w.heap.size w w' := by
  have HI : Hid (LsS (fun _ => True) w a xs) := h
  have HN : Hid (xs.length = N ∧ N ≤ 1048576) := ⟨hN, hm⟩
  have WF : Hid (∀ x ∈ xs, WfS x) := wf
  have FC : Hid (Calls Try.prog 7 #[.slice a N c] w _) := few_calls _ a c N xs hN (by omega) w h
  clear h hN hm wf
  go_enter Try.func5, Try.ntmps5
  go_wp2_with fail
  refine FC.out.mono ?_
  rintro e w1 ⟨⟨r, rfl⟩, hb1⟩
  have HB1 : Hid (Below w.heap.size w w1) := hb1
  clear hb1 FC
  cases r with
  | false =>
    go_wp2_with fail
    refine (awake_calls w1).mono ?_
    rintro e w2 ⟨rfl, hb2⟩
    have HB2 : Hid (Below w.heap.size w w2) := bel2 HB1.out hb2
    clear hb2
    go_wp2_with fail
    go_ret
    exact ⟨rfl, HB2.out⟩
  | true =>
    go_wp2_with fail
    go_loopw [3, 5, 12] (fun u _ i wr => ∃ (j : Nat), j ≤ N ∧ i = .int .i64 (j : Int) ∧ Hid (GrS w.heap.size (fun B => B < w.heap.size) wr u ((xs.take j).filter mayB)) ∧ Hid (Below w.heap.size w wr)) (fun _ _ i _ => N - (intOf i).toNat)
    case atStart => exact ⟨0, Nat.zero_le _, rfl, GrS.nil _ _ _, HB1⟩
    case round =>
      obtain ⟨j, hj, rfl, HG, HB⟩ := hrel
      by_cases hlt : j < N
      · have hjl : (j : Int) < (N : Int) := by omega
        obtain ⟨x, hx⟩ : ∃ x, xs[j]? = some x := ⟨_, List.getElem?_eq_getElem (by have := HN.out; omega)⟩
        obtain ⟨B, o, vb, vk, rfl, _, h5, hv⟩ := HI.out j x hx
        have HV : Hid (IsV (fun _ => True) w vb vk x) := hv
        have WX : Hid (WfS x) := WF.out x (List.mem_of_getElem? hx)
        have HW : Hid (wrap64 ((j : Int) + 1) = ((j + 1 : Nat) : Int)) := wr1 hlt (by have := HN.out.2; omega)
        have HT : Hid (xs.take (j + 1) = xs.take j ++ [x]) := by show _ = _; rw [List.take_add_one, hx]; rfl
        have HFL : Hid (((xs.take j).filter mayB).length ≤ 1048576) := by
          show _ ≤ _
          have h1 := List.length_filter_le mayB (xs.take j)
          have h2 : (xs.take j).length ≤ xs.length := by rw [List.length_take]; omega
          have := HN.out
          omega
        have g5 : AtS wr B (o + j * 5) vb vk x := At5.below h5 HB.out
        obtain ⟨pb, cb, rfl, _⟩ := hv.1.shape
        obtain ⟨pk, ck, rfl, _⟩ := hv.2.shape
        obtain ⟨au, cu, hu, _⟩ := HG.out.shape
        subst hu
        have hone := put_one (x := x)
        obtain ⟨k, s, n, b, ks⟩ := x
        dsimp only at *
        obtain ⟨q0, q1, q2, q3, q4⟩ := g5
        dsimp only at q0 q1 q2 q3 q4
        have A0 : Hid (At5 _ wr.heap.size 0 _ _ _ _ _) := box_at wr (.int .i64 k) (.int .i64 s) (.int .i64 n) (.slice pb b.length cb) (.slice pk ks.length ck)
        have HBB : Hid (Below w.heap.size w (wr.alloc (.cells #[.int .i64 k, .int .i64 s, .int .i64 n, .slice pb b.length cb, .slice pk ks.length ck] 28))) := HB.out.trans ((bel1 wr _).mono HB.out.size)
        have HG2 : Hid (GrS w.heap.size (fun B => B < w.heap.size) (wr.alloc (.cells #[.int .i64 k, .int .i64 s, .int .i64 n, .slice pb b.length cb, .slice pk ks.length ck] 28)) _ _) := HG.out.below (bel1 wr _)
        clear hx h5 hv hj
        go_upto_region 7 with fail
        clear q0 q1 q2 q3 q4
        generalize hW1 : wr.alloc (.cells #[.int .i64 k, .int .i64 s, .int .i64 n, .slice pb b.length cb, .slice pk ks.length ck] 28) = W1 at A0 HBB HG2 ⊢
        generalize hq : wr.heap.size = q at A0 ⊢
        clear hW1 hq HG HB
        obtain ⟨q0, q1, q2, q3, q4⟩ := A0.out
        have PC : Hid (Calls Try.prog 12 #[.slice (some ⟨W1.heap.size, 0, none⟩) 1 1] (W1.alloc (.cells #[.int .i64 k, .int .i64 s, .int .i64 n, .slice pb b.length cb, .slice pk ks.length ck] 28)) _) :=
          putAll_calls (fun _ => True) _ 1 1 [⟨k, s, n, b, ks⟩] rfl (by decide) (by intro y hy; rw [List.mem_singleton.1 hy]; exact WX.out) _ (ls_one (box_at W1 _ _ _ _ _) trivial ((HV.out.below HBB.out).below (bel1 W1 _)))
        generalize putAll [⟨k, s, n, b, ks⟩] = pl at PC hone
        go_wp2_with fail
        refine PC.out.mono ?_
        rintro e w2 ⟨v, rfl, ho, hb2⟩
        obtain ⟨av, cv, rfl⟩ := ho.shp
        obtain ⟨L, hL⟩ : ∃ L, L = pl.length := ⟨_, rfl⟩
        rw [← hL] at hone ⊢
        have hbb : Below W1.heap.size W1 w2 := bel2 (bel1 _ _) hb2
        have A2 : Hid (At5 w2 q 0 _ _ _ _ _) := A0.out.below hbb
        have HB2 : Hid (Below w.heap.size w w2) := bel2 HBB.out hbb
        have HG3 : Hid (GrS w.heap.size (fun B => B < w.heap.size) w2 _ _) := HG2.out.below hbb
        clear ho hb2 hbb PC q0 q1 q2 q3 q4 hL
        cases hmb : mayB ⟨k, s, n, b, ks⟩ with
        | false =>
          rw [hmb] at hone
          obtain rfl : L = 0 := by simpa using hone
          clear hone
          have HF : Hid ((xs.take (j + 1)).filter mayB = (xs.take j).filter mayB) := by show _ = _; rw [HT.out, List.filter_append]; simp [hmb]
          clear hmb
          go_wp2_with fail
          exact ⟨⟨j + 1, hlt, by rw [HW.out], (by show GrS _ _ _ _ _; rw [HF.out]; exact HG3.out), HB2⟩, meas hlt HW.out⟩
        | true =>
          rw [hmb] at hone
          have hgt2 : (0 : Int) < (L : Int) := by simpa using hone
          have HF : Hid ((xs.take (j + 1)).filter mayB = (xs.take j).filter mayB ++ [⟨k, s, n, b, ks⟩]) := by show _ = _; rw [HT.out, List.filter_append]; simp [hmb]
          clear hmb
          obtain ⟨q0, q1, q2, q3, q4⟩ := A2.out
          have hz2 := HB2.out.size
          obtain ⟨u', w5, hr5, g5, b5, _⟩ := GrS.app (src := w2.heap.size) (x := ⟨k, s, n, b, ks⟩) (HG3.out.below (bel1 w2 (.cells #[.int .i64 k, .int .i64 s, .int .i64 n, .slice pb b.length cb, .slice pk ks.length ck] 28))) (box_at w2 _ _ _ _ _)
            (HV.out.keep fun B _ hl => ⟨((bel1 w2 _).block B (by omega)).trans (HB2.out.block B hl), hl, fun e => by have := (HG3.out.lt B e).1; omega⟩) (by simp; omega) (by have := HFL.out; omega)
          have G5 : Hid (GrS w.heap.size (fun B => B < w.heap.size) w5 u' ((xs.take (j + 1)).filter mayB)) := by rw [HF.out]; exact g5
          have HB5 : Hid (Below w.heap.size w w5) := HB2.out.trans (((bel1 w2 _).mono hz2).trans b5)
          obtain ⟨au', cu', rfl, _⟩ := G5.out.shape
          clear g5 b5 hz2
          go_wp2_with (at_builtin; refine Lib.wpList_append_run _ rfl _ _ 22 22 rfl _ _ rfl rfl _ _ (hr5 _) ?_)
          exact ⟨⟨j + 1, hlt, by rw [HW.out], G5, HB5⟩, meas hlt HW.out⟩
      · obtain rfl : j = N := by omega
        obtain ⟨au, cu, hu, _⟩ := HG.out.shape
        subst hu
        have HG2 : Hid (GrS w.heap.size (fun B => B < w.heap.size) wr (.slice au ((xs.take j).filter mayB).length cu) (xs.filter mayB)) := by have := HG.out; rw [show xs.take j = xs by rw [← HN.out.1, List.take_length]] at this ⊢; exact this
        have hte : xs.take j = xs := by rw [← HN.out.1, List.take_length]
        rw [hte] at HG2 ⊢
        have PC : Hid (Calls Try.prog 12 #[.slice a j c] wr _) := putAll_calls _ a c j xs HN.out.1 (by have := HN.out.2; omega) WF.out wr (HI.out.below HB.out)
        have hpb := parse_back xs WF.out
        have hpl := putAll_len xs WF.out
        have HPL : Hid ((putAll xs).length ≤ 1099511627776) := by show _ ≤ _; have := HN.out; omega
        generalize putAll xs = pl at PC hpb HPL
        obtain ⟨ys, hys⟩ : ∃ ys, ys = xs.filter mayB := ⟨_, rfl⟩
        have HYL : Hid (ys.length ≤ 1048576) := by show _ ≤ _; rw [hys]; have := List.length_filter_le mayB xs; have := HN.out; omega
        rw [← hys] at HG2 hpb ⊢
        have HPB : Hid (parseB pl = ys) := hpb
        clear hte hpl hpb hys HG
        go_wp2_with fail
        refine PC.out.mono ?_
        rintro e w2 ⟨v, rfl, ho, hb2⟩
        have RC : Hid (Calls Try.prog 15 #[v] w2 _) := parse_calls v pl w2 (own_holds ho) HPL.out
        obtain ⟨av, cv, rfl⟩ := ho.shp
        have HG3 : Hid (GrS w.heap.size (fun B => B < w.heap.size) w2 _ ys) := HG2.out.below hb2
        have HB2 : Hid (Below w.heap.size w w2) := bel2 HB.out hb2
        rw [HPB.out] at RC
        clear ho hb2 PC
        go_wp2_with fail
        refine RC.out.mono ?_
        rintro e w3 ⟨u3, rfl, hg3, hb3⟩
        obtain ⟨a3, c3, rfl, _⟩ := hg3.shape
        have EC : Hid (Calls Try.prog 14 #[.slice a3 ys.length c3, .slice au ys.length cu, .func (.func 18) #[] #[]] w3 _) := efs_calls (fun _ => True) (fun _ => True) _ _ c3 cu _ ys rfl (by have := HYL.out; omega) w3 (hg3.ls fun _ _ => trivial) ((HG3.out.below hb3).ls fun _ _ => trivial)
        have HB3 : Hid (Below w.heap.size w w3) := bel2 HB2.out hb3
        clear hg3 hb3 RC
        go_wp2_with fail
        refine EC.out.mono ?_
        rintro e w4 ⟨rfl, hb4⟩
        have HB4 : Hid (Below w.heap.size w w4) := bel2 HB3.out hb4
        clear hb4 EC
        go_wp2_with fail
        refine (awake_calls w4).mono ?_
        rintro e w5 ⟨rfl, hb5⟩
        have HB5 : Hid (Below w.heap.size w w5) := bel2 HB4.out hb5
        clear hb5
        go_wp2_with fail
        go_ret
        exact ⟨rfl, HB5.out⟩
end Go.Proofs.Ytimiklekajelfaa
