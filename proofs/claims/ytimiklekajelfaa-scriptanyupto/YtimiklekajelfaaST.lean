/- The walk of ScriptAny, where both have at most 1048576 bytes. -/
import Derived.Test.YtimiklekajelfaaSP
import Derived.Test.YtimiklekajelfaaSR
import Derived.Test.YtimiklekajelfaaSS
import Derived.Test.YtimiklekajelfaaPI
namespace Go.Proofs.Ytimiklekajelfaa
open Go.ChangeShapes Go.WideShapes Go.ChangeAt Go.RowKit
theorem slice_head22 (p : Option Addr) (L c n : Nat) (hn : n ≤ c) (w : World) : (Instr.slice 22 (.slice p L c) none (some (.int .i64 (n : Int))) none).run Try.prog w = .ok (.slice (headA p c) n c) w := by
  have z5 : ∀ w, (Go.sizeOf 28).run Try.prog w = .ok 5 w := fun w => by kernel_rfl
  have he : Try.prog.elem 22 = 28 := by simp [Program.elem]
  rw [run_slice_h w 22 p L c (by rw [he]; exact u22) .i64 _ (by omega) (by omega), he, z5]
  simp [Result.andThen, sliced, headA]
theorem LsS.head {P : Nat → Prop} {w : World} {p : Option Addr} {xs ys : List Sp} (c : Nat) (h : LsS P w p (xs ++ ys)) : LsS P w (headA p c) xs := fun i x hx => by
  obtain ⟨B, o, vb, vk, rfl, hP, h5, hv⟩ := h i x (by rw [List.getElem?_append_left (List.getElem?_eq_some_iff.1 hx).1]; exact hx)
  refine ⟨B, o, vb, vk, ?_, hP, h5, hv⟩
  unfold headA
  split
  · rfl
  · rw [Option.map_some, add_plain, Nat.add_zero]
set_option maxHeartbeats 1000000 in
set_option maxRecDepth 100000 in
theorem any_walk (vb vc : Value) (bs cs : List UInt8) (w : World) (hb : Lib.HoldsBytes w vb bs) (hc : Lib.HoldsBytes w vc cs) (hbl : bs.length ≤ 1048576) (hcl : cs.length ≤ 1048576) :
    Calls Try.prog 6 #[vb, vc] w fun e w' => e = .returned (.bool true) ∧ Below w.heap.size w w' := by
  have HC : Hid (Lib.HoldsBytes w vc cs) := hc
  have C1 : Hid (Calls Try.prog 15 #[vb] w _) := parse_calls vb bs w hb (by omega)
  have hok := parseB_ok bs
  have hyl := parseB_len bs
  have hag := parse_again bs
  have hjn := parse_join (parseB bs) cs hok
  obtain ⟨pb, nb, cb, rfl⟩ : ∃ a m c, vb = .slice a m c := by obtain ⟨p, cap, rfl, q1, q2⟩ := hb; exact ⟨_, _, _, rfl⟩
  obtain ⟨pc, nc, cc, rfl⟩ : ∃ a m c, vc = .slice a m c := by obtain ⟨p, cap, rfl, q1, q2⟩ := hc; exact ⟨_, _, _, rfl⟩
  generalize parseB bs = ys at C1 hok hyl hag hjn
  have hpl := putAll_len ys (fun x hx => (hok x hx).1)
  have HOK : Hid (∀ x ∈ ys, WfS x ∧ mayB x = true) := hok
  have HYL : Hid (ys.length ≤ 1048576) := by show _ ≤ _; omega
  have HPL : Hid ((putAll ys).length ≤ 17009 * 1048576 ∧ cs.length ≤ 1048576) := ⟨by omega, hcl⟩
  have PC0 := fun (P : Nat → Prop) (a : Option Addr) (c : Nat) (W : World) (h : LsS P W a ys) => putAll_calls P a c ys.length ys rfl (by have := HYL.out; omega) (fun x hx => (HOK.out x hx).1) W h
  generalize putAll ys = pl at PC0 hag hjn HPL
  have HAG : Hid (parseB pl = ys) := hag
  have HJN : Hid (parseB (pl ++ cs) = ys ++ parseB cs) := hjn
  have HPC : Hid (∀ (P : Nat → Prop) (a : Option Addr) (c : Nat) (W : World), LsS P W a ys → Calls Try.prog 12 #[.slice a ys.length c] W fun e w' => ∃ v, e = .returned v ∧ Own W.heap.size w' v pl ∧ Below W.heap.size W w') := PC0
  clear hb hc hbl hcl hok hyl hag hjn hpl PC0
  go_enter Try.func6, Try.ntmps6
  go_wp2_with fail
  refine C1.out.mono ?_
  rintro e w1 ⟨u1, rfl, hg1, hb1⟩
  obtain ⟨a1, c1, rfl, _⟩ := hg1.shape
  have G1 : Hid (GrS w.heap.size (fun B => w.heap.size < B) w1 (.slice a1 ys.length c1) ys) := hg1
  have B1 : Hid (Below w.heap.size w w1) := hb1
  have C2 : Hid (Calls Try.prog 12 #[.slice a1 ys.length c1] w1 _) := HPC.out (fun _ => True) a1 c1 w1 (hg1.ls fun _ _ => trivial)
  clear hg1 hb1 C1
  go_wp2_with fail
  refine C2.out.mono ?_
  rintro e w2 ⟨v2, rfl, ho2, hb2⟩
  have C3 : Hid (Calls Try.prog 15 #[v2] w2 _) := parse_calls v2 pl w2 (own_holds ho2) (by have := HPL.out; omega)
  obtain ⟨a2, c2, rfl⟩ := ho2.shp
  have G2 : Hid (GrS w.heap.size (fun B => w.heap.size < B) w2 (.slice a1 ys.length c1) ys) := G1.out.below hb2
  have B2 : Hid (Below w.heap.size w w2) := bel2 B1.out hb2
  rw [HAG.out] at C3
  clear ho2 hb2 C2 G1
  go_wp2_with fail
  refine C3.out.mono ?_
  rintro e w3 ⟨u3, rfl, hg3, hb3⟩
  obtain ⟨a3, c3, rfl, _⟩ := hg3.shape
  have G3 : Hid (LsS (fun _ => True) w3 a3 ys) := hg3.ls fun _ _ => trivial
  have L3 : Hid (LsS (fun _ => True) w3 a1 ys) := (G2.out.below hb3).ls fun _ _ => trivial
  have B3 : Hid (Below w.heap.size w w3) := bel2 B2.out hb3
  have C4 : Hid (Calls Try.prog 12 #[.slice a1 ys.length c1] w3 _) := HPC.out (fun _ => True) a1 c1 w3 L3.out
  clear hg3 hb3 C3 G2
  go_wp2_with fail
  refine C4.out.mono ?_
  rintro e w4 ⟨v4, rfl, ho4, hb4⟩
  have hh4 : Lib.HoldsBytes w4 v4 pl := own_holds ho4
  obtain ⟨a4, c4, rfl⟩ := ho4.shp
  have B4 : Hid (Below w.heap.size w w4) := bel2 B3.out hb4
  have G4 : Hid (LsS (fun _ => True) w4 a3 ys) := G3.out.below hb4
  have L4 : Hid (LsS (fun _ => True) w4 a1 ys) := L3.out.below hb4
  have C5 : Hid (Calls Try.prog 20 #[.slice (some ⟨w4.heap.size, 0, none⟩) 1 1] (w4.alloc (.cells #[.slice a4 pl.length c4] 23)) _) := texts_one w4.heap.size (.slice a4 pl.length c4) pl _ (by simp) (holds_below hh4 (bel1 _ _)) (by have := HPL.out; omega)
  clear ho4 hb4 hh4 C4 G3 L3
  go_wp2_with fail
  refine C5.out.mono ?_
  rintro e w5 ⟨g5, c5, v5, rfl, hc5, hv5, hb5⟩
  have hb45 : Below w4.heap.size w4 w5 := bel2 (bel1 _ _) hb5
  have B5 : Hid (Below w.heap.size w w5) := bel2 B4.out hb45
  have G5 : Hid (LsS (fun _ => True) w5 a3 ys) := G4.out.below hb45
  have L5 : Hid (LsS (fun _ => True) w5 a1 ys) := L4.out.below hb45
  have hc : Lib.HoldsBytes w5 (.slice pc nc cc) cs := holds_below HC.out B5.out
  have C6 : Hid (Calls Try.prog 19 #[.slice (some ⟨w5.heap.size, 0, none⟩) 2 2] (w5.alloc (.cells #[v5, .slice pc nc cc] 23)) _) := concat_calls w5.heap.size 2 2 [v5, .slice pc nc cc] [pl, cs] _ rfl (parts_two w5 v5 (.slice pc nc cc) pl cs hv5 hc) (by omega) (pl.length + cs.length) (by simp [Lib.lens]) (by have := HPL.out; omega)
  obtain ⟨p5, n5, k5, rfl⟩ : ∃ a m c, v5 = .slice a m c := by obtain ⟨p, cap, rfl, q1, q2⟩ := hv5; exact ⟨_, _, _, rfl⟩
  clear hv5 hb5 hb45 hc C5 G4 L4
  go_wp2_with fail
  refine C6.out.mono ?_
  rintro e w6 ⟨v6, rfl, hv6, hb6⟩
  have efl : [pl, cs].flatten = pl ++ cs := by simp
  rw [efl] at hv6
  have C7 : Hid (Calls Try.prog 15 #[v6] w6 _) := parse_calls v6 (pl ++ cs) w6 hv6 (by rw [List.length_append]; have := HPL.out; omega)
  rw [HJN.out] at C7
  have hb56 : Below w5.heap.size w5 w6 := bel2 (bel1 _ _) hb6
  have B6 : Hid (Below w.heap.size w w6) := bel2 B5.out hb56
  have G6 : Hid (LsS (fun _ => True) w6 a3 ys) := G5.out.below hb56
  have L6 : Hid (LsS (fun _ => True) w6 a1 ys) := L5.out.below hb56
  obtain ⟨p6, n6, k6, rfl⟩ : ∃ a m c, v6 = .slice a m c := by obtain ⟨p, cap, rfl, q1, q2⟩ := hv6; exact ⟨_, _, _, rfl⟩
  generalize parseB cs = zs at C7
  clear hv6 hb6 hb56 C6 efl hc5 G5 L5
  go_wp2_with fail
  refine C7.out.mono ?_
  rintro e w7 ⟨u7, rfl, hg7, hb7⟩
  obtain ⟨a7, c7, rfl, h71, _⟩ := hg7.shape
  have B7 : Hid (Below w.heap.size w w7) := bel2 B6.out hb7
  have G7 : Hid (LsS (fun _ => True) w7 a3 ys) := G6.out.below hb7
  have L7 : Hid (LsS (fun _ => True) w7 a1 ys) := L6.out.below hb7
  have H7 : Hid (LsS (fun _ => True) w7 (headA a7 c7) ys) := LsS.head c7 (hg7.ls fun _ _ => trivial)
  have C8 : Hid (Calls Try.prog 14 #[.slice a1 ys.length c1, .slice a3 ys.length c3, .func (.func 18) #[] #[]] w7 _) := efs_calls _ _ _ _ c1 c3 _ ys rfl (by have := HYL.out; omega) w7 L7.out G7.out
  rw [List.length_append] at h71 ⊢
  obtain ⟨L, hL⟩ : ∃ L, L = ys.length := ⟨_, rfl⟩
  obtain ⟨M, hM⟩ : ∃ M, M = zs.length := ⟨_, rfl⟩
  rw [← hL, ← hM] at h71
  rw [← hL] at C8
  rw [← hL, ← hM]
  have hge : (L : Int) ≤ ((L + M : Nat) : Int) := by omega
  have hge2 : decide (((L + M : Nat) : Int) ≥ (L : Int)) = true := decide_eq_true (by omega)
  have hsl := fun W => slice_head22 a7 (L + M) c7 L (by omega) W
  have HLy : Hid (L = ys.length) := hL
  clear hg7 hb7 hL hM h71 C7 G6 L6
  go_wp2_with fail
  refine C8.out.mono ?_
  rintro e w8 ⟨rfl, hb8⟩
  have B8 : Hid (Below w.heap.size w w8) := bel2 B7.out hb8
  have C9 : Hid (Calls Try.prog 14 #[.slice (headA a7 c7) L c7, .slice a1 L c1, .func (.func 18) #[] #[]] w8 _) := efs_calls _ _ _ _ c7 c1 L ys HLy.out.symm (by have := HYL.out; have := HLy.out; omega) w8 (H7.out.below hb8) (L7.out.below hb8)
  clear hb8 C8
  go_wp2_with fail
  refine C9.out.mono ?_
  rintro e w9 ⟨rfl, hb9⟩
  have B9 : Hid (Below w.heap.size w w9) := bel2 B8.out hb9
  clear hb9 C9
  go_wp2_with fail
  refine (awake_calls w9).mono ?_
  rintro e w10 ⟨rfl, hb10⟩
  have B10 : Hid (Below w.heap.size w w10) := bel2 B9.out hb10
  clear hb10
  go_wp2_with fail
  go_ret
  exact ⟨rfl, B10.out⟩
end Go.Proofs.Ytimiklekajelfaa
