/- The contract of awake. -/
import Derived.Test.YtocjgcjechhehaaQ
namespace Go.Proofs.Ytocjgcjechhehaa
open Go.ChangeAt Go.ChangeShapes Go.Deep Go.RowKit Go.WideShapes
def zT : Tv := .mk 0 0 0 ⟨#[]⟩ []
def w1X : Wt := ⟨1, 1, 0, 0, ⟨#[97]⟩, ⟨#[]⟩, zT, zT, true, false, 0⟩
def w2X : Wt := ⟨1, 1, 0, 5, ⟨#[97]⟩, ⟨#[]⟩, zT, zT, true, false, 3⟩
def w3X : Wt := ⟨1, 1, 0, 5, ⟨#[97]⟩, ⟨#[]⟩, zT, zT, true, true, 3⟩
theorem zT_small : SmallW 1 zT := ⟨by decide, fun i t h => by simp at h⟩
theorem w1_is (w : World) : IsW (Is w 1) #[.int .i64 1, .int .i64 1, .int .i64 0, .int .i64 0, .string ⟨#[97]⟩, .string ⟨#[]⟩, .int .i64 0, .int .i64 0, .int .u64 0, .string ⟨#[]⟩, .slice none 0 0, .int .i64 0, .int .i64 0, .int .u64 0, .string ⟨#[]⟩, .slice none 0 0, .bool true, .bool false, .int .i64 0] w1X :=
  { size := rfl, c0 := rfl, c1 := rfl, c2 := rfl, c3 := rfl, c4 := rfl, c5 := rfl, c16 := rfl, c17 := rfl, c18 := rfl, asked := ⟨0, 0, 0, ⟨#[]⟩, none, 0, 0, rfl, rfl, rfl, rfl, rfl, zT_is w 0⟩, value := ⟨0, 0, 0, ⟨#[]⟩, none, 0, 0, rfl, rfl, rfl, rfl, rfl, zT_is w 0⟩ }
theorem ls_nil (w : World) (n : Nat) : LsW w n none [] := fun i x h => by simp at h
/-- One wait is told. -/
def Ret1 (w : World) (x : Wt) (e : Ending) (W' : World) : Prop := ∃ a c, e = .returned (.slice a 1 c) ∧ LsW W' 1 a [x] ∧ Below w.heap.size w W'
theorem RetW.one {w : World} {xs : List Wt} {x : Wt} {e : Ending} {W' : World} (hx : xs = [x]) (h : RetW 1 w xs e W') : Ret1 w x e W' := by
  subst hx
  obtain ⟨a, c, h1, h2, _, _, h3⟩ := h
  exact ⟨a, c, h1, h2, h3⟩
theorem a1_ls (w : World) : LsAn (w.alloc (.cells #[.int .i64 1, .int .i64 0, .int .i64 0, .int .u64 0, .string ⟨#[]⟩, .slice none 0 0] 66)) 1 (some ⟨w.heap.size, 0, none⟩) [⟨1, zT⟩] := fun i d hd => by
  match i, hd with
  | 0, hd =>
    cases hd
    refine ⟨w.heap.size, 0, #[.int .i64 1, .int .i64 0, .int .i64 0, .int .u64 0, .string ⟨#[]⟩, .slice none 0 0], rfl, rfl, ?_, ⟨rfl, rfl, ⟨0, 0, 0, ⟨#[]⟩, none, 0, 0, rfl, rfl, rfl, rfl, rfl, zT_is _ 0⟩⟩⟩
    exact Lies.row (heap_alloc_new w _)
  | i + 1, hd => simp at hd
theorem one_sm {x : Wt} (h : SmX 1 x) : ∀ y ∈ [x], SmX 1 y := fun y hy => by
  rw [List.mem_singleton.1 hy]
  exact h
set_option maxHeartbeats 4000000 in
set_option maxRecDepth 100000 in
theorem awake_calls (w : World) : Calls Try.prog 18 #[] w fun e w' => e = .returned (.bool true) ∧ Below w.heap.size w w' := by
  have s1 : SmX 1 w1X := ⟨zT_small, zT_small⟩
  have s2 : SmX 1 w2X := ⟨zT_small, zT_small⟩
  have s3 : SmX 1 w3X := ⟨zT_small, zT_small⟩
  have K1 : Hid (Calls Try.prog 20 #[.slice none 0 0, .agg #[.int .i64 1, .int .i64 1, .int .i64 0, .int .i64 0, .string ⟨#[97]⟩, .string ⟨#[]⟩, .int .i64 0, .int .i64 0, .int .u64 0, .string ⟨#[]⟩, .slice none 0 0, .int .i64 0, .int .i64 0, .int .u64 0, .string ⟨#[]⟩, .slice none 0 0, .bool true, .bool false, .int .i64 0]] w (Ret1 w w1X)) := (add_calls 1 none 0 0 [] rfl (by omega) #[.int .i64 1, .int .i64 1, .int .i64 0, .int .i64 0, .string ⟨#[97]⟩, .string ⟨#[]⟩, .int .i64 0, .int .i64 0, .int .u64 0, .string ⟨#[]⟩, .slice none 0 0, .int .i64 0, .int .i64 0, .int .u64 0, .string ⟨#[]⟩, .slice none 0 0, .bool true, .bool false, .int .i64 0] w1X w (ls_nil w 1) (fun y h => by simp at h) (w1_is w) s1).mono fun e w' h => h.one rfl
  have K2 : Hid (∀ (W : World) a c, LsW W 1 a [w1X] → Calls Try.prog 23 #[.slice a 1 c, .string ⟨#[97]⟩, .int .i64 1, .int .i64 2, .int .i64 5] W (Ret1 W w2X)) := fun W a c h => (hand_calls 1 a c 1 [w1X] rfl (by omega) ⟨#[97]⟩ 1 2 5 W h (one_sm s1)).mono fun e w' h => h.one (by kernel_rfl)
  have K3 : Hid (∀ (W : World) a c, LsW W 1 a [w2X] → Calls Try.prog 19 #[.slice a 1 c, .int .i64 3, .slice (some ⟨W.heap.size, 0, none⟩) 1 1] (W.alloc (.cells #[.int .i64 1, .int .i64 0, .int .i64 0, .int .u64 0, .string ⟨#[]⟩, .slice none 0 0] 66)) (Ret1 (W.alloc (.cells #[.int .i64 1, .int .i64 0, .int .i64 0, .int .u64 0, .string ⟨#[]⟩, .slice none 0 0] 66)) w2X)) := fun W a c h => (answer_calls 1 a c 1 [w2X] rfl (by omega) 3 (some ⟨W.heap.size, 0, none⟩) 1 1 [⟨1, zT⟩] rfl (by omega) (W.alloc (.cells #[.int .i64 1, .int .i64 0, .int .i64 0, .int .u64 0, .string ⟨#[]⟩, .slice none 0 0] 66)) (h.below (bel1 _ _)) (one_sm s2) (a1_ls W) (fun d hd => by rw [List.mem_singleton.1 hd]; exact zT_small)).mono fun e w' h => h.one (by kernel_rfl)
  have K5 : Hid (∀ (W : World) a c, LsW W 1 a [w2X] → Calls Try.prog 19 #[.slice a 1 c, .int .i64 2, .slice (some ⟨W.heap.size, 0, none⟩) 1 1] (W.alloc (.cells #[.int .i64 1, .int .i64 0, .int .i64 0, .int .u64 0, .string ⟨#[]⟩, .slice none 0 0] 66)) (Ret1 (W.alloc (.cells #[.int .i64 1, .int .i64 0, .int .i64 0, .int .u64 0, .string ⟨#[]⟩, .slice none 0 0] 66)) w3X)) := fun W a c h => (answer_calls 1 a c 1 [w2X] rfl (by omega) 2 (some ⟨W.heap.size, 0, none⟩) 1 1 [⟨1, zT⟩] rfl (by omega) (W.alloc (.cells #[.int .i64 1, .int .i64 0, .int .i64 0, .int .u64 0, .string ⟨#[]⟩, .slice none 0 0] 66)) (h.below (bel1 _ _)) (one_sm s2) (a1_ls W) (fun d hd => by rw [List.mem_singleton.1 hd]; exact zT_small)).mono fun e w' h => h.one (by kernel_rfl)
  have K4 : Hid (∀ (W : World) a c, LsW W 1 a [w2X] → Calls Try.prog 11 #[.slice a 1 c, .int .i64 1] W (FdP 0 W (some w2X))) := fun W a c h => find_calls 0 a c 1 [w2X] rfl (by omega) 1 W h (one_sm s2)
  have K6 : Hid (∀ (W : World) a c, LsW W 1 a [w3X] → Calls Try.prog 11 #[.slice a 1 c, .int .i64 1] W (FdP 0 W (some w3X))) := fun W a c h => find_calls 0 a c 1 [w3X] rfl (by omega) 1 W h (one_sm s3)
  clear s1 s2 s3
  go_enter Try.func18, Try.ntmps18
  go_wp2_with fail
  refine K1.out.mono ?_
  rintro e u1 ⟨a1, c1, rfl, hl1, hb1⟩
  have KK2 : Hid (Calls Try.prog 23 _ u1 _) := K2.out u1 a1 c1 hl1
  have HB1 : Hid (Below w.heap.size w u1) := hb1
  clear hl1 hb1 K1 K2
  go_wp2_with fail
  refine KK2.out.mono ?_
  rintro e u2 ⟨a2, c2, rfl, hl2, hb2⟩
  have KK3 : Hid (Calls Try.prog 19 _ _ _) := K3.out u2 a2 c2 hl2
  have HB2 : Hid (Below w.heap.size w u2) := bel2 HB1.out hb2
  clear hl2 hb2 K3 KK2
  go_wp2_with fail
  refine KK3.out.mono ?_
  rintro e u3 ⟨a3, c3, rfl, hl3, hb3⟩
  have KK4 : Hid (Calls Try.prog 11 _ u3 _) := K4.out u3 a3 c3 hl3
  have HL3 : Hid (LsW u3 1 a3 [w2X]) := hl3
  have HB3 : Hid (Below w.heap.size w u3) := bel2 HB2.out (bel2 (bel1 _ _) hb3)
  clear hl3 hb3 K4 KK3
  go_wp2_with fail
  refine KK4.out.mono ?_
  rintro e u4 ⟨⟨cs4, rfl, hi4⟩, hb4⟩
  have hu4 := info29s cs4 hi4.size
  have ho4 : zW.size = cs4.size := hi4.size.symm
  have h14 := all_one hi4.one
  have hz4 : (u4.alloc (.cells zW 29)).heap[u4.heap.size]? = some (.cells zW 29 (0, 0)) := heap_alloc_new u4 _
  have HI4 : Hid (IsW (Is u4 1) cs4 w2X) := hi4
  have HB4 : Hid (Below w.heap.size w u4) := bel2 HB3.out hb4
  have HL4 : Hid (LsW u4 1 a3 [w2X]) := HL3.out.below hb4
  clear hi4 hb4 KK4 HL3
  go_upto_region 5 with (refine wpList_store_row rfl 29 _ _ rfl u4.heap.size cs4 rfl rfl 29 zW hz4 hu4 ho4 h14 ?_)
  rw [World.setRow_alloc_new]
  have HBa : Hid (Below u4.heap.size u4 (u4.alloc (.cells cs4 29))) := bel1 u4 _
  have HE : Hid ((u4.alloc (.cells cs4 29)).cell? ⟨u4.heap.size, 17, none⟩ = some (.bool false)) := row_cell (heap_alloc_new u4 _) HI4.out.c17
  generalize u4.alloc (.cells cs4 29) = Wa at HBa HE ⊢
  have KK5 : Hid (Calls Try.prog 19 _ _ _) := K5.out Wa a3 c3 (HL4.out.below HBa.out)
  have HBw : Hid (Below w.heap.size w Wa) := bel2 HB4.out HBa.out
  clear hu4 ho4 h14 hz4 K5
  go_wp2_with fail
  refine KK5.out.mono ?_
  rintro e u5 ⟨a5, c5, rfl, hl5, hb5⟩
  have KK6 : Hid (Calls Try.prog 11 _ u5 _) := K6.out u5 a5 c5 hl5
  have HB5 : Hid (Below w.heap.size w u5) := bel2 HBw.out (bel2 (bel1 _ _) hb5)
  have HE5 : Hid (u5.cell? ⟨u4.heap.size, 17, none⟩ = some (.bool false)) := cellW HE.out (bel2 (bel1 _ _) hb5)
  clear hl5 hb5 K6 KK5 HE
  go_wp2_with fail
  refine KK6.out.mono ?_
  rintro e u6 ⟨⟨cs6, rfl, hi6⟩, hb6⟩
  have hu6 := info29s cs6 hi6.size
  have ho6 : zW.size = cs6.size := hi6.size.symm
  have h16 := all_one hi6.one
  have hz6 : (u6.alloc (.cells zW 29)).heap[u6.heap.size]? = some (.cells zW 29 (0, 0)) := heap_alloc_new u6 _
  have HI6 : Hid (IsW (Is u6 1) cs6 w3X) := hi6
  have HB6 : Hid (Below w.heap.size w u6) := bel2 HB5.out hb6
  have HE6 : Hid (u6.cell? ⟨u4.heap.size, 17, none⟩ = some (.bool false)) := cellW HE5.out hb6
  clear hi6 hb6 KK6 HE5
  go_upto_region 7 with (refine wpList_store_row rfl 29 _ _ rfl u6.heap.size cs6 rfl rfl 29 zW hz6 hu6 ho6 h16 ?_)
  rw [World.setRow_alloc_new]
  have HB7 : Hid (Below w.heap.size w (u6.alloc (.cells cs6 29))) := bel2 HB6.out (bel1 u6 _)
  have e17 : (u6.alloc (.cells cs6 29)).cell? ⟨u6.heap.size, 17, none⟩ = some (.bool true) := row_cell (heap_alloc_new u6 _) HI6.out.c17
  have e3 : (u6.alloc (.cells cs6 29)).cell? ⟨u6.heap.size, 3, none⟩ = some (.int .i64 5) := row_cell (heap_alloc_new u6 _) HI6.out.c3
  have f17 : (u6.alloc (.cells cs6 29)).cell? ⟨u4.heap.size, 17, none⟩ = some (.bool false) := cellW HE6.out (bel1 u6 _)
  generalize u6.alloc (.cells cs6 29) = Wz at HB7 e17 e3 f17 ⊢
  clear hu6 ho6 h16 hz6
  go_wp2_with fail
  go_ret
  exact ⟨rfl, HB7.out⟩
end Go.Proofs.Ytocjgcjechhehaa
