/- The contracts of a disk that no call made. -/
import Derived.Test.YtfjcjaojbdcpeaaRows
import Derived.WalkKit
import Derived.ProofKit
import Derived.Below
import Derived.Laws.Cover3
namespace Go.Proofs.Ytfjcjaojbdcpeaa
open Go.ChangeShapes Go.WideShapes Go.ChangeAt Go.RowKit
theorem bel1 (w : World) (o : Obj) : Below w.heap.size w (w.alloc o) := (Below.refl _ w).alloc (Nat.le_refl _) o
theorem bel2 {w w1 w2 : World} (h : Below w.heap.size w w1) (k : Below w1.heap.size w1 w2) : Below w.heap.size w w2 := h.trans (k.mono h.size)
theorem cell_below {w w' : World} {a : Addr} {v : Value} (h : w.cell? a = some v) (hb : Below w.heap.size w w') : w'.cell? a = some v := (hb.cell (World.block_lt_of_cell? w _ h)).trans h
/-- d is a disk that no call made. -/
def Nob (w : World) (d : Value) : Prop := d = .pointer none ∨ ∃ g, d = .pointer (some ⟨g, 0, none⟩) ∧ w.cell? ⟨g, 3, none⟩ = some (.map none)
theorem Nob.below {w w' : World} {d : Value} (h : Nob w d) (hb : Below w.heap.size w w') : Nob w' d := by
  rcases h with rfl | ⟨g, rfl, hg⟩
  · exact .inl rfl
  · exact .inr ⟨g, rfl, cell_below hg hb⟩
set_option maxRecDepth 100000 in
theorem made0 (d : Value) (w : World) (h : Nob w d) : Calls Try.prog 35 #[d] w fun e w' => e = .returned (.bool false) ∧ w' = w := by
  rcases h with rfl | ⟨g, rfl, hg⟩
  · go_enter Try.func35, Try.ntmps35
    go_wp2_with fail
    go_ret
    exact ⟨rfl, rfl⟩
  · have q55 : ∀ (w : World), (binOp .neq 55 (.map none) (.map none)).run Try.prog w = .ok (.bool false) w := fun w => run_neq_map_nil (P := Try.prog) w 55 _ _ none Try.underlying55
    go_enter Try.func35, Try.ntmps35
    go_wp2_with fail
    go_ret
    exact ⟨rfl, rfl⟩
theorem read0 (d : Value) (n : Int) (w : World) (h : Nob w d) : Calls Try.prog 19 #[d, .int .i64 n] w fun e w' => e = .returned (.tuple #[.slice none 0 0, .int .i64 2]) ∧ Below w.heap.size w w' := by
  have HM : Hid (∀ W, Below w.heap.size w W → Calls Try.prog 35 #[d] W fun e w' => e = .returned (.bool false) ∧ w' = W) := fun W hB => made0 d W (h.below hB)
  rcases h with rfl | ⟨g, rfl, _⟩
  · go_enter Try.func19, Try.ntmps19
    go_wp2_with fail
    refine (HM.out _ (Below.refl _ _)).mono ?_
    rintro e w1 ⟨rfl, hw⟩
    have hw' := hw.symm
    subst hw'
    clear hw
    go_wp2_with fail
    go_ret2
    exact ⟨rfl, Below.refl _ _⟩
  · go_enter Try.func19, Try.ntmps19
    go_wp2_with fail
    refine (HM.out _ (Below.refl _ _)).mono ?_
    rintro e w1 ⟨rfl, hw⟩
    have hw' := hw.symm
    subst hw'
    clear hw
    go_wp2_with fail
    go_ret2
    exact ⟨rfl, Below.refl _ _⟩
theorem append0 (d : Value) (n : Int) (a : Option Addr) (m c : Nat) (w : World) (h : Nob w d) : Calls Try.prog 16 #[d, .int .i64 n, .slice a m c] w fun e w' => e = .returned (.int .i64 2) ∧ Below w.heap.size w w' := by
  have HM : Hid (∀ W, Below w.heap.size w W → Calls Try.prog 35 #[d] W fun e w' => e = .returned (.bool false) ∧ w' = W) := fun W hB => made0 d W (h.below hB)
  rcases h with rfl | ⟨g, rfl, _⟩
  · go_enter Try.func16, Try.ntmps16
    go_wp2_with fail
    refine (HM.out _ (bel2 (bel2 (bel1 _ _) (bel1 _ _)) (bel1 _ _))).mono ?_
    rintro e w1 ⟨rfl, hw⟩
    have hw' := hw.symm
    subst hw'
    clear hw
    go_wp2_with fail
    go_ret
    exact ⟨rfl, bel2 (bel2 (bel1 _ _) (bel1 _ _)) (bel1 _ _)⟩
  · go_enter Try.func16, Try.ntmps16
    go_wp2_with fail
    refine (HM.out _ (bel2 (bel2 (bel1 _ _) (bel1 _ _)) (bel1 _ _))).mono ?_
    rintro e w1 ⟨rfl, hw⟩
    have hw' := hw.symm
    subst hw'
    clear hw
    go_wp2_with fail
    go_ret
    exact ⟨rfl, bel2 (bel2 (bel1 _ _) (bel1 _ _)) (bel1 _ _)⟩
theorem sync0 (d : Value)  (w : World) (h : Nob w d) : Calls Try.prog 17 #[d] w fun e w' => e = .returned (.int .i64 2) ∧ Below w.heap.size w w' := by
  have HM : Hid (∀ W, Below w.heap.size w W → Calls Try.prog 35 #[d] W fun e w' => e = .returned (.bool false) ∧ w' = W) := fun W hB => made0 d W (h.below hB)
  rcases h with rfl | ⟨g, rfl, _⟩
  · go_enter Try.func17, Try.ntmps17
    go_wp2_with fail
    refine (HM.out _ (Below.refl _ _)).mono ?_
    rintro e w1 ⟨rfl, hw⟩
    have hw' := hw.symm
    subst hw'
    clear hw
    go_wp2_with fail
    go_ret
    exact ⟨rfl, Below.refl _ _⟩
  · go_enter Try.func17, Try.ntmps17
    go_wp2_with fail
    refine (HM.out _ (Below.refl _ _)).mono ?_
    rintro e w1 ⟨rfl, hw⟩
    have hw' := hw.symm
    subst hw'
    clear hw
    go_wp2_with fail
    go_ret
    exact ⟨rfl, Below.refl _ _⟩
theorem cut0 (d : Value) (n m : Int) (w : World) (h : Nob w d) : Calls Try.prog 23 #[d, .int .i64 n, .int .i64 m] w fun e w' => e = .returned (.int .i64 2) ∧ Below w.heap.size w w' := by
  have HM : Hid (∀ W, Below w.heap.size w W → Calls Try.prog 35 #[d] W fun e w' => e = .returned (.bool false) ∧ w' = W) := fun W hB => made0 d W (h.below hB)
  rcases h with rfl | ⟨g, rfl, _⟩
  · go_enter Try.func23, Try.ntmps23
    go_wp2_with fail
    refine (HM.out _ (bel2 (bel2 (bel1 _ _) (bel1 _ _)) (bel1 _ _))).mono ?_
    rintro e w1 ⟨rfl, hw⟩
    have hw' := hw.symm
    subst hw'
    clear hw
    go_wp2_with fail
    go_ret
    exact ⟨rfl, bel2 (bel2 (bel1 _ _) (bel1 _ _)) (bel1 _ _)⟩
  · go_enter Try.func23, Try.ntmps23
    go_wp2_with fail
    refine (HM.out _ (bel2 (bel2 (bel1 _ _) (bel1 _ _)) (bel1 _ _))).mono ?_
    rintro e w1 ⟨rfl, hw⟩
    have hw' := hw.symm
    subst hw'
    clear hw
    go_wp2_with fail
    go_ret
    exact ⟨rfl, bel2 (bel2 (bel1 _ _) (bel1 _ _)) (bel1 _ _)⟩
theorem crash0 (d : Value) (a : Option Addr) (m c : Nat) (w : World) (h : Nob w d) : Calls Try.prog 18 #[d, .slice a m c] w fun e w' => e = .returned (.int .i64 2) ∧ Below w.heap.size w w' := by
  have HM : Hid (∀ W, Below w.heap.size w W → Calls Try.prog 35 #[d] W fun e w' => e = .returned (.bool false) ∧ w' = W) := fun W hB => made0 d W (h.below hB)
  rcases h with rfl | ⟨g, rfl, _⟩
  · go_enter Try.func18, Try.ntmps18
    go_wp2_with fail
    refine (HM.out _ (Below.refl _ _)).mono ?_
    rintro e w1 ⟨rfl, hw⟩
    have hw' := hw.symm
    subst hw'
    clear hw
    go_wp2_with fail
    go_ret
    exact ⟨rfl, Below.refl _ _⟩
  · go_enter Try.func18, Try.ntmps18
    go_wp2_with fail
    refine (HM.out _ (Below.refl _ _)).mono ?_
    rintro e w1 ⟨rfl, hw⟩
    have hw' := hw.symm
    subst hw'
    clear hw
    go_wp2_with fail
    go_ret
    exact ⟨rfl, Below.refl _ _⟩
theorem fuse0 (d : Value) (n : Int) (w : World) (h : Nob w d) : Calls Try.prog 22 #[d, .int .i64 n] w fun e w' => e = .returned (.int .i64 2) ∧ Below w.heap.size w w' := by
  have HM : Hid (∀ W, Below w.heap.size w W → Calls Try.prog 35 #[d] W fun e w' => e = .returned (.bool false) ∧ w' = W) := fun W hB => made0 d W (h.below hB)
  rcases h with rfl | ⟨g, rfl, _⟩
  · go_enter Try.func22, Try.ntmps22
    go_wp2_with fail
    refine (HM.out _ (Below.refl _ _)).mono ?_
    rintro e w1 ⟨rfl, hw⟩
    have hw' := hw.symm
    subst hw'
    clear hw
    go_wp2_with fail
    go_ret
    exact ⟨rfl, Below.refl _ _⟩
  · go_enter Try.func22, Try.ntmps22
    go_wp2_with fail
    refine (HM.out _ (Below.refl _ _)).mono ?_
    rintro e w1 ⟨rfl, hw⟩
    have hw' := hw.symm
    subst hw'
    clear hw
    go_wp2_with fail
    go_ret
    exact ⟨rfl, Below.refl _ _⟩
theorem room0 (d : Value) (n : Int) (w : World) (h : Nob w d) : Calls Try.prog 24 #[d, .int .i64 n] w fun e w' => e = .returned (.int .i64 2) ∧ Below w.heap.size w w' := by
  have HM : Hid (∀ W, Below w.heap.size w W → Calls Try.prog 35 #[d] W fun e w' => e = .returned (.bool false) ∧ w' = W) := fun W hB => made0 d W (h.below hB)
  rcases h with rfl | ⟨g, rfl, _⟩
  · go_enter Try.func24, Try.ntmps24
    go_wp2_with fail
    refine (HM.out _ (Below.refl _ _)).mono ?_
    rintro e w1 ⟨rfl, hw⟩
    have hw' := hw.symm
    subst hw'
    clear hw
    go_wp2_with fail
    go_ret
    exact ⟨rfl, Below.refl _ _⟩
  · go_enter Try.func24, Try.ntmps24
    go_wp2_with fail
    refine (HM.out _ (Below.refl _ _)).mono ?_
    rintro e w1 ⟨rfl, hw⟩
    have hw' := hw.symm
    subst hw'
    clear hw
    go_wp2_with fail
    go_ret
    exact ⟨rfl, Below.refl _ _⟩
theorem used0 (d : Value)  (w : World) (h : Nob w d) : Calls Try.prog 11 #[d] w fun e w' => e = .returned (.int .i64 0) ∧ Below w.heap.size w w' := by
  have HM : Hid (∀ W, Below w.heap.size w W → Calls Try.prog 35 #[d] W fun e w' => e = .returned (.bool false) ∧ w' = W) := fun W hB => made0 d W (h.below hB)
  rcases h with rfl | ⟨g, rfl, _⟩
  · go_enter Try.func11, Try.ntmps11
    go_wp2_with fail
    refine (HM.out _ (Below.refl _ _)).mono ?_
    rintro e w1 ⟨rfl, hw⟩
    have hw' := hw.symm
    subst hw'
    clear hw
    go_wp2_with fail
    go_ret
    exact ⟨rfl, Below.refl _ _⟩
  · go_enter Try.func11, Try.ntmps11
    go_wp2_with fail
    refine (HM.out _ (Below.refl _ _)).mono ?_
    rintro e w1 ⟨rfl, hw⟩
    have hw' := hw.symm
    subst hw'
    clear hw
    go_wp2_with fail
    go_ret
    exact ⟨rfl, Below.refl _ _⟩
theorem zones0 (d : Value)  (w : World) (h : Nob w d) : Calls Try.prog 25 #[d] w fun e w' => e = .returned (.slice none 0 0) ∧ Below w.heap.size w w' := by
  have HM : Hid (∀ W, Below w.heap.size w W → Calls Try.prog 35 #[d] W fun e w' => e = .returned (.bool false) ∧ w' = W) := fun W hB => made0 d W (h.below hB)
  rcases h with rfl | ⟨g, rfl, _⟩
  · go_enter Try.func25, Try.ntmps25
    go_wp2_with fail
    refine (HM.out _ (Below.refl _ _)).mono ?_
    rintro e w1 ⟨rfl, hw⟩
    have hw' := hw.symm
    subst hw'
    clear hw
    go_wp2_with fail
    go_ret
    exact ⟨rfl, Below.refl _ _⟩
  · go_enter Try.func25, Try.ntmps25
    go_wp2_with fail
    refine (HM.out _ (Below.refl _ _)).mono ?_
    rintro e w1 ⟨rfl, hw⟩
    have hw' := hw.symm
    subst hw'
    clear hw
    go_wp2_with fail
    go_ret
    exact ⟨rfl, Below.refl _ _⟩
theorem dead0 (d : Value)  (w : World) (h : Nob w d) : Calls Try.prog 13 #[d] w fun e w' => e = .returned (.bool false) ∧ Below w.heap.size w w' := by
  have HM : Hid (∀ W, Below w.heap.size w W → Calls Try.prog 35 #[d] W fun e w' => e = .returned (.bool false) ∧ w' = W) := fun W hB => made0 d W (h.below hB)
  rcases h with rfl | ⟨g, rfl, _⟩
  · go_enter Try.func13, Try.ntmps13
    go_wp2_with fail
    refine (HM.out _ (Below.refl _ _)).mono ?_
    rintro e w1 ⟨rfl, hw⟩
    have hw' := hw.symm
    subst hw'
    clear hw
    go_wp2_with fail
    go_ret
    exact ⟨rfl, Below.refl _ _⟩
  · go_enter Try.func13, Try.ntmps13
    go_wp2_with fail
    refine (HM.out _ (Below.refl _ _)).mono ?_
    rintro e w1 ⟨rfl, hw⟩
    have hw' := hw.symm
    subst hw'
    clear hw
    go_wp2_with fail
    go_ret
    exact ⟨rfl, Below.refl _ _⟩
theorem copy0 (d : Value)  (w : World) (h : Nob w d) : Calls Try.prog 14 #[d] w fun e w' => e = .returned (.pointer none) ∧ Below w.heap.size w w' := by
  have HM : Hid (∀ W, Below w.heap.size w W → Calls Try.prog 35 #[d] W fun e w' => e = .returned (.bool false) ∧ w' = W) := fun W hB => made0 d W (h.below hB)
  rcases h with rfl | ⟨g, rfl, _⟩
  · go_enter Try.func14, Try.ntmps14
    go_wp2_with fail
    refine (HM.out _ (Below.refl _ _)).mono ?_
    rintro e w1 ⟨rfl, hw⟩
    have hw' := hw.symm
    subst hw'
    clear hw
    go_wp2_with fail
    go_ret
    exact ⟨rfl, Below.refl _ _⟩
  · go_enter Try.func14, Try.ntmps14
    go_wp2_with fail
    refine (HM.out _ (Below.refl _ _)).mono ?_
    rintro e w1 ⟨rfl, hw⟩
    have hw' := hw.symm
    subst hw'
    clear hw
    go_wp2_with fail
    go_ret
    exact ⟨rfl, Below.refl _ _⟩
end Go.Proofs.Ytfjcjaojbdcpeaa
